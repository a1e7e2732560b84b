/-
  Disks that are none.
-/
import Derived.Test.YtfmigkmkdhciiaaKF
namespace Go.Proofs.Ytfmigkmkdhciiaa.K
set_option linter.unusedVariables false
set_option linter.unusedSimpArgs false
set_option maxRecDepth 100000
open Go Go.RowKit Go.Maps Go.MapKept Go.ChangeMaps

/-- A disk that is none: a nil pointer, or an empty struct. -/
def NoneAt (w : World) (ad : Option Addr) : Prop := ad = none ∨ ∃ p, ad = some ⟨p, 0, none⟩ ∧ w.cell? ⟨p, 1, none⟩ = some (.map none)
theorem NoneAt.below {w w' : World} {ad : Option Addr} (h : NoneAt w ad) (hB : Below w.heap.size w w') : NoneAt w' ad := by
  rcases h with rfl | ⟨p, rfl, hc⟩
  · exact .inl rfl
  · exact .inr ⟨p, rfl, (World.cell?_of_block (a := ⟨p, 1, none⟩) (hB.block p (World.block_lt_of_cell? w ⟨p, 1, none⟩ hc))).trans hc⟩
theorem no_none {w : World} {ad : Option Addr} (h : NoneAt w ad) : Calls Try.prog 28 #[.pointer ad] w fun e w' => e = .returned (.bool true) ∧ w = w' := by
  rcases h with rfl | ⟨p, rfl, hc⟩
  · exact none_nil w
  · exact none_empty p w hc
theorem no_refuses {w : World} {ad : Option Addr} (h : NoneAt w ad) (v : Value) : Calls Try.prog 35 #[.pointer ad, v] w fun e w' => e = .returned (.int .i64 1) ∧ w = w' := by
  have hn := no_none h
  clear h
  go_enter Try.func35, Try.ntmps35
  go_wp2_with (go_at_call 28; refine hn.mono ?_; rintro e w' ⟨rfl, rfl⟩)
  go_ret
  exact ⟨rfl, rfl⟩
theorem no_Append {w : World} {ad : Option Addr} (h : NoneAt w ad) (n c : Str) : Calls Try.prog 14 #[.pointer ad, strV n, strV c] w fun e w' => e = .returned (.int .i64 1) ∧ Below w.heap.size w w' := by
  have hB : Below w.heap.size w (w.alloc (.cells #[strV n] 9)) := (Below.refl _ w).alloc (Nat.le_refl _) _
  have hn := no_refuses (h.below hB)
  clear h
  go_enter Try.func14, Try.ntmps14
  go_wp2_with (go_at_call 35; refine (hn _).mono ?_; rintro e w' ⟨rfl, rfl⟩)
  go_ret
  exact ⟨rfl, hB⟩
theorem no_Remove {w : World} {ad : Option Addr} (h : NoneAt w ad) (n : Str) : Calls Try.prog 15 #[.pointer ad, strV n] w fun e w' => e = .returned (.int .i64 1) ∧ Below w.heap.size w w' := by
  have hB : Below w.heap.size w (w.alloc (.cells #[strV n] 9)) := (Below.refl _ w).alloc (Nat.le_refl _) _
  have hn := no_refuses (h.below hB)
  clear h
  go_enter Try.func15, Try.ntmps15
  go_wp2_with (go_at_call 35; refine (hn _).mono ?_; rintro e w' ⟨rfl, rfl⟩)
  go_ret
  exact ⟨rfl, hB⟩
theorem no_Rename {w : World} {ad : Option Addr} (h : NoneAt w ad) (n c : Str) : Calls Try.prog 16 #[.pointer ad, strV n, strV c] w fun e w' => e = .returned (.int .i64 1) ∧ Below w.heap.size w w' := by
  have hB : Below w.heap.size w (w.alloc (.cells #[strV n, strV c] 9)) := (Below.refl _ w).alloc (Nat.le_refl _) _
  have hn := no_refuses (h.below hB)
  clear h
  go_enter Try.func16, Try.ntmps16
  go_wp2_with (go_at_call 35; refine (hn _).mono ?_; rintro e w' ⟨rfl, rfl⟩)
  go_ret
  exact ⟨rfl, hB⟩
theorem no_Sync {w : World} {ad : Option Addr} (h : NoneAt w ad) : Calls Try.prog 17 #[.pointer ad] w fun e w' => e = .returned (.int .i64 1) ∧ w = w' := by
  have hn := no_refuses h
  clear h
  go_enter Try.func17, Try.ntmps17
  go_wp2_with (go_at_call 35; refine (hn _).mono ?_; rintro e w' ⟨rfl, rfl⟩)
  go_ret
  exact ⟨rfl, rfl⟩
theorem no_Crash {w : World} {ad : Option Addr} (h : NoneAt w ad) (k : Int) : Calls Try.prog 9 #[.pointer ad, .int .i64 k] w fun e w' => e = .returned (.int .i64 1) ∧ w = w' := by
  have hn := no_none h
  clear h
  go_enter Try.func9, Try.ntmps9
  go_wp2_with (go_at_call 28; refine hn.mono ?_; rintro e w' ⟨rfl, rfl⟩)
  go_ret
  exact ⟨rfl, rfl⟩
theorem no_Fuse {w : World} {ad : Option Addr} (h : NoneAt w ad) (k : Int) : Calls Try.prog 18 #[.pointer ad, .int .i64 k] w fun e w' => e = .returned (.int .i64 1) ∧ w = w' := by
  have hn := no_none h
  clear h
  go_enter Try.func18, Try.ntmps18
  go_wp2_with (go_at_call 28; refine hn.mono ?_; rintro e w' ⟨rfl, rfl⟩)
  go_ret
  exact ⟨rfl, rfl⟩
theorem no_Down {w : World} {ad : Option Addr} (h : NoneAt w ad) : Calls Try.prog 19 #[.pointer ad] w fun e w' => e = .returned (.bool false) ∧ w = w' := by
  have hn := no_none h
  clear h
  go_enter Try.func19, Try.ntmps19
  go_wp2_with (go_at_call 28; refine hn.mono ?_; rintro e w' ⟨rfl, rfl⟩)
  go_ret
  exact ⟨rfl, rfl⟩
theorem no_Read {w : World} {ad : Option Addr} (h : NoneAt w ad) (n : Str) : Calls Try.prog 13 #[.pointer ad, strV n] w fun e w' => e = .returned (.tuple #[strV [], .int .i64 1]) ∧ w = w' := by
  have hn := no_none h
  clear h
  go_enter Try.func13, Try.ntmps13
  go_wp2_with (go_at_call 28; refine hn.mono ?_; rintro e w' ⟨rfl, rfl⟩)
  go_ret2
  exact ⟨by rfl, rfl⟩
theorem no_List {w : World} {ad : Option Addr} (h : NoneAt w ad) : Calls Try.prog 20 #[.pointer ad] w fun e w' => e = .returned (.slice none 0 0) ∧ w = w' := by
  have hn := no_none h
  clear h
  go_enter Try.func20, Try.ntmps20
  go_wp2_with (go_at_call 28; refine hn.mono ?_; rintro e w' ⟨rfl, rfl⟩)
  go_ret
  exact ⟨rfl, rfl⟩
theorem no_Used {w : World} {ad : Option Addr} (h : NoneAt w ad) : Calls Try.prog 21 #[.pointer ad] w fun e w' => e = .returned (.int .i64 0) ∧ w = w' := by
  have hn := no_none h
  clear h
  go_enter Try.func21, Try.ntmps21
  go_wp2_with (go_at_call 28; refine hn.mono ?_; rintro e w' ⟨rfl, rfl⟩)
  go_ret
  exact ⟨rfl, rfl⟩
theorem no_Units {w : World} {ad : Option Addr} (h : NoneAt w ad) : Calls Try.prog 11 #[.pointer ad] w fun e w' => e = .returned (.int .i64 0) ∧ w = w' := by
  have hn := no_none h
  clear h
  go_enter Try.func11, Try.ntmps11
  go_wp2_with (go_at_call 28; refine hn.mono ?_; rintro e w' ⟨rfl, rfl⟩)
  go_ret
  exact ⟨rfl, rfl⟩
theorem no_Copy {w : World} {ad : Option Addr} (h : NoneAt w ad) : Calls Try.prog 10 #[.pointer ad] w fun e w' => e = .returned (.pointer none) ∧ w = w' := by
  have hn := no_none h
  clear h
  go_enter Try.func10, Try.ntmps10
  go_wp2_with (go_at_call 28; refine hn.mono ?_; rintro e w' ⟨rfl, rfl⟩)
  go_ret
  exact ⟨rfl, rfl⟩
end Go.Proofs.Ytfmigkmkdhciiaa.K
