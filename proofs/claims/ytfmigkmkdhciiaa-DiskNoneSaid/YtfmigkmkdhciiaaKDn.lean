/-
  The law of disks that are none.
-/
import Derived.Test.YtfmigkmkdhciiaaKNl
import Derived.Test.YtfmigkmkdhciiaaKHe
namespace Go.Proofs.Ytfmigkmkdhciiaa.K
set_option linter.unusedVariables false
set_option linter.unusedSimpArgs false
set_option maxRecDepth 100000
open Go Go.RowKit Go.Maps Go.MapKept Go.ChangeMaps

structure NB (n : Nat) (b c : Str) (k : Int) (ad : Option Addr) (w : World) : Prop where
  no : NoneAt w ad
  c1 : w.cell? ⟨n, 1, none⟩ = some (strV b)
  c2 : w.cell? ⟨n, 2, none⟩ = some (strV c)
  c3 : w.cell? ⟨n, 3, none⟩ = some (.int .i64 k)
theorem cell_below {w w' : World} (hB : Below w.heap.size w w') {g i : Nat} {v : Value} (h : w.cell? ⟨g, i, none⟩ = some v) : w'.cell? ⟨g, i, none⟩ = some v :=
  (World.cell?_of_block (a := ⟨g, i, none⟩) (hB.block g (World.block_lt_of_cell? w _ h))).trans h
theorem NB.below {n : Nat} {b c : Str} {k : Int} {ad : Option Addr} {w w' : World} (h : NB n b c k ad w) (hB : Below w.heap.size w w') : NB n b c k ad w' :=
  ⟨h.no.below hB, cell_below hB h.c1, cell_below hB h.c2, cell_below hB h.c3⟩
set_option maxHeartbeats 2000000 in
theorem law_DiskNone (w : World) (a : Int) (b c : Str) (k : Int) :
    Calls Try.prog 4 #[.agg #[.int .u8 a, strV b, strV c, .int .i64 k]] w fun e w' => e = .returned (.bool true) ∧ Below w.heap.size w w' := by
  go_enter Try.func4, Try.ntmps4
  go_wp2
  obtain ⟨W, hW⟩ : ∃ W, ((w.alloc (.cells #[.int .u8 a, strV b, strV c, .int .i64 k] 36)).alloc (.cells #[.int .i64 0, .map none, .map none, .slice none 0 0, .int .i64 0, .int .i64 0, .bool false] 46)).alloc (.cells #[.pointer none, .pointer (some ⟨w.heap.size + 1, 0, none⟩)] 23) = W := ⟨_, rfl⟩
  rw [hW]
  obtain ⟨hb0, hsz, hr0, hr1, hn0, hn1⟩ : Below w.heap.size w W ∧ W.heap.size = w.heap.size + 3 ∧ W.cell? ⟨w.heap.size + 1 + 1, 0, none⟩ = some (.pointer none) ∧ W.cell? ⟨w.heap.size + 1 + 1, 1, none⟩ = some (.pointer (some ⟨w.heap.size + 1, 0, none⟩)) ∧ NB w.heap.size b c k none W ∧ NB w.heap.size b c k (some ⟨w.heap.size + 1, 0, none⟩) W := by
    have e1 : (w.alloc (.cells #[.int .u8 a, strV b, strV c, .int .i64 k] 36)).heap.size = w.heap.size + 1 := by simp
    have e2 : ((w.alloc (.cells #[.int .u8 a, strV b, strV c, .int .i64 k] 36)).alloc (.cells #[.int .i64 0, .map none, .map none, .slice none 0 0, .int .i64 0, .int .i64 0, .bool false] 46)).heap.size = w.heap.size + 2 := by simp
    have c0 : ∀ i, W.cell? ⟨w.heap.size, i, none⟩ = (#[.int .u8 a, strV b, strV c, .int .i64 k] : Array Value)[i]? := fun i => by
      rw [← hW]
      exact (World.cell?_of_block (a := ⟨w.heap.size, i, none⟩) (Below.heap_alloc _ _ _ (by show w.heap.size < _; omega))).trans ((World.cell?_of_block (a := ⟨w.heap.size, i, none⟩) (Below.heap_alloc _ _ _ (by show w.heap.size < _; omega))).trans (cell_new w _ _ i))
    have c1 : W.cell? ⟨w.heap.size + 1, 1, none⟩ = some (.map none) := by
      have := cell_new (w.alloc (.cells #[.int .u8 a, strV b, strV c, .int .i64 k] 36)) #[.int .i64 0, .map none, .map none, .slice none 0 0, .int .i64 0, .int .i64 0, .bool false] 46 1
      rw [e1] at this
      rw [← hW]
      exact (World.cell?_of_block (a := ⟨w.heap.size + 1, 1, none⟩) (Below.heap_alloc _ _ _ (by show w.heap.size + 1 < _; omega))).trans this
    have c2 : ∀ i, W.cell? ⟨w.heap.size + 1 + 1, i, none⟩ = (#[.pointer none, .pointer (some ⟨w.heap.size + 1, 0, none⟩)] : Array Value)[i]? := fun i => by
      have := cell_new ((w.alloc (.cells #[.int .u8 a, strV b, strV c, .int .i64 k] 36)).alloc (.cells #[.int .i64 0, .map none, .map none, .slice none 0 0, .int .i64 0, .int .i64 0, .bool false] 46)) #[.pointer none, .pointer (some ⟨w.heap.size + 1, 0, none⟩)] 23 i
      rw [e2] at this
      rw [← hW]
      exact this
    refine ⟨?_, by rw [← hW]; simp, c2 0, c2 1, ⟨.inl rfl, c0 1, c0 2, c0 3⟩, ⟨.inr ⟨_, rfl, c1⟩, c0 1, c0 2, c0 3⟩⟩
    rw [← hW]
    exact (((Below.refl _ w).alloc (Nat.le_refl _) _).alloc (by omega) _).alloc (by omega) _
  clear hW
  have HW := Lib.hid hb0
  have HN0 := Lib.hid hn0
  have HN1 := Lib.hid hn1
  clear hb0 hn0 hn1
  go_loopw [5] (fun i wr => ∃ j : Nat, j ≤ 2 ∧ i = .int .i64 j ∧ Hid (Below W.heap.size W wr)) (fun i _ => 2 - (intOf i).toNat)
  case atStart => exact ⟨0, by omega, rfl, Lib.hid (Below.refl _ W)⟩
  case round =>
    obtain ⟨j, hj, rfl, HB⟩ := hrel
    have s0 := cell_below HB.out hr0
    have s1 := cell_below HB.out hr1
    obtain rfl | rfl | rfl : j = 0 ∨ j = 1 ∨ j = 2 := by omega
    · have HN := Lib.hid (HN0.out.below HB.out)
      have x1 := HN.out.c1
      have x2 := HN.out.c2
      have x3 := HN.out.c3
      go_wp2_with (first
        | (go_at_call 13; refine (no_Read HN.out.no _).mono ?_; rintro e w' ⟨rfl, rfl⟩)
        | (go_at_call 14; refine (no_Append HN.out.no _ _).mono ?_; rintro e w' ⟨rfl, hb⟩; have HN' := Lib.hid (HN.out.below hb); have HB' := Lib.hid (HB.out.trans (hb.mono HB.out.size)); clear HN HB hb x1 x2 x3; have HN := HN'; have HB := HB'; clear HN' HB'; have x1 := HN.out.c1; have x2 := HN.out.c2; have x3 := HN.out.c3)
        | (go_at_call 15; refine (no_Remove HN.out.no _).mono ?_; rintro e w' ⟨rfl, hb⟩; have HN' := Lib.hid (HN.out.below hb); have HB' := Lib.hid (HB.out.trans (hb.mono HB.out.size)); clear HN HB hb x1 x2 x3; have HN := HN'; have HB := HB'; clear HN' HB'; have x1 := HN.out.c1; have x2 := HN.out.c2; have x3 := HN.out.c3)
        | (go_at_call 16; refine (no_Rename HN.out.no _ _).mono ?_; rintro e w' ⟨rfl, hb⟩; have HN' := Lib.hid (HN.out.below hb); have HB' := Lib.hid (HB.out.trans (hb.mono HB.out.size)); clear HN HB hb x1 x2 x3; have HN := HN'; have HB := HB'; clear HN' HB'; have x1 := HN.out.c1; have x2 := HN.out.c2; have x3 := HN.out.c3)
        | (go_at_call 17; refine (no_Sync HN.out.no).mono ?_; rintro e w' ⟨rfl, rfl⟩)
        | (go_at_call 9; refine (no_Crash HN.out.no _).mono ?_; rintro e w' ⟨rfl, rfl⟩)
        | (go_at_call 18; refine (no_Fuse HN.out.no _).mono ?_; rintro e w' ⟨rfl, rfl⟩)
        | (go_at_call 19; refine (no_Down HN.out.no).mono ?_; rintro e w' ⟨rfl, rfl⟩)
        | (go_at_call 20; refine (no_List HN.out.no).mono ?_; rintro e w' ⟨rfl, rfl⟩)
        | (go_at_call 21; refine (no_Used HN.out.no).mono ?_; rintro e w' ⟨rfl, rfl⟩)
        | (go_at_call 11; refine (no_Units HN.out.no).mono ?_; rintro e w' ⟨rfl, rfl⟩)
        | (go_at_call 10; refine (no_Copy HN.out.no).mono ?_; rintro e w' ⟨rfl, rfl⟩))
      go_roundw
      case rel => exact ⟨1, by omega, by go_num, HB⟩
      case measure => simp [intOf]
    · have HN := Lib.hid (HN1.out.below HB.out)
      have x1 := HN.out.c1
      have x2 := HN.out.c2
      have x3 := HN.out.c3
      go_wp2_with (first
        | (go_at_call 13; refine (no_Read HN.out.no _).mono ?_; rintro e w' ⟨rfl, rfl⟩)
        | (go_at_call 14; refine (no_Append HN.out.no _ _).mono ?_; rintro e w' ⟨rfl, hb⟩; have HN' := Lib.hid (HN.out.below hb); have HB' := Lib.hid (HB.out.trans (hb.mono HB.out.size)); clear HN HB hb x1 x2 x3; have HN := HN'; have HB := HB'; clear HN' HB'; have x1 := HN.out.c1; have x2 := HN.out.c2; have x3 := HN.out.c3)
        | (go_at_call 15; refine (no_Remove HN.out.no _).mono ?_; rintro e w' ⟨rfl, hb⟩; have HN' := Lib.hid (HN.out.below hb); have HB' := Lib.hid (HB.out.trans (hb.mono HB.out.size)); clear HN HB hb x1 x2 x3; have HN := HN'; have HB := HB'; clear HN' HB'; have x1 := HN.out.c1; have x2 := HN.out.c2; have x3 := HN.out.c3)
        | (go_at_call 16; refine (no_Rename HN.out.no _ _).mono ?_; rintro e w' ⟨rfl, hb⟩; have HN' := Lib.hid (HN.out.below hb); have HB' := Lib.hid (HB.out.trans (hb.mono HB.out.size)); clear HN HB hb x1 x2 x3; have HN := HN'; have HB := HB'; clear HN' HB'; have x1 := HN.out.c1; have x2 := HN.out.c2; have x3 := HN.out.c3)
        | (go_at_call 17; refine (no_Sync HN.out.no).mono ?_; rintro e w' ⟨rfl, rfl⟩)
        | (go_at_call 9; refine (no_Crash HN.out.no _).mono ?_; rintro e w' ⟨rfl, rfl⟩)
        | (go_at_call 18; refine (no_Fuse HN.out.no _).mono ?_; rintro e w' ⟨rfl, rfl⟩)
        | (go_at_call 19; refine (no_Down HN.out.no).mono ?_; rintro e w' ⟨rfl, rfl⟩)
        | (go_at_call 20; refine (no_List HN.out.no).mono ?_; rintro e w' ⟨rfl, rfl⟩)
        | (go_at_call 21; refine (no_Used HN.out.no).mono ?_; rintro e w' ⟨rfl, rfl⟩)
        | (go_at_call 11; refine (no_Units HN.out.no).mono ?_; rintro e w' ⟨rfl, rfl⟩)
        | (go_at_call 10; refine (no_Copy HN.out.no).mono ?_; rintro e w' ⟨rfl, rfl⟩))
      go_roundw
      case rel => exact ⟨2, by omega, by go_num, HB⟩
      case measure => simp [intOf]
    · go_wp2_with (go_at_call 7; refine (law_head _).mono ?_; rintro e w' ⟨rfl, hb⟩)
      go_ret
      exact ⟨rfl, HW.out.trans ((HB.out.trans (hb.mono HB.out.size)).mono HW.out.size)⟩
end Go.Proofs.Ytfmigkmkdhciiaa.K
