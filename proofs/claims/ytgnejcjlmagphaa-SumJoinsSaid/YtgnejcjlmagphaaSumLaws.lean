/-
  The walks of the laws of stage 1: each returns true, and writes nothing that was there.
-/
import Derived.Test.YtgnejcjlmagphaaSumH
namespace Go.Proofs.Ytgnejcjlmagphaa
open Go Go.RowKit Crc

theorem u32_nat {a : Int} (h : (Lit.int .u32 a).wf = true) : ∃ n : Nat, a = (n : Int) ∧ n < 4294967296 := by
  have hx : 0 ≤ a ∧ a ≤ 4294967295 := by simpa [Lit.wf, IntKind.min, IntKind.max, IntKind.signed, IntKind.bits] using h
  exact ⟨a.toNat, by omega, by omega⟩
theorem u16_nat {a : Int} (h : (Lit.int .u16 a).wf = true) : ∃ n : Nat, a = (n : Int) ∧ n < 65536 := by
  have hx : 0 ≤ a ∧ a ≤ 65535 := by simpa [Lit.wf, IntKind.min, IntKind.max, IntKind.signed, IntKind.bits] using h
  exact ⟨a.toNat, by omega, by omega⟩

theorem ref_entry_same (k : Nat) (hk : k < 256) (w : World) :
    Calls Try.prog 9 #[.int .u32 (k : Int)] w fun e w' => e = .returned (.int .u32 (ent k : Nat)) ∧ w = w' := ref_entry k (by omega) w

set_option maxHeartbeats 2000000 in
set_option maxRecDepth 100000 in
theorem law_SumTells (s : ByteArray) (a1 : Int) (hs : s.size ≤ maxLen) (h1 : (Lit.int .u32 a1).wf = true) (W : World) :
    Calls Try.prog 3 #[.string s, .int .u32 a1] W fun e w' => e = .returned (.bool true) ∧ Below W.heap.size W w' := by
  obtain ⟨n, rfl, hn⟩ := u32_nat h1
  clear h1
  obtain ⟨hz, hi⟩ := zero_of_info tab_info
  unfold maxLen at hs
  by_cases h3 : 3000 < s.size
  · go_enter Try.func3, Try.ntmps3
    go_wp2_with (go_at_call 7; refine (law_head _).mono ?_; rintro e w1 ⟨rfl, hb1⟩)
    go_ret
    exact ⟨rfl, hb1⟩
  · have hm : s.size ≤ maxLen := by unfold maxLen; omega
    have hl : s.size ≤ 1000000 := by omega
    clear hs
    go_enter Try.func3, Try.ntmps3
    go_wp2_with (first
      | (go_at_call 8; refine (sum_Table _).mono ?_; rintro e w1 ⟨rfl, hb1⟩)
      | (refine wpList_store_row rfl _ _ _ rfl _ (tabCells 256) rfl rfl 24 _ (heap_alloc_last _ _) (by rw [tab_size]; kernel_rfl) (by rw [tab_size, tab_size]) (tab_one_cell _) ?_; rw [World.setRow_alloc_new]))
    go_loopw [6] (fun i wr => ∃ k : Nat, k ≤ 256 ∧ i = .int .i64 k ∧ Below W.heap.size W wr ∧ TabAt wr w1.heap.size) (fun i _ => 256 - (intOf i).toNat)
    case atStart => exact ⟨0, by omega, rfl, hb1.alloc hb1.size _, heap_alloc_last _ _⟩
    case round =>
      obtain ⟨k, hk, rfl, hb, hT⟩ := hrel
      by_cases hlt : k < 256
      · have hce : ∀ p : Later wr.heap.size wr, p.val.cell? ⟨w1.heap.size, k, none⟩ = some (.int .u32 (ent k : Nat)) := fun p => (hT.below p.ok).cell k hlt
        go_wp2_with fail
        have hm32 : (k : Int) % 4294967296 = (k : Int) := by omega
        refine wp_region_later wr.heap.size (by kernel_rfl) (by kernel_rfl) ?_
        repeat (go_big_quiet_step ((go_at_call 9; exact Calls.later_same (ref_entry_same k hlt _))))
        refine wpQuiet_nil ?_
        rintro _ ⟨p, rfl⟩
        go_wp2
        go_roundw
        case rel => exact ⟨k + 1, by omega, by go_num, hb.trans (p.ok.mono hb.size), hT.below p.ok⟩
        case measure => simp [intOf]; omega
      · have : k = 256 := by omega
        subst this
        go_wp2_with (first
          | (go_at_call 10; refine (sum_Open s hl _).mono ?_; rintro e w2 ⟨rfl, hb2⟩)
          | (go_at_call 11; refine (ref_Open s hl _).mono ?_; rintro e w3 ⟨rfl, hb3⟩)
          | (go_at_call 12; refine (sum_Sum s hm _).mono ?_; rintro e w4 ⟨rfl, hb4⟩)
          | (go_at_call 13; refine (ref_Sum s hm _).mono ?_; rintro e w5 ⟨rfl, rfl⟩)
          | (go_at_call 14; refine (sum_More n hn s hm _).mono ?_; rintro e w6 ⟨rfl, hb6⟩)
          | (go_at_call 15; refine (ref_More n hn s hm _).mono ?_; rintro e w7 ⟨rfl, rfl⟩)
          | (go_at_call 16; refine (sum_Seal s hl _).mono ?_; rintro e w8 ⟨rfl, hb8⟩)
          | (go_at_call 17; refine (ref_Seal s hl _).mono ?_; rintro e w9 ⟨rfl, hb9⟩)
          | (go_at_call 7; refine (law_head _).mono ?_; rintro e w10 ⟨rfl, hb10⟩))
        go_ret
        have h3 := below_next hb2 hb3
        have h4 := below_next h3 hb4
        have h6 := below_next h4 hb6
        have h8 := below_next h6 hb8
        have h9 := below_next h8 hb9
        exact ⟨rfl, hb.trans ((below_next h9 hb10).mono hb.size)⟩

theorem more_join (s : ByteArray) (k : Nat) (hs : s.size ≤ 1000000) (v : Int) (hv : v = (sum (s.data.toList.take k) : Nat)) (W : World) :
    Calls Try.prog 14 #[.int .u32 v, .string (s.extract k s.size)] W fun e w' => e = .returned (.int .u32 (sum s.data.toList : Nat)) ∧ Below W.heap.size W w' := by
  subst hv
  have h := sum_More (sum (s.data.toList.take k)) (sum_lt _) (s.extract k s.size) (small_max (by simp [ByteArray.size_extract]; omega)) W
  rw [ext_drop] at h
  unfold sum at h
  rw [more_append, List.take_append_drop] at h
  exact h
theorem sum_take (s : ByteArray) (k : Nat) (hs : s.size ≤ 1000000) (hk : k ≤ s.size) (W : World) :
    Calls Try.prog 12 #[.string (s.extract 0 k)] W fun e w' => e = .returned (.int .u32 (sum (s.data.toList.take k) : Nat)) ∧ Below W.heap.size W w' := by
  have h := sum_Sum (s.extract 0 k) (by rw [ext_size _ _ hk]; exact small_max (by omega)) W
  rw [ext_take] at h
  exact h

set_option maxHeartbeats 2000000 in
set_option maxRecDepth 100000 in
theorem law_SumJoins (s : ByteArray) (a1 : Int) (hs : s.size ≤ maxLen) (h1 : (Lit.int .u16 a1).wf = true) (W : World) :
    Calls Try.prog 4 #[.string s, .int .u16 a1] W fun e w' => e = .returned (.bool true) ∧ Below W.heap.size W w' := by
  obtain ⟨n, rfl, hn⟩ := u16_nat h1
  clear h1
  by_cases h3 : 3000 < s.size
  · unfold maxLen at hs
    go_enter Try.func4, Try.ntmps4
    go_wp2_with (go_at_call 7; refine (law_head _).mono ?_; rintro e w1 ⟨rfl, hb1⟩)
    go_ret
    exact ⟨rfl, hb1⟩
  · have hl : s.size ≤ 900000 := by omega
    have hl' : s.size ≤ 1000000 := by omega
    have hm : s.size ≤ maxLen := hs
    clear hs
    obtain ⟨k, hk⟩ : ∃ k : Nat, k = n % (s.size + 1) := ⟨_, rfl⟩
    have hkl : k ≤ s.size := by have := Nat.mod_lt n (show s.size + 1 > 0 by omega); omega
    have hki : (n : Int) % ((s.size : Int) + 1) = (k : Int) := by rw [hk]; simp
    clear hk
    obtain ⟨x, hx⟩ : ∃ x : ByteArray, x = s ++ lowB (sum s.data.toList) := ⟨_, rfl⟩
    have hxs : x.size = s.size + 4 := by rw [hx]; exact sealedB_size s
    have hxe : x.extract 0 s.size = s := toList_inj (by rw [ext_take, hx, sealedB_list]; unfold sealed; rw [← len_toList s, List.take_left])
    have hseal : ∀ W, Calls Try.prog 16 #[.string s] W fun e w' => e = .returned (.string x) ∧ Below W.heap.size W w' := fun W => by rw [hx]; exact sum_Seal s hl' W
    have hopen : ∀ W, Calls Try.prog 10 #[.string x] W fun e w' => e = .returned (.tuple #[.string s, .bool true]) ∧ Below W.heap.size W w' := fun W => by rw [hx]; exact open_sealed s hl W
    have HX : Hid (x = s ++ lowB (sum s.data.toList)) := hx
    clear hx
    go_enter Try.func4, Try.ntmps4
    go_wp2_with (first
      | (go_at_call 16; refine (hseal _).mono ?_; rintro e w1 ⟨rfl, hb1⟩)
      | (go_at_call 10; refine (hopen _).mono ?_; rintro e w2 ⟨rfl, hb2⟩))
    refine wp_region_later w2.heap.size (by kernel_rfl) (by kernel_rfl) ?_
    repeat (go_big_quiet_step (first
      | (go_at_call 14; exact Calls.later_of (Nat.le_refl _) (more_join s k hl' _ rfl _))
      | (go_at_call 12; exact Calls.later_of (Nat.le_refl _) (sum_take s k hl' hkl _))
      | (go_at_call 12; exact Calls.later_of (Nat.le_refl _) (sum_Sum s hm _))))
    refine wpQuiet_nil ?_
    rintro _ ⟨p, rfl⟩
    go_wp2_with (go_at_call 7; refine (law_head _).mono ?_; rintro e w3 ⟨rfl, hb3⟩)
    go_ret
    exact ⟨rfl, below_next (below_next (below_next hb1 hb2) p.ok) hb3⟩

end Go.Proofs.Ytgnejcjlmagphaa
