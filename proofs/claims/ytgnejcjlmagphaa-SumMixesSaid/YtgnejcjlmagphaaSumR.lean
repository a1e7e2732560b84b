/-
  Contracts of the document's answer for package sum.
-/
import Derived.Test.YtgnejcjlmagphaaSumC
namespace Go.Proofs.Ytgnejcjlmagphaa
open Go Go.RowKit Crc

theorem upd_facts (m c : Nat) (hm : m < 4294967296) (hc : c < 256) :
    bits .xor .u32 (m : Int) (c : Int) = ((m ^^^ c : Nat) : Int) ∧ ((m ^^^ c : Nat) : Int) % 256 = (((m ^^^ c) % 256 : Nat) : Int) ∧
    bits .xor .u32 ((ent ((m ^^^ c) % 256) : Nat) : Int) ((m : Int) / 256) = ((upd m c : Nat) : Int) := by
  refine ⟨xor_u32 _ _ hm (by omega), ?_, (take_facts m c hm hc).2⟩
  rw [Int.natCast_emod]; rfl

theorem ref_entry_at (v : Int) (n : Nat) (hv : v = (n : Int)) (hn : n < 4294967296) (w : World) :
    Calls Try.prog 9 #[.int .u32 v] w fun e w' => e = .returned (.int .u32 (ent n : Nat)) ∧ w = w' := by
  subst hv; exact ref_entry n hn w

theorem ref_More (n : Nat) (hn : n < 4294967296) (s : ByteArray) (hs : s.size ≤ maxLen) (W : World) :
    Calls Try.prog 15 #[.int .u32 n, .string s] W fun e w' => e = .returned (.int .u32 (more n s.data.toList : Nat)) ∧ W = w' := by
  unfold maxLen at hs
  go_enter Try.func15, Try.ntmps15
  go_wp2_with (go_at_call 22; refine (ref_turn n hn _).mono ?_; rintro e w1 ⟨rfl, rfl⟩)
  go_loop [5, 6] (fun x i => ∃ k : Nat, k ≤ s.size ∧ i = .int .i64 k ∧ x = .int .u32 (run (turn n) (s.data.toList.take k) : Nat)) (fun _ i => s.size - (intOf i).toNat)
  case atStart => exact ⟨0, Nat.zero_le _, rfl, rfl⟩
  case round =>
    obtain ⟨k, hk, rfl, rfl⟩ := hrel
    obtain ⟨m, hm⟩ : ∃ m : Nat, m = run (turn n) (s.data.toList.take k) := ⟨_, rfl⟩
    have hlt : m < 4294967296 := by rw [hm]; exact run_lt _ _ (turn_lt _)
    rw [← hm]
    have HM : Hid (m = run (turn n) (s.data.toList.take k)) := hm
    clear hm
    by_cases hks : k < s.size
    · have hc := u8_lt s[k]
      obtain ⟨h1, _, h3⟩ := upd_facts m s[k].toNat hlt hc
      have hrun := run_take (turn n) s k hks
      rw [← HM.out] at hrun
      have HR : Hid (run (turn n) (s.data.toList.take (k + 1)) = upd m s[k].toNat) := hrun
      clear hrun
      generalize upd m s[k].toNat = u at h3 HR
      have hxl : m ^^^ s[k].toNat < 4294967296 := xor_lt _ _ hlt (by omega)
      generalize m ^^^ s[k].toNat = x at h1 h3 hxl
      go_wp2_with (go_at_call 9; refine (ref_entry_at _ (x % 256) (by rw [Int.natCast_emod]; rfl) (by omega) _).mono ?_; rintro e w1 ⟨rfl, rfl⟩)
      go_round
      case rel => exact ⟨k + 1, by omega, by go_num, by rw [HR.out]⟩
      case measure => simp [intOf]; omega
    · have : k = s.size := by omega
      subst this
      go_wp2_with (go_at_call 22; refine (ref_turn m hlt _).mono ?_; rintro e w1 ⟨rfl, rfl⟩)
      go_ret
      exact ⟨ret_int (by rw [HM.out, take_all]; rfl), rfl⟩

theorem ref_Sum (s : ByteArray) (hs : s.size ≤ maxLen) (W : World) :
    Calls Try.prog 13 #[.string s] W fun e w' => e = .returned (.int .u32 (sum s.data.toList : Nat)) ∧ W = w' := by
  go_enter Try.func13, Try.ntmps13
  go_wp2_with (go_at_call 15; refine (ref_More 0 (by omega) s hs _).mono ?_; rintro e w1 ⟨rfl, rfl⟩)
  go_ret
  exact ⟨rfl, rfl⟩

theorem ref_Seal (s : ByteArray) (hs : s.size ≤ 1000000) (W : World) :
    Calls Try.prog 17 #[.string s] W fun e w' => e = .returned (.string (s ++ lowB (sum s.data.toList))) ∧ Below W.heap.size W w' := by
  obtain ⟨n, hn⟩ : ∃ n : Nat, n = sum s.data.toList := ⟨_, rfl⟩
  have hlt : n < 4294967296 := by rw [hn]; exact sum_lt _
  have HN : Hid (n = sum s.data.toList) := hn
  rw [← hn]
  clear hn
  have hb : (lowB n).size = 4 := rfl
  have hcv : ∀ w : World, (convert 35 9 (.slice (some ⟨w.heap.size, 0, none⟩) 4 4)).run Try.prog (w.alloc (.cells #[.int .u8 ((n : Int) % 256), .int .u8 ((n : Int) / 256 % 256), .int .u8 ((n : Int) / 65536 % 256), .int .u8 ((n : Int) / 16777216)] 5)) = .ok (.string (lowB n)) (w.alloc (.cells #[.int .u8 ((n : Int) % 256), .int .u8 ((n : Int) / 256 % 256), .int .u8 ((n : Int) / 65536 % 256), .int .u8 ((n : Int) / 16777216)] 5)) := fun w =>
    Lib.run_convert_whole _ 35 5 9 Try.underlying35 Try.underlying5 Try.underlying9 w.heap.size 0 (lowB n) (fun i hi => by
      have hi' : i < 4 := hi
      rw [Nat.zero_add, cell_of_row _ _ _ _ _ _ (heap_alloc_last _ _), lowB_byte n i hi]
      obtain rfl | rfl | rfl | rfl : i = 0 ∨ i = 1 ∨ i = 2 ∨ i = 3 := by omega
      · rw [low_get0, Int.natCast_emod]; rfl
      · rw [low_get1, Int.natCast_emod, Int.natCast_ediv]; rfl
      · rw [low_get2, Int.natCast_emod, Int.natCast_ediv]; rfl
      · rw [low_get3, show n / 16777216 % 256 = n / 16777216 by omega, Int.natCast_ediv]; rfl) 4
  go_enter Try.func17, Try.ntmps17
  go_wp2_with (go_at_call 13; refine (ref_Sum s (small_max hs) _).mono ?_; rw [← HN.out]; rintro e w1 ⟨rfl, rfl⟩)
  go_ret
  exact ⟨rfl, (Below.refl _ _).alloc (Nat.le_refl _) _⟩

theorem ropen_test (s : ByteArray) (h4 : 4 ≤ s.size) : ((s.extract 0 (s.size - 4) ++ lowB (sum (s.data.toList.take (s.size - 4)))).toList == s.toList) = isSealed s.data.toList := by
  unfold isSealed
  rw [Lib.toList_data, Lib.toList_data, len_toList, ByteArray.data_append, Array.toList_append, ext_take]
  rw [Bool.eq_iff_iff]
  simp only [beq_iff_eq, Bool.and_eq_true, decide_eq_true_eq]
  exact ⟨fun x => ⟨h4, x⟩, fun x => x.2⟩

set_option maxHeartbeats 1000000 in
theorem ref_Open (s : ByteArray) (hs : s.size ≤ 1000000) (W : World) :
    Calls Try.prog 11 #[.string s] W fun e w' => e = .returned (.tuple #[.string (bodyB s), .bool (isSealed s.data.toList)]) ∧ Below W.heap.size W w' := by
  by_cases h4 : s.size < 4
  · unfold bodyB
    rw [isSealed_short s h4]
    go_enter Try.func11, Try.ntmps11
    go_wp2
    go_ret2
    exact ⟨rfl, Below.refl _ _⟩
  · unfold bodyB
    have htt := ropen_test s (by omega)
    have hd : decide ((s.size : Int) < 4) = false := by simp; omega
    have ht := ext_size s (s.size - 4) (by omega)
    have hl : (s.extract 0 (s.size - 4)).size ≤ 1000000 := by omega
    clear ht
    generalize hb : isSealed s.data.toList = b at htt ⊢
    clear hb
    cases b
    all_goals
      go_enter Try.func11, Try.ntmps11
      go_wp2_with (go_at_call 17; refine (ref_Seal _ hl _).mono ?_; rintro e w1 ⟨rfl, hb1⟩)
      go_ret2
      exact ⟨rfl, hb1⟩

end Go.Proofs.Ytgnejcjlmagphaa
