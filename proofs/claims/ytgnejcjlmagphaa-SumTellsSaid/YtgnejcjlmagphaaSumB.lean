/-
  Contracts of package sum and of the document's answer for it: sums, sealed bytes.
-/
import Derived.Test.YtgnejcjlmagphaaSumA
import Derived.Lib.Strings
import Derived.Lib.SlBytesRow
namespace Go.Proofs.Ytgnejcjlmagphaa
open Go Go.RowKit Crc

theorem take_snoc (s : ByteArray) (k : Nat) (h : k < s.size) : s.data.toList.take (k + 1) = s.data.toList.take k ++ [s[k]] := by
  rw [List.take_succ_eq_append_getElem (by simpa using h)]; rfl
theorem take_all (s : ByteArray) : s.data.toList.take s.size = s.data.toList := List.take_of_length_le (by simp)
theorem len_toList (s : ByteArray) : s.data.toList.length = s.size := by simp

theorem run_take (n : Nat) (s : ByteArray) (k : Nat) (h : k < s.size) : run n (s.data.toList.take (k + 1)) = upd (run n (s.data.toList.take k)) s[k].toNat := by
  rw [take_snoc s k h, run_snoc]
theorem take_facts (m c : Nat) (hm : m < 4294967296) (hc : c < 256) :
    bits .xor .u8 ((m : Int) % 256) (c : Int) = (((m ^^^ c) % 256 : Nat) : Int) ∧
    bits .xor .u32 ((ent ((m ^^^ c) % 256) : Nat) : Int) ((m : Int) / 256) = ((upd m c : Nat) : Int) := by
  constructor
  · have := xor_u8 (m % 256) c (by omega) hc
    rw [Int.natCast_emod] at this
    rw [show ((256 : Nat) : Int) = 256 by rfl] at this
    rw [this, xor_mod256, Nat.mod_eq_of_lt hc]
  · have := xor_u32 (ent ((m ^^^ c) % 256)) (m / 256) (ent_lt _ (by omega)) (by omega)
    rw [Int.natCast_ediv] at this
    exact this

theorem sum_takeBytes (n : Nat) (hn : n < 4294967296) (s : ByteArray) (hs : s.size ≤ maxLen) (W : World) :
    Calls Try.prog 21 #[.agg (tabCells 256), .int .u32 n, .string s] W fun e w' => e = .returned (.int .u32 (run n s.data.toList : Nat)) ∧ Below W.heap.size W w' := by
  unfold maxLen at hs
  go_enter Try.func21, Try.ntmps21
  go_wp2
  go_loop [1, 10, 7] (fun x i _ => ∃ k : Nat, k ≤ s.size ∧ i = .int .i64 k ∧ x = .int .u32 (run n (s.data.toList.take k) : Nat)) (fun _ i _ => s.size - (intOf i).toNat)
  case atStart => exact ⟨0, Nat.zero_le _, rfl, rfl⟩
  case round =>
    obtain ⟨k, hk, rfl, rfl⟩ := hrel
    obtain ⟨m, hm⟩ : ∃ m : Nat, m = run n (s.data.toList.take k) := ⟨_, rfl⟩
    have hlt : m < 4294967296 := by rw [hm]; exact run_lt _ _ hn
    rw [← hm]
    have HM : Hid (m = run n (s.data.toList.take k)) := hm
    clear hm
    by_cases hks : k < s.size
    · have hc := u8_lt s[k]
      obtain ⟨h1, h2⟩ := take_facts m s[k].toNat hlt hc
      have hj : (m ^^^ s[k].toNat) % 256 < 256 := Nat.mod_lt _ (by omega)
      have hcell : (W.alloc (.cells (tabCells 256) 24)).cell? ⟨W.heap.size, (m ^^^ s[k].toNat) % 256, none⟩ = some (.int .u32 ((ent ((m ^^^ s[k].toNat) % 256) : Nat) : Int)) := by
        rw [cell_of_row _ _ _ _ _ _ (heap_alloc_last _ _), tab_at _ _ hj, if_pos hj]
      go_wp2
      go_round
      case rel => exact ⟨k + 1, by omega, by go_num, by rw [run_take n s k hks, ← HM.out]⟩
      case measure => simp [intOf]; omega
    · have : k = s.size := by omega
      subst this
      go_wp2
      go_ret
      exact ⟨ret_int (by rw [HM.out, take_all]), (Below.refl _ _).alloc (Nat.le_refl _) _⟩

theorem not_u32 (n : Nat) (h : n < 4294967296) : bits .xor .u32 IntKind.u32.max (n : Int) = ((turn n : Nat) : Int) := by
  have := xor_u32 4294967295 n (by omega) h
  rw [Nat.xor_comm, ← turn_xor n h] at this
  exact this
theorem sg_u32 : IntKind.u32.signed = false := rfl

theorem sum_More (n : Nat) (hn : n < 4294967296) (s : ByteArray) (hs : s.size ≤ maxLen) (W : World) :
    Calls Try.prog 14 #[.int .u32 n, .string s] W fun e w' => e = .returned (.int .u32 (more n s.data.toList : Nat)) ∧ Below W.heap.size W w' := by
  have hsg := sg_u32
  have hn1 := not_u32 n hn
  have hn2 := not_u32 (run (turn n) s.data.toList) (run_lt _ _ (turn_lt n))
  go_enter Try.func14, Try.ntmps14
  go_wp2_with (first | (go_at_call 8; refine (sum_Table _).mono ?_; rintro e w1 ⟨rfl, hb1⟩) | (go_at_call 21; refine (sum_takeBytes (turn n) (turn_lt n) s hs _).mono ?_; rintro e w2 ⟨rfl, hb2⟩))
  go_ret
  exact ⟨rfl, hb1.trans (hb2.mono hb1.size)⟩

theorem sum_Sum (s : ByteArray) (hs : s.size ≤ maxLen) (W : World) :
    Calls Try.prog 12 #[.string s] W fun e w' => e = .returned (.int .u32 (sum s.data.toList : Nat)) ∧ Below W.heap.size W w' := by
  go_enter Try.func12, Try.ntmps12
  go_wp2_with (go_at_call 14; refine (sum_More 0 (by omega) s hs _).mono ?_; rintro e w1 ⟨rfl, hb1⟩)
  go_ret
  exact ⟨rfl, hb1⟩

def lowB (n : Nat) : ByteArray := ⟨(low n).toArray⟩
def lowCells (n k : Nat) : Array Value := (Array.range 4).map fun j => .int .u8 (if j < k then ((low n).getD j 0).toNat else 0 : Nat)
theorem low_size (n k : Nat) : (lowCells n k).size = 4 := by simp [lowCells]
theorem low_at (n k j : Nat) (h : j < 4) : (lowCells n k)[j]? = some (.int .u8 (if j < k then ((low n).getD j 0).toNat else 0 : Nat)) := by
  simp [lowCells, h]
theorem low_set (n k : Nat) (v : Int) (h : v = (((low n).getD k 0).toNat : Nat)) : (lowCells n k).setIfInBounds k (.int .u8 v) = lowCells n (k + 1) := by
  subst h
  apply Array.ext_getElem?; intro i
  by_cases hi : i < 4
  · rw [low_at _ _ _ hi, Array.getElem?_setIfInBounds, low_at _ _ _ hi, low_size]
    by_cases he : k = i
    · subst he; simp [hi]
    · simp only [he, if_false]
      by_cases hl : i < k
      · simp [hl, show i < k + 1 by omega]
      · simp [hl, show ¬ i < k + 1 by omega]
  · rw [Array.getElem?_eq_none (by simp [low_size]; omega), Array.getElem?_eq_none (by simp [low_size]; omega)]
theorem low_info : (Try.prog.info? 41).map (fun i => (i.zero, i.size)) = some (some (.agg (lowCells 0 0)), 4) := by kernel_rfl
theorem low_zero (n : Nat) : lowCells 0 0 = lowCells n 0 := by simp [lowCells]
theorem low_get0 (n : Nat) : ((low n).getD 0 0).toNat = n % 256 := by simp [low, UInt8.toNat_ofNat']
theorem low_get1 (n : Nat) : ((low n).getD 1 0).toNat = n / 256 % 256 := by simp [low, UInt8.toNat_ofNat']
theorem low_get2 (n : Nat) : ((low n).getD 2 0).toNat = n / 65536 % 256 := by simp [low, UInt8.toNat_ofNat']
theorem low_get3 (n : Nat) : ((low n).getD 3 0).toNat = n / 16777216 % 256 := by simp [low, UInt8.toNat_ofNat']

theorem lowB_byte (n i : Nat) (h : i < (lowB n).size) : (lowB n)[i].toNat = ((low n).getD i 0).toNat := by
  have h' : i < 4 := h
  obtain rfl | rfl | rfl | rfl : i = 0 ∨ i = 1 ∨ i = 2 ∨ i = 3 := by omega
  all_goals rfl

theorem sum_lowestFirst (n : Nat) (hn : n < 4294967296) (W : World) :
    Calls Try.prog 19 #[.int .u32 n] W fun e w' => e = .returned (.string (lowB n)) ∧ Below W.heap.size W w' := by
  obtain ⟨hz, hi⟩ := zero_of_info low_info
  go_enter Try.func19, Try.ntmps19
  go_wp2
  go_loopw [5, 4] (fun i _ wr => ∃ k : Nat, k ≤ 4 ∧ i = .int .i64 k ∧ Below W.heap.size W wr ∧ wr.heap[W.heap.size]? = some (.cells (lowCells n k) 41 (0, 0))) (fun i _ _ => 4 - (intOf i).toNat)
  case atStart => exact ⟨0, by omega, rfl, (Below.refl _ _).alloc (Nat.le_refl _) _, by rw [← low_zero]; exact heap_alloc_last _ _⟩
  case round =>
    obtain ⟨k, hk, rfl, hb, hg⟩ := hrel
    by_cases hlt : k < 4
    · have hc : wr.cell? ⟨W.heap.size, k, none⟩ = some (.int .u8 0) := by
        rw [cell_of_row _ _ _ _ _ _ hg, low_at _ _ _ hlt, if_neg (by omega)]; rfl
      have hf : wr.frozen? ⟨W.heap.size, k, none⟩ = false := frozen_of_row _ _ _ _ _ hg
      have HG : Hid (wr.heap[W.heap.size]? = some (.cells (lowCells n k) 41 (0, 0))) := hg
      clear hg
      obtain rfl | rfl | rfl | rfl : k = 0 ∨ k = 1 ∨ k = 2 ∨ k = 3 := by omega
      all_goals go_wp2
      all_goals go_roundw
      case rel => exact ⟨1, by omega, by go_num, hb.setCell (Nat.le_refl _) _, by rw [heap_setCell_same _ _ _ _ _ _ HG.out, low_set _ _ _ (by rw [low_get0]; omega)]⟩
      case measure => simp [intOf]
      case rel => exact ⟨2, by omega, by go_num, hb.setCell (Nat.le_refl _) _, by rw [heap_setCell_same _ _ _ _ _ _ HG.out, low_set _ _ _ (by rw [low_get1]; omega)]⟩
      case measure => simp [intOf]
      case rel => exact ⟨3, by omega, by go_num, hb.setCell (Nat.le_refl _) _, by rw [heap_setCell_same _ _ _ _ _ _ HG.out, low_set _ _ _ (by rw [low_get2]; omega)]⟩
      case measure => simp [intOf]
      case rel => exact ⟨4, by omega, by go_num, hb.setCell (Nat.le_refl _) _, by rw [heap_setCell_same _ _ _ _ _ _ HG.out, low_set _ _ _ (by rw [low_get3]; omega)]⟩
      case measure => simp [intOf]
    · have : k = 4 := by omega
      subst this
      have hcv : (convert 35 9 (.slice (some ⟨W.heap.size, 0, none⟩) 4 4)).run Try.prog wr = .ok (.string (lowB n)) wr :=
        Lib.run_convert_whole wr 35 5 9 Try.underlying35 Try.underlying5 Try.underlying9 W.heap.size 0 (lowB n) (fun i hi => by
          have hi' : i < 4 := hi
          rw [Nat.zero_add, cell_of_row _ _ _ _ _ _ hg, low_at _ _ _ hi', if_pos hi']
          rw [lowB_byte n i hi]) 4
      clear hg
      go_wp2
      go_ret
      exact ⟨rfl, hb⟩

theorem small_max {n : Nat} (h : n ≤ 1000000) : n ≤ maxLen := by unfold maxLen; omega
theorem sum_Seal (s : ByteArray) (hs : s.size ≤ 1000000) (W : World) :
    Calls Try.prog 16 #[.string s] W fun e w' => e = .returned (.string (s ++ lowB (sum s.data.toList))) ∧ Below W.heap.size W w' := by
  go_enter Try.func16, Try.ntmps16
  have h4 : (lowB (sum s.data.toList)).size = 4 := rfl
  go_wp2_with (first | (go_at_call 12; refine (sum_Sum s (small_max hs) _).mono ?_; rintro e w1 ⟨rfl, hb1⟩) | (go_at_call 19; refine (sum_lowestFirst _ (sum_lt _) _).mono ?_; rintro e w2 ⟨rfl, hb2⟩))
  go_ret
  exact ⟨rfl, hb1.trans (hb2.mono hb1.size)⟩

end Go.Proofs.Ytgnejcjlmagphaa
