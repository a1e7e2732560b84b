/-
  Contracts of package sum: sealed bytes opened.
-/
import Derived.Test.YtgnejcjlmagphaaSumB
import Derived.Lib.UnsafeStr
import Derived.Lib.BufferWrite
import Derived.Lib.Walk
import Derived.Lib.Hide
import Derived.Laws.MakeOwn
namespace Go.Proofs.Ytgnejcjlmagphaa
open Go Go.RowKit Crc

theorem ext_take (s : ByteArray) (k : Nat) : (s.extract 0 k).data.toList = s.data.toList.take k := by
  rw [Lib.extract_data]; simp
theorem ext_size (s : ByteArray) (k : Nat) (h : k ≤ s.size) : (s.extract 0 k).size = k := by
  simp [ByteArray.size_extract]; omega
theorem ext_drop (s : ByteArray) (k : Nat) : (s.extract k s.size).data.toList = s.data.toList.drop k := by
  rw [Lib.extract_data]
  exact List.take_of_length_le (by simp)

theorem open_short (s : ByteArray) (hs : s.size ≤ 1000000) (h4 : s.size < 4) (W : World) :
    Calls Try.prog 10 #[.string s] W fun e w' => e = .returned (.tuple #[.string ⟨#[]⟩, .bool false]) ∧ Below W.heap.size W w' := by
  have hd : decide ((s.size : Int) - 4 < 0) = true := by simp; omega
  go_enter Try.func10, Try.ntmps10
  go_wp2_with fail
  refine wp_region_later W.heap.size (by kernel_rfl) (by kernel_rfl) ?_
  repeat (go_big_quiet_step (fail))
  refine wpQuiet_nil ?_
  rintro _ ⟨p, rfl⟩
  go_wp2
  go_ret2
  exact ⟨rfl, p.ok⟩

theorem open_test (s : ByteArray) (h4 : 4 ≤ s.size) : ((s.extract (s.size - 4) s.size).toList == (lowB (sum (s.data.toList.take (s.size - 4)))).toList) = isSealed s.data.toList := by
  have h : 4 ≤ s.data.toList.length := by simpa using h4
  have e := sealed_eq_iff s.data.toList
  rw [len_toList] at e
  unfold isSealed
  rw [Lib.toList_data, Lib.toList_data, ext_drop, len_toList]
  rw [Bool.eq_iff_iff]
  simp only [beq_iff_eq, Bool.and_eq_true, decide_eq_true_eq]
  rw [e]
  exact ⟨fun x => ⟨h4, x⟩, fun x => x.2⟩

theorem u8_info : (Try.prog.info? 5).map (fun i => (i.zero, i.size, i.bytes)) = some (some (.int .u8 0), 1, 1) := by kernel_rfl

set_option maxHeartbeats 1000000 in
set_option maxRecDepth 100000 in
/-- A fresh copy: the same bytes. -/
theorem lite_Clone (s : ByteArray) (w : World) (hlim : s.size ≤ 1000000) :
    Calls Try.prog 23 #[.string s] w fun e w' => e = .returned (.string s) ∧ Below w.heap.size w w' := by
  by_cases h0 : s.size = 0
  · have hs : s = ⟨#[]⟩ := by
      apply ByteArray.ext
      exact Array.eq_empty_of_size_eq_zero h0
    subst hs
    go_enter Try.func23, Try.ntmps23
    go_wp2
    go_ret
    exact ⟨rfl, Below.refl _ _⟩
  · obtain ⟨i0, hi, hz0, hz1, hz2⟩ := info_parts u8_info
    have hinfo : (Try.prog.info? 5).map (·.size) = some 1 := by rw [hi]; simp [hz1]
    have hco : Try.prog.cellsOf 5 = 1 := by simp [Program.cellsOf, hi, hz1]
    obtain ⟨M, hM⟩ : ∃ M, M = madeCells (Value.int .u8 0).cells (((s.size : Nat) : Int).toNat * i0.size) := ⟨_, rfl⟩
    have hMs : M.size = s.size := by rw [hM, size_madeCells, hz1]; simp
    have hmk : ∀ W : World, (Instr.makeSlice 35 (.int .i64 (s.size : Int)) (.int .i64 (s.size : Int))).run Try.prog W = .ok (.slice (some ⟨W.heap.size, 0, none⟩) s.size s.size) (W.alloc (.cells M 5)) := fun W => by
      have h := run_make (P := Try.prog) W 35 5 i0 (.int .u8 0) Try.underlying35 hi hz0 .i64 .i64 (s.size : Int) (s.size : Int) (by omega) (by omega) (by rw [hz2]; omega) (by omega)
      rw [← hM] at h
      simpa using h
    clear hM
    have hcp := Lib.run_copy_row_string (P := Try.prog) (w.alloc (.cells M 5)) 35 9 3 5 w.heap.size 0 s.size s.size s M 5 Try.underlying35 hinfo (heap_alloc_new w _) (Nat.le_refl _) (by omega)
    obtain ⟨Y, hY⟩ : ∃ Y, Y = (M.toList.take 0 ++ Lib.byteCells s.data.toList ++ M.toList.drop (0 + s.size)).toArray := ⟨_, rfl⟩
    rw [← hY] at hcp
    have hYl : Y.toList = Lib.byteCells s.data.toList := by
      rw [hY, List.toList_toArray, List.take_zero, List.nil_append, List.drop_of_length_le (by rw [Array.length_toList]; omega), List.append_nil]
    have hYs : Y.size = s.size := by rw [← Array.length_toList, hYl, Lib.byteCells_length, ← Lib.size_eq]
    have hgY : ((w.alloc (.cells M 5)).setRow w.heap.size Y).heap[w.heap.size]? = some (.cells Y 5 (0, 0)) := setRow_heap _ _ M _ 5 (0, 0) (heap_alloc_new w _)
    have hne : s.data.toList ≠ [] := fun e => h0 (by rw [Lib.size_eq, e]; rfl)
    have hUS := Lib.run_unsafeString_row (P := Try.prog) ((w.alloc (.cells M 5)).setRow w.heap.size Y) 42 3 9 5 Try.underlying42 hco w.heap.size Y.size (by unfold World.shape?; rw [hgY]) s.data.toList hne (by rw [← Lib.size_eq]; omega) (by rw [← Lib.size_eq]; omega)
      (fun j x hx => Lib.cells_of_row hgY Y.size j _ (by rw [List.take_of_length_le (by rw [Array.length_toList]; exact Nat.le_refl _), hYl]; simp [Lib.byteCells, hx]))
    rw [← Lib.size_eq] at hUS
    clear hY
    go_enter Try.func23, Try.ntmps23
    go_wp2
    go_ret
    have hb1 : Below w.heap.size w (w.alloc (.cells M 5)) := (Below.refl _ w).alloc (Nat.le_refl _) _
    have hb2 : Below w.heap.size (w.alloc (.cells M 5)) ((w.alloc (.cells M 5)).setRow w.heap.size Y) := ⟨rfl, rfl, rfl, by simp, fun k hk => setRow_other _ _ _ _ (by omega)⟩
    exact ⟨rfl, Lib.below_freeze (hb1.trans hb2) (p := ⟨w.heap.size, 0, none⟩) (Nat.le_refl _) _⟩

theorem strings_Clone (s : ByteArray) (w : World) (hlim : s.size ≤ 1000000) :
    Calls Try.prog 20 #[.string s] w fun e w' => e = .returned (.string s) ∧ Below w.heap.size w w' := by
  go_enter Try.func20, Try.ntmps20
  go_wp2_with (go_at_call 23; refine (lite_Clone s _ hlim).mono ?_; rintro e w1 ⟨rfl, hb1⟩)
  go_ret
  exact ⟨rfl, hb1⟩

/-- What is opened. -/
def bodyB (s : ByteArray) : ByteArray := if isSealed s.data.toList then s.extract 0 (s.size - 4) else ⟨#[]⟩
theorem isSealed_short (s : ByteArray) (h4 : s.size < 4) : isSealed s.data.toList = false := by
  unfold isSealed; rw [len_toList]; simp; omega

set_option maxHeartbeats 1000000 in
theorem open_long (s : ByteArray) (hs : s.size ≤ 1000000) (h4 : 4 ≤ s.size) (b : Bool) (hb : isSealed s.data.toList = b) (W : World) :
    Calls Try.prog 10 #[.string s] W fun e w' => e = .returned (.tuple #[.string (if b then s.extract 0 (s.size - 4) else ⟨#[]⟩), .bool b]) ∧ Below W.heap.size W w' := by
  have hd : decide ((s.size : Int) - 4 < 0) = false := by simp; omega
  have ht := ext_size s (s.size - 4) (by omega)
  have hl : (s.extract 0 (s.size - 4)).size ≤ maxLen := small_max (by omega)
  have hl' : (s.extract 0 (s.size - 4)).size ≤ 1000000 := by omega
  have HT : Hid ((s.extract 0 (s.size - 4)).size = s.size - 4) := ht
  clear ht
  have htt := open_test s h4
  rw [hb] at htt
  clear hb
  cases b
  all_goals
    go_enter Try.func10, Try.ntmps10
    go_wp2_with fail
    refine wp_region_later W.heap.size (by kernel_rfl) (by kernel_rfl) ?_
    repeat (go_big_quiet_step (first | (go_at_call 12; exact Calls.later_of (Nat.le_refl _) (sum_Sum _ hl _)) | (go_at_call 19; exact Calls.later_of (Nat.le_refl _) (sum_lowestFirst _ (sum_lt _) _))))
    refine wpQuiet_nil ?_
    rintro _ ⟨p, rfl⟩
    go_wp2_with (go_at_call 20; refine (strings_Clone _ _ hl').mono ?_; rintro e w1 ⟨rfl, hb1⟩)
  · go_ret2
    exact ⟨rfl, p.ok⟩
  · go_ret2
    exact ⟨rfl, p.ok.trans (hb1.mono p.ok.size)⟩

theorem sum_Open (s : ByteArray) (hs : s.size ≤ 1000000) (W : World) :
    Calls Try.prog 10 #[.string s] W fun e w' => e = .returned (.tuple #[.string (bodyB s), .bool (isSealed s.data.toList)]) ∧ Below W.heap.size W w' := by
  by_cases h4 : s.size < 4
  · unfold bodyB
    rw [isSealed_short s h4]
    exact open_short s hs h4 W
  · exact open_long s hs (by omega) _ rfl W

end Go.Proofs.Ytgnejcjlmagphaa
