/-
  strings.Clone.
-/
import Derived.Test.YtcioomlhdaihkaaGreatDoorProg
import Derived.WalkKit
import Derived.Test.YtcioomlhdaihkaaGreatDoorLater
import Derived.Lib.UnsafeStr
import Derived.Lib.BufferWrite
import Derived.Lib.Walk
import Derived.Lib.Hide
import Derived.Laws.MakeOwn
namespace Go.Proofs.YtcioomlhdaihkaaGreatDoor.K
set_option linter.unusedVariables false
set_option linter.unusedSimpArgs false
open Go Go.RowKit

set_option maxRecDepth 100000
set_option linter.unusedVariables false
set_option linter.unusedSimpArgs false
theorem len_toList (s : ByteArray) : s.data.toList.length = s.size := by simp

theorem u8_info : (Tryz.prog.info? 5).map (fun i => (i.zero, i.size, i.bytes)) = some (some (.int .u8 0), 1, 1) := by kernel_rfl

/-- n bytes as cells, the first k filled. -/
def rowCells (n : Nat) (f : Nat → Nat) (k : Nat) : Array Value := (Array.range n).map fun j => .int .u8 ((if j < k then f j else 0 : Nat) : Int)
theorem row_size (n : Nat) (f : Nat → Nat) (k : Nat) : (rowCells n f k).size = n := by simp [rowCells]
theorem row_at (n : Nat) (f : Nat → Nat) (k j : Nat) (h : j < n) : (rowCells n f k)[j]? = some (.int .u8 ((if j < k then f j else 0 : Nat) : Int)) := by
  simp [rowCells, h]
theorem row_set (n : Nat) (f : Nat → Nat) (k : Nat) (v : Int) (h : v = (f k : Nat)) : (rowCells n f k).setIfInBounds k (.int .u8 v) = rowCells n f (k + 1) := by
  subst h
  apply Array.ext_getElem?; intro i
  by_cases hi : i < n
  · rw [row_at _ _ _ _ hi, Array.getElem?_setIfInBounds, row_at _ _ _ _ hi, row_size]
    by_cases he : k = i
    · subst he; simp [hi]
    · simp only [he, if_false]
      by_cases hl : i < k
      · simp [hl, show i < k + 1 by omega]
      · simp [hl, show ¬ i < k + 1 by omega]
  · rw [Array.getElem?_eq_none (by simp [row_size]; omega), Array.getElem?_eq_none (by simp [row_size]; omega)]
theorem row_made (n : Nat) (f : Nat → Nat) : madeCells (Value.int .u8 0).cells n = rowCells n f 0 := by
  apply Array.toList_inj.1
  rw [show (Value.int .u8 0).cells = #[.int .u8 0] by rfl, toList_madeCells_one]
  simp [rowCells]
  apply List.ext_getElem?; intro i
  by_cases hi : i < n <;> simp [hi]

/-- What make lays for n bytes. -/
theorem make_row (n : Nat) (hn : n ≤ 1099511627776) (f : Nat → Nat) (W : World) : (Instr.makeSlice 83 (.int .i64 (n : Int)) (.int .i64 (n : Int))).run Tryz.prog W = .ok (.slice (some ⟨W.heap.size, 0, none⟩) n n) (W.alloc (.cells (rowCells n f 0) 5)) := by
  obtain ⟨i0, hi, hz0, hz1, hz2⟩ := info_parts u8_info
  have h := run_make (P := Tryz.prog) W 83 5 i0 (.int .u8 0) Tryz.underlying83 hi hz0 .i64 .i64 (n : Int) (n : Int) (by omega) (by omega) (by rw [hz2]; omega) (by omega)
  rw [hz1] at h
  simp only [Int.toNat_natCast, Nat.mul_one] at h
  rw [row_made n f] at h
  exact h
/-- The string's bytes as a full row. -/
theorem row_string (s : ByteArray) : (rowCells s.size (fun j => (s.data.toList.getD j 0).toNat) s.size).toList = Lib.byteCells s.data.toList := by
  apply List.ext_getElem?; intro i
  rw [Array.getElem?_toList]
  by_cases hi : i < s.size
  · rw [row_at _ _ _ _ hi, if_pos hi]
    have hi' : i < s.data.size := hi
    have he : s.data[i]? = some s.data[i] := Array.getElem?_eq_getElem hi'
    simp [Lib.byteCells, he]
  · rw [Array.getElem?_eq_none (by rw [row_size]; omega), List.getElem?_eq_none (by rw [Lib.byteCells_length, len_toList]; omega)]

set_option maxHeartbeats 1000000 in
set_option maxRecDepth 100000 in
/-- A fresh copy: the same bytes. -/
theorem lite_Clone (s : ByteArray) (w : World) (hlim : s.size ≤ 1099511627776) :
    Calls Tryz.prog 56 #[.string s] w fun e w' => e = .returned (.string s) ∧ Below w.heap.size w w' := by
  by_cases h0 : s.size = 0
  · have hd : s.data.toList = [] := List.eq_nil_of_length_eq_zero (by rw [len_toList]; exact h0)
    obtain rfl : s = ⟨#[]⟩ := ByteArray.ext (Array.toList_inj.1 hd)
    go_enter Tryz.func56, Tryz.ntmps56
    go_wp2
    go_ret
    exact ⟨rfl, Below.refl _ _⟩
  · have hmk := make_row s.size hlim (fun j => (s.data.toList.getD j 0).toNat)
    have hlist := row_string s
    have hsize := row_size s.size (fun j => (s.data.toList.getD j 0).toNat) s.size
    have hempty := row_size s.size (fun j => (s.data.toList.getD j 0).toNat) 0
    generalize rowCells s.size (fun j => (s.data.toList.getD j 0).toNat) 0 = R0 at hmk hempty
    generalize rowCells s.size (fun j => (s.data.toList.getD j 0).toNat) s.size = R at hlist hsize
    have hinf : (Tryz.prog.info? 5).map (·.size) = some 1 := by kernel_rfl
    have hcell : Tryz.prog.cellsOf 5 = 1 := by kernel_rfl
    have hcopy := Lib.run_copy_row_string (P := Tryz.prog) (w.alloc (.cells R0 5)) 83 9 3 5 w.heap.size 0 s.size s.size s R0 5 Tryz.underlying83 hinf (heap_alloc_new w _) (Nat.le_refl _) (by omega)
    rw [List.take_zero, List.nil_append, List.drop_of_length_le (by rw [Array.length_toList, hempty]; omega), List.append_nil, ← hlist, Array.toArray_toList] at hcopy
    have hrow := setRow_heap (w.alloc (.cells R0 5)) w.heap.size R0 R 5 (0, 0) (heap_alloc_new w _)
    have hstr := Lib.run_unsafeString_row (P := Tryz.prog) ((w.alloc (.cells R0 5)).setRow w.heap.size R) 114 3 9 5 Tryz.underlying114 hcell w.heap.size R.size (by unfold World.shape?; rw [hrow]) s.data.toList
      (fun e => h0 (by rw [← len_toList, e]; rfl)) (by rw [len_toList]; omega) (by rw [len_toList]; omega)
      (fun j x hx => Lib.cells_of_row hrow R.size j _ (by rw [hlist, List.take_of_length_le (by rw [Lib.byteCells_length, len_toList]; omega)]; simp [Lib.byteCells, hx]))
    rw [len_toList] at hstr
    clear hlist
    go_enter Tryz.func56, Tryz.ntmps56
    go_wp2
    go_ret
    exact ⟨rfl, Lib.below_freeze (Below.setRow ((Below.refl _ w).alloc (Nat.le_refl _) _) (Nat.le_refl _) R) (p := ⟨w.heap.size, 0, none⟩) (Nat.le_refl _) _⟩

theorem strings_Clone (s : ByteArray) (w : World) (hlim : s.size ≤ 1099511627776) :
    Calls Tryz.prog 31 #[.string s] w fun e w' => e = .returned (.string s) ∧ Below w.heap.size w w' := by
  go_enter Tryz.func31, Tryz.ntmps31
  go_wp2_with (go_at_call 56; refine (lite_Clone s _ hlim).mono ?_; rintro e w1 ⟨rfl, hb1⟩)
  go_ret
  exact ⟨rfl, hb1⟩


end Go.Proofs.YtcioomlhdaihkaaGreatDoor.K
