/-
  The walk of the law 'WireOrder'.
-/
import Derived.Test.YtdhdfngaldfdjaaDoorWireH
import Derived.Test.YtdhdfngaldfdjaaDoorWireQ
namespace Go.Proofs.YtdhdfngaldfdjaaDoor
open Go Go.RowKit Wire

set_option maxRecDepth 100000
set_option linter.unusedVariables false
set_option linter.unusedSimpArgs false
theorem u64_nat {a : Int} (h : (Lit.int .u64 a).wf = true) : ∃ n : Nat, a = (n : Int) ∧ n < 18446744073709551616 := by
  have hx : 0 ≤ a ∧ a ≤ 18446744073709551615 := by simpa [Lit.wf, IntKind.min, IntKind.max, IntKind.signed, IntKind.bits] using h
  exact ⟨a.toNat, by omega, by omega⟩

theorem Keeps.nobody {B : Nat} {a b : World} (h : Keeps B none a b) : Below B a b := h.below (fun _ e => by cases e)
theorem none_Num (m : Nat) (W : World) : Calls Tryd.prog 44 #[.pointer none, .int .u64 m] W fun e w' => e = .returned (.int .u64 0) ∧ Below W.heap.size W w' :=
  (wire_Num none none m small_none W rfl).mono fun _ _ ⟨h1, _, h3⟩ => ⟨h1, h3.nobody⟩
theorem none_Dot (W : World) : Calls Tryd.prog 39 #[.pointer none] W fun e w' => e = .returned (.agg #[.int .u8 0, .int .u32 0]) ∧ Below W.heap.size W w' := by
  have := wire_Dot none none small_none W rfl
  rw [takeDot_none] at this
  exact this.mono fun _ _ ⟨h1, _, h3⟩ => ⟨h1, h3.nobody⟩
theorem none_Vector (W : World) : Calls Tryd.prog 40 #[.pointer none] W fun e w' => e = .returned (.agg #[.int .u32 0, .int .u32 0, .int .u32 0, .int .u32 0, .int .u32 0, .int .u32 0, .int .u32 0, .int .u32 0]) ∧ Below W.heap.size W w' := by
  have := wire_Vector none none small_none W rfl
  rw [takeVec_none] at this
  exact this.mono fun _ _ ⟨h1, _, h3⟩ => ⟨h1, h3.nobody⟩
theorem none_Left (W : World) : Calls Tryd.prog 62 #[.pointer none] W fun e w' => e = .returned (.int .i64 0) ∧ W = w' := wire_Left none none W rfl
theorem none_Fine (W : World) : Calls Tryd.prog 57 #[.pointer none] W fun e w' => e = .returned (.bool false) ∧ W = w' := wire_Fine none none W rfl
theorem none_End (W : World) : Calls Tryd.prog 45 #[.pointer none] W fun e w' => e = .returned (.int .i64 5) ∧ W = w' := wire_End none none W rfl
theorem nil_Vector' (W : World) : Calls Tryd.prog 32 #[.pointer none, .agg #[.int .u32 0, .int .u32 0, .int .u32 0, .int .u32 0, .int .u32 0, .int .u32 0, .int .u32 0, .int .u32 0]] W fun e w' => e = .returned (.tuple #[]) ∧ Below W.heap.size W w' := nil_Vector W

theorem beq_lists (a b : ByteArray) : (a.toList == b.toList) = decide (a.data.toList = b.data.toList) := by
  rw [Lib.toList_data, Lib.toList_data, Bool.eq_iff_iff]; simp
theorem ne_lists {a b : List UInt8} (h : a ≠ b) : ((ba a).toList == (ba b).toList) = false := by
  rw [beq_lists, ba_list, ba_list]; simpa using h
theorem eq_lists (a : ByteArray) : (a.toList == a.toList) = true := by simp

end Go.Proofs.YtdhdfngaldfdjaaDoor
