/-
  The document's answer: dots compared; In, Same.
-/
import Derived.Test.YtmjmgjdklhdcdaaDotW
import Derived.Laws.StructEq
import Derived.LoopTactic
namespace Go.Proofs.Ytmjmgjdklhdcdaa
set_option linter.unusedVariables false
set_option linter.unusedSimpArgs false
open Go Go.RowKit Go.Maps

/-- Are two dots one? -/
def eqB (a b : Dot) : Bool := decide (a = b)
theorem eqB_true {a b : Dot} (h : a = b) : eqB a b = true := by simp [eqB, h]
theorem eqB_false {a b : Dot} (h : a ≠ b) : eqB a b = false := by simp [eqB, h]

theorem eq_cells (r n s m : Int) (w : World) : (Op.equalIn 10000 24 (.agg #[.int .u8 r, .int .u32 n]) (.agg #[.int .u8 s, .int .u32 m])).run Try.prog w = .ok (r == s && n == m) w := by
  have hf : Try.prog.underlying 24 = some (.struct (Try.prog.fieldsOf 24)) := by simp [Program.fieldsOf, Try.underlying24]
  have hp : Try.prog.stoodInHeld 24 = false := by kernel_rfl
  have u1 := Try.underlying5
  have u2 := Try.underlying22
  rw [show (10000 : Nat) = 9999 + 1 from rfl, run_equalIn_struct w 9999 24 _ _ hf hp]
  simp only [Program.fieldsOf, Try.underlying24, Op.eqFields]
  go_simp
  by_cases h0 : r = s
  · by_cases h1 : n = m <;> simp [h0, h1]
  · simp [h0]

theorem eq_dots (a b : Dot) (w : World) : (Op.equalIn 10000 24 (.agg #[.int .u8 (a.1 : Int), .int .u32 (a.2 : Int)]) (.agg #[.int .u8 (b.1 : Int), .int .u32 (b.2 : Int)])).run Try.prog w = .ok (eqB a b) w := by
  refine (eq_cells _ _ _ _ w).trans ?_
  congr 1
  unfold eqB
  rw [Bool.eq_iff_iff]
  simp only [Bool.and_eq_true, beq_iff_eq, decide_eq_true_eq, Int.natCast_inj]
  exact ⟨fun h => Prod.ext h.1 h.2, fun h => by rw [h]; exact ⟨rfl, rfl⟩⟩

theorem run_eql (r n s m : Nat) (w : World) : (binOp .eql 24 (.agg #[.int .u8 (r : Int), .int .u32 (n : Int)]) (.agg #[.int .u8 (s : Int), .int .u32 (m : Int)])).run Try.prog w = .ok (.bool (eqB (r, n) (s, m))) w := by
  have h := eq_dots (r, n) (s, m) w
  simp only [binOp]
  simp [Op.equal, Op.maxDepth]
  rw [h]; rfl
theorem run_neq (r n s m : Nat) (w : World) : (binOp .neq 24 (.agg #[.int .u8 (r : Int), .int .u32 (n : Int)]) (.agg #[.int .u8 (s : Int), .int .u32 (m : Int)])).run Try.prog w = .ok (.bool (!eqB (r, n) (s, m))) w := by
  have h := eq_dots (r, n) (s, m) w
  simp only [binOp]
  simp [Op.equal, Op.maxDepth]
  rw [h]; rfl

end Go.Proofs.Ytmjmgjdklhdcdaa
