/-
  The document's Great.
-/
import Derived.Test.YtfnmekmgjcjglaaDoorYMK
import Derived.Test.YtfnmekmgjcjglaaDoorYMH
import Derived.Test.YtfnmekmgjcjglaaDoorYOU
namespace Go.Proofs.YtfnmekmgjcjglaaDoor.V
set_option linter.unusedVariables false
set_option linter.unusedSimpArgs false
set_option maxRecDepth 100000
open Go Go.RowKit Go.Maps Wire
set_option maxRecDepth 100000
set_option linter.unusedVariables false
set_option linter.unusedSimpArgs false
/-- The number of lines. -/
def sumL (l : List OC) : Nat := (l.map fun x => x.2.length).sum
/-- More than the statements look at. -/
def greatM (l : List OC) : Bool := decide (80 < l.length) || decide (300 < sumL (l.take 100))
theorem ClaimsV.form {w : World} {v : Value} {l : List Claim} (h : ClaimsV w v l) : ∃ a c, v = .slice a l.length c := by
  obtain ⟨a, n, c, rfl, h1, _⟩ := h
  exact ⟨a, c, by rw [h1]⟩
end Go.Proofs.YtfnmekmgjcjglaaDoor.V
namespace Go.Proofs.YtfnmekmgjcjglaaDoor.V
set_option linter.unusedVariables false
set_option linter.unusedSimpArgs false
set_option maxRecDepth 100000
open Go Go.RowKit Go.Maps Wire
set_option maxRecDepth 100000
set_option linter.unusedVariables false
set_option linter.unusedSimpArgs false
theorem core_eq {x y : OC} (h : core x = core y) : y.1 = setL x.1 y.1.lv ∧ y.2 = x.2 := by
  obtain ⟨o, l⟩ := x
  obtain ⟨p, m⟩ := y
  have h1 : setL o (.slice none 0 0) = setL p (.slice none 0 0) := congrArg Prod.fst h
  have h2 : l = m := congrArg Prod.snd h
  refine ⟨?_, h2.symm⟩
  have := congrArg (fun o => setL o p.lv) h1
  simp only [setL_setL] at this
  exact this.symm
theorem same_core {x y : OC} (h : core x = core y) : sameM x.1 y.1 x.2 y.2 = true := by
  obtain ⟨h1, h2⟩ := core_eq h
  obtain ⟨o, l⟩ := x
  obtain ⟨p, m⟩ := y
  dsimp only at h1 h2 ⊢
  subst h2
  rw [h1]
  unfold sameM simE setL eqB
  simp [eqV_refl]
end Go.Proofs.YtfnmekmgjcjglaaDoor.V
namespace Go.Proofs.YtfnmekmgjcjglaaDoor.V
set_option linter.unusedVariables false
set_option linter.unusedSimpArgs false
set_option maxRecDepth 100000
open Go Go.RowKit Go.Maps Wire
set_option maxRecDepth 100000
set_option linter.unusedVariables false
set_option linter.unusedSimpArgs false
def gen (r n : Nat) (dep : Vec) (tm : Nat) : OpM := ⟨r, n, dep, tm, 1, r, n, 0, 0, 0, 0, 0, 0, 0, 0, 0, 0, 0, 0, 0, 0, .slice none 0 0⟩
/-! ### Rows of two and three -/
theorem fill_op2 (o p : OpM) : Instr.fill (fun i => some (i * 29, 29)) ((Array.range (2 * 29)).map ((Value.agg (oc zeroO)).cells[· % (Value.agg (oc zeroO)).cells.size]!)) [(0, .agg (oc o)), (1, .agg (oc p))] = some (oc o ++ oc p) := by kernel_rfl
theorem fill_op3 (o p q : OpM) : Instr.fill (fun i => some (i * 29, 29)) ((Array.range (3 * 29)).map ((Value.agg (oc zeroO)).cells[· % (Value.agg (oc zeroO)).cells.size]!)) [(0, .agg (oc o)), (1, .agg (oc p)), (2, .agg (oc q))] = some (oc o ++ oc p ++ oc q) := by kernel_rfl
theorem build_op3 {ops : Array Oper} {rest : List Oper} {c : Oper} {a : Act} {w : World} {Q : Exit → Act → World → Prop} (hw : Region.wanted c (yielded ops a.tmps) = true) (x y z : Operand) (ho : c.op = .buildSlice 22 3 #[(0, x), (1, y), (2, z)])
    (o p q : OpM) (hx : a.eval x = .agg (oc o)) (hy : a.eval y = .agg (oc p)) (hz : a.eval z = .agg (oc q)) (h : wpList Tryd.prog ops Q rest (a.put c.dst (.slice (some ⟨w.heap.size, 0, none⟩) 3 3)) (w.alloc (.cells (oc o ++ oc p ++ oc q) 50))) : wpList Tryd.prog ops Q (c :: rest) a w :=
  BigFrame.wpList_want hw fun K hK => by
    obtain ⟨i0, hi, hz0, hz1, hz2⟩ := info_parts infoOp
    have hr := run_buildSlice (P := Tryd.prog) w 22 50 3 #[(0, .agg (oc o)), (1, .agg (oc p)), (2, .agg (oc q))] (oc o ++ oc p ++ oc q) i0 _ Tryd.underlying22 hi hz0 (by rw [hz1]; omega) (by rw [hz1]; omega) (by rw [hz1]; exact fill_op3 o p q)
    unfold Oper.wp execOp
    simp only [ho, List.map_toArray, List.map_cons, List.map_nil, hx, hy, hz, Sem.run_bind, Sem.run_pure, Result.andThen_ok, hr]
    exact hK _ _ h
/-- A row laid at once reads as these operations. -/
theorem row_opsV {w : World} {g : Nat} {l : List OC} {cs : Array Value} (hg : w.heap[g]? = some (.cells cs 50 (0, 0))) (hc : cs.toList = flatO l) (hl : l.length ≤ 100) (hok : ∀ x ∈ l, okO x.1 ∧ ClaimsB 0 w x.1.lv x.2) : OpsV w (.slice (some ⟨g, 0, none⟩) l.length l.length) l := by
  refine OwnO.opsV (B := 0) ⟨⟨by rw [flatO_length], .inr ⟨g, l.length, cs, rfl, Nat.zero_le _, hg, Nat.le_refl _, by unfold maxLen; omega, ?_, ?_⟩⟩, hok⟩
  · rw [← Array.length_toList, hc, flatO_length]
  · rw [hc, List.take_of_length_le (by rw [flatO_length]; exact Nat.le_refl _)]
end Go.Proofs.YtfnmekmgjcjglaaDoor.V
namespace Go.Proofs.YtfnmekmgjcjglaaDoor.V
set_option linter.unusedVariables false
set_option linter.unusedSimpArgs false
set_option maxRecDepth 100000
open Go Go.RowKit Go.Maps Wire
set_option maxRecDepth 100000
set_option linter.unusedVariables false
set_option linter.unusedSimpArgs false
def z8 : Vec := fun _ => 0
def oneone : Vec := fun i => if i < 2 then 1 else 0
def two0 : Vec := fun i => if i = 0 then 2 else 0
def hA : OC := (gen 0 1 z8 1, [])
def hB : OC := (gen 1 1 z8 1, [])
def hC : OC := (gen 0 2 oneone 2, [])
theorem h_okz : okV z8 := ⟨fun i => by unfold z8; omega, fun i _ => rfl⟩
end Go.Proofs.YtfnmekmgjcjglaaDoor.V
namespace Go.Proofs.YtfnmekmgjcjglaaDoor.V
set_option linter.unusedVariables false
set_option linter.unusedSimpArgs false
set_option maxRecDepth 100000
open Go Go.RowKit Go.Maps Wire
set_option maxRecDepth 100000
set_option linter.unusedVariables false
set_option linter.unusedSimpArgs false
section
variable {ops : Array Oper} {Q : Exit → Act → World → Prop} {tgt : Nat → Option Nat} {F : Nat → Fa} {a0 : Act} {w0 : World} {k : Nat} {op : Oper}
/-- What holds of an operand when its inputs have come up. -/
def EvD (ops : Array Oper) (F : Nat → Fa) (a0 : Act) (w0 : World) (op : Oper) (x : Operand) (p : Value → World → Prop) : Prop :=
  ∀ (o : Nat → Nat) (a : Act) (w : World), BaseA ops a0 a → Below w0.heap.size w0 w → (∀ i, (needOf op).testBit i = true → (F i).holds w0.heap.size i o (valAt ops a i) w) → p (a.eval x) w
theorem EvD.at {i s : Nat} {p : Value → World → Prop} (h : dstAt ops i = some s) (n : (needOf op).testBit i = true) (f : F i = .dep p) : EvD ops F a0 w0 op (.tmp s) p := fun o a w _ _ hn => by
  have := hn i n
  rw [f] at this
  rw [eval_at h]
  exact this
theorem call_run {f : Nat} {xs : Array Operand} {ats : Array Nat} (ho : op.op = .call { callee := .value (.func f), args := xs, argTypes := ats })
    (hfn : ∀ (args : Array Value) (w : World), (callFunc f args).run Tryd.prog w = .ok (.enter f args) w) (a : Act) (w : World) : (execOp a.eval op).run Tryd.prog w = .ok (.enter f (xs.map a.eval)) w := by
  rw [show execOp a.eval op = callFunc f (#[] ++ xs.map a.eval ++ #[]) from by unfold execOp; rw [ho]; rfl]
  simp only [Array.empty_append, Array.append_empty]
  exact hfn _ w
def v2lit : Value := .agg #[.int .u32 2, .int .u32 0, .int .u32 0, .int .u32 0, .int .u32 0, .int .u32 0, .int .u32 0, .int .u32 0]
end
end Go.Proofs.YtfnmekmgjcjglaaDoor.V
