/-
  A whole operation loaded in a region that draws its order.
-/
import Derived.Test.YtdhdfngaldfdjaaDoorOA
namespace Go.Proofs.YtdhdfngaldfdjaaDoor.V
set_option linter.unusedVariables false
set_option linter.unusedSimpArgs false
open Go Go.RowKit Go.Maps Go.Sort

theorem run_load_op {c : Oper} {a : Act} {w : World} (x : Operand) (ho : c.op = .load 30 x) (g : Nat) (hx : a.eval x = .pointer (some ⟨g, 0, none⟩)) (o : OpM) (hg : OpAt w g o) :
    (execOp a.eval c).run Tryd.prog w = .ok (.value (.agg (oc o))) w := by
  unfold execOp
  simp only [ho, hx, Instr.loadAt, Instr.sureAddr, Sem.run_bind, Sem.run_pure, Result.andThen_ok, run_loadVar_row w g 30 30 _ _ _ hg Tryd.underlying30 rfl (opSize _)]
theorem quiet_ld {C : World → Prop} {K : Act → Prop} {a : Act} {c : Oper} (x : Operand) (ho : c.op = .load 30 x)
    (g : Nat) (hx : a.eval x = .pointer (some ⟨g, 0, none⟩)) (o : OpM) (hC : ∀ w, C w → OpAt w g o) (h : K (a.put c.dst (.agg (oc o)))) : c.quiet Tryd.prog a C K :=
  ⟨_, fun w hCw => by unfold Oper.quietAt; rw [run_load_op x ho g hx o (hC w hCw)]; exact ⟨rfl, rfl⟩, h⟩
theorem quiet_load_op {ops : Array Oper} {C : World → Prop} {Q : Act → Prop} {a : Act} {c : Oper} {rest : List Oper} (hw : Region.wanted c (yielded ops a.tmps) = true) (x : Operand) (ho : c.op = .load 30 x)
    (g : Nat) (hx : a.eval x = .pointer (some ⟨g, 0, none⟩)) (o : OpM) (hC : ∀ w, C w → OpAt w g o) (h : wpQuiet Tryd.prog ops C Q rest (a.put c.dst (.agg (oc o)))) : wpQuiet Tryd.prog ops C Q (c :: rest) a :=
  BigFrame.wpQuiet_want hw fun K hK => ⟨_, fun w hCw => by unfold Oper.quietAt; rw [run_load_op x ho g hx o (hC w hCw)]; exact ⟨rfl, rfl⟩, hK _ h⟩

end Go.Proofs.YtdhdfngaldfdjaaDoor.V
