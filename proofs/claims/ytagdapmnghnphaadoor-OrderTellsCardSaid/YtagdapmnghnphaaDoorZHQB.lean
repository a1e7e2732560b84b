/-
  Tools of the law OrderBegins: a beginning of a row, vectors compared, sums, a row turned.
-/
import Derived.Test.YtagdapmnghnphaaDoorZHQP
namespace Go.Proofs.YtagdapmnghnphaaDoor.V
set_option linter.unusedVariables false
set_option linter.unusedSimpArgs false
set_option maxRecDepth 100000
open Go Go.RowKit Go.Maps Wire

theorem neq_same (v : Vec) (x y : Operand) (w : World) : (do eqGuard .neq 25 x y (.agg (vc v)) (.agg (vc v)); binOp .neq 25 (.agg (vc v)) (.agg (vc v)) : Sem Value).run Tryd.prog w = .ok (.bool false) w := by
  have h := eq_vec v v w
  rw [eqV_refl] at h
  unfold vc
  go_simp
theorem bin_any {ops : Array Oper} {rest : List Oper} {c : Oper} {a : Act} {w : World} {Q : Exit → Act → World → Prop} (b : BinOp) (t tx : Nat) (x y : Operand) (ho : c.op = .binOp b t x y tx) (hw : Region.wanted c (yielded ops a.tmps) = true)
    (u v z : Value) (hx : a.eval x = u) (hy : a.eval y = v) (hr : (do eqGuard b t x y u v; binOp b t u v : Sem Value).run Tryd.prog w = .ok z w) (h : wpList Tryd.prog ops Q rest (a.put c.dst z) w) : wpList Tryd.prog ops Q (c :: rest) a w :=
  BigFrame.wpList_want hw fun K hK => by
    have hr2 : (execOp a.eval c).run Tryd.prog w = .ok (.value z) w := by
      rw [Sem.run_bind] at hr
      unfold execOp
      simp only [ho, hx, hy, Sem.run_bind, hr, Sem.run_pure, Result.andThen_ok]
    unfold Oper.wp
    rw [hr2]
    exact hK _ _ h
theorem sl_ops (p : Option Addr) (n cp k : Nat) (h : k ≤ n) (hc : n ≤ cp) (hm : cp ≤ maxLen) (hp : p = none → cp = 0) (w : World) : (Instr.sliceAt 22 (.slice p n cp) none (some (.int .i64 (k : Int))) none).run Tryd.prog w = .ok (.slice p k cp) w := by
  unfold maxLen at hm
  have h1 : (k : Int) ≤ (cp : Int) := by omega
  have h2 : ¬ (cp < k) := by omega
  cases p with
  | none =>
    obtain rfl := hp rfl
    obtain rfl : k = 0 := by omega
    simp [Instr.sliceAt, Instr.slice, go_sem]
  | some ad =>
    simp [Instr.sliceAt, Instr.slice, go_sem, h1, h2]
theorem v_sl {ops : Array Oper} {Q : Exit → Act → World → Prop} {tgt : Nat → Option Nat} {F : Nat → Fa} {a0 : Act} {w0 : World} {k : Nat} {op : Oper} {x y : Operand} {t : Nat} {u z c : Value}
    (ho : op.op = .slice t x none (some y) none) (hr : ∀ w, (Instr.sliceAt t u none (some z) none).run Tryd.prog w = .ok c w) (hF : F k = .eq c) (hd : op.dst.isSome = true) (hg : guardOK ops F op)
    (h1 : Ev ops F a0 w0 op x u) (h2 : Ev ops F a0 w0 op y z) : StepOK Tryd.prog ops Q tgt F a0 w0 k op :=
  flow_val _ hF hd hg (fun o a w hb hB hn => by
    unfold execOp
    simp only [ho, h1 o a w hb hn, h2 o a w hb hn, Option.map_some, Option.map_none, Sem.run_bind, hr, Result.andThen_ok, Sem.run_pure])
theorem IsOps.begin {w : World} {p : Option Addr} {n cp : Nat} {l : List OC} (h : IsOps w p n cp l) {k : Nat} (hk : k ≤ n) : OpsV w (.slice p k cp) (l.take k) := by
  obtain ⟨h1, h2, h3, h4, h5⟩ := h
  refine ⟨p, k, cp, rfl, by rw [List.length_take]; omega, by omega, h3, fun x hx => h4 x (List.mem_of_mem_take hx), ?_⟩
  cases p with
  | none => exact ⟨by have := h5.1; omega, h5.2⟩
  | some ad =>
    intro i x hx
    refine h5 i x ?_
    rw [List.getElem?_take] at hx
    split at hx
    · exact hx
    · cases hx
theorem IsOps.cap0 {w : World} {p : Option Addr} {n cp : Nat} {l : List OC} (h : IsOps w p n cp l) (hp : p = none) : cp = 0 := by
  subst hp
  exact h.2.2.2.2.2
def psum (v : Vec) : Nat → Nat
  | 0 => 0
  | r + 1 => psum v r + v r
theorem psum_le (v : Vec) : ∀ {r q : Nat}, r ≤ q → psum v r ≤ psum v q
  | r, 0, h => by obtain rfl : r = 0 := by omega
                  exact Nat.le_refl _
  | r, q + 1, h => by
    by_cases e : r = q + 1
    · subst e; exact Nat.le_refl _
    · exact Nat.le_trans (psum_le v (show r ≤ q by omega)) (Nat.le_add_right _ _)
theorem psum8 (v : Vec) : psum v 8 = v 0 + v 1 + v 2 + v 3 + v 4 + v 5 + v 6 + v 7 := by simp only [psum]; omega
theorem turn_step {l : List OC} {j : Nat} {x : OC} (hx : l[j]? = some x) : (l.drop j).reverse = (l.drop (j + 1)).reverse ++ [x] := by
  obtain ⟨hlt, rfl⟩ := List.getElem?_eq_some_iff.1 hx
  rw [List.drop_eq_getElem_cons hlt, List.reverse_cons]
end Go.Proofs.YtagdapmnghnphaaDoor.V
