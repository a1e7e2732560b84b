/-
  A region that draws its order, where some operations look at memory alone (what they give is known), and the others turn it (what holds then, by what has come up).
-/
import Derived.Test.YtfnmekmgjcjglaaDoorYHQB
namespace Go.Proofs.YtfnmekmgjcjglaaDoor.V
set_option linter.unusedVariables false
set_option linter.unusedSimpArgs false
set_option maxRecDepth 100000
open Go Go.RowKit Go.Maps Wire
set_option maxRecDepth 100000
set_option linter.unusedVariables false
set_option linter.unusedSimpArgs false
/-- Where an operation has come up, so have those that it waits for. -/
def ClosedM (ops : Array Oper) (d : Nat) : Prop := ∀ i o, ops[i]? = some o → d.testBit i = true → ∀ j, (needOf o).testBit j = true → d.testBit j = true
section
variable {P : Program} {ops : Array Oper} {Q : Exit → Act → World → Prop} {Fv : Nat → Option Value} {M : Nat → (Nat → Value) → World → Prop}
def ValsM (ops : Array Oper) (Fv : Nat → Option Value) (d : Nat) (a : Act) : Prop := ∀ i v, i < ops.size → Fv i = some v → d.testBit i = true → valAt ops a i = v
/-- What has not come up has left its slot as it was. -/
def KeptM (ops : Array Oper) (a0 : Act) (d : Nat) (a : Act) : Prop := ∀ i s, dstAt ops i = some s → d.testBit i = false → a.tmps[s]? = a0.tmps[s]?
def InvM (ops : Array Oper) (Fv : Nat → Option Value) (M : Nat → (Nat → Value) → World → Prop) (a0 : Act) (d : Nat) (a : Act) (w : World) : Prop :=
  BaseA ops a0 a ∧ ClosedM ops d ∧ KeptM ops a0 d a ∧ ValsM ops Fv d a ∧ M d (valAt ops a) w
def StepM (P : Program) (ops : Array Oper) (Q : Exit → Act → World → Prop) (Fv : Nat → Option Value) (M : Nat → (Nat → Value) → World → Prop) (a0 : Act) (k : Nat) (op : Oper) : Prop :=
  ∀ d a w, BaseA ops a0 a → ClosedM ops d → KeptM ops a0 d a → d.testBit k = false → (∀ i, (needOf op).testBit i = true → d.testBit i = true) → ValsM ops Fv d a → M d (valAt ops a) w →
    Region.wanted op (yielded ops a.tmps) = true ∧ ∀ K : Act → World → Prop, (∀ v w2, (∀ u, Fv k = some u → vOf op v = u) → (∀ vals : Nat → Value, vals k = vOf op v → (∀ i, i ≠ k → vals i = valAt ops a i) → M (Nat.lor d (Nat.shiftLeft 1 k)) vals w2) → K (a.put op.dst v) w2) → Oper.wp P op a w K Q
def StepsM (P : Program) (ops : Array Oper) (Q : Exit → Act → World → Prop) (Fv : Nat → Option Value) (M : Nat → (Nat → Value) → World → Prop) (a0 : Act) : List Oper → Nat → Prop
  | [], _ => True
  | op :: r, k => StepM P ops Q Fv M a0 k op ∧ StepsM P ops Q Fv M a0 r (k + 1)
/-! ### one operation -/
variable {a0 : Act} {k : Nat} {op : Oper}
/-- What an operand is. -/
def EvM (ops : Array Oper) (Fv : Nat → Option Value) (a0 : Act) (k : Nat) (op : Oper) (x : Operand) (v : Value) : Prop :=
  ∀ d a, BaseA ops a0 a → ClosedM ops d → KeptM ops a0 d a → d.testBit k = false → (∀ i, (needOf op).testBit i = true → d.testBit i = true) → ValsM ops Fv d a → a.eval x = v
theorem EvM.const {c : Value} : EvM ops Fv a0 k op (.const c) c := fun _ _ _ _ _ _ _ _ => rfl
theorem EvM.out {s : Nat} {v : Value} (hs : writes ops s = false) (h0 : a0.tmps.getD s undef = v) : EvM ops Fv a0 k op (.tmp s) v := fun d a hb _ _ _ _ _ => by
  have hne : ∀ i, dstAt ops i ≠ some s := fun i e => by
    unfold dstAt at e
    cases ho : ops[i]? with
    | none => rw [ho] at e; cases e
    | some o =>
      rw [ho] at e
      have e2 : o.dst = some s := e
      have hm : o ∈ ops.toList := by
        rw [← Array.getElem?_toList] at ho
        exact List.mem_of_getElem? ho
      have := List.any_eq_false.1 hs o hm
      rw [e2] at this
      simp at this
  show a.tmps.getD s undef = _
  rw [← h0, Array.getD_eq_getD_getElem?, Array.getD_eq_getD_getElem?, hb.rest s hne]
theorem evalM {a : Act} {i s : Nat} (h : dstAt ops i = some s) : a.eval (.tmp s) = valAt ops a i := by
  show a.tmps.getD s undef = _
  unfold valAt; rw [h]
theorem EvM.at {i s : Nat} {v : Value} (hd : dstAt ops i = some s) (hn : (needOf op).testBit i = true) (hF : Fv i = some v) (hi : i < ops.size) : EvM ops Fv a0 k op (.tmp s) v := fun d a hb _ _ _ hneed hv => by
  rw [evalM hd]
  exact hv i v hi hF (hneed i hn)
end
end Go.Proofs.YtfnmekmgjcjglaaDoor.V
namespace Go.Proofs.YtfnmekmgjcjglaaDoor.V
set_option linter.unusedVariables false
set_option linter.unusedSimpArgs false
set_option maxRecDepth 100000
open Go Go.RowKit Go.Maps Wire
set_option maxRecDepth 100000
set_option linter.unusedVariables false
set_option linter.unusedSimpArgs false
/-! ### the region that puts an operation where it stands -/
def FreshO (B : Nat) (w : World) (v : Value) : Prop := ∃ g, v = .slice (some ⟨g, 0, none⟩) 0 0 ∧ B ≤ g ∧ w.heap[g]? = some (.cells #[] 50 (0, 0))
def LaidO (w : World) (x : OC) (v : Value) : Prop := ∃ g, v = .slice (some ⟨g, 0, none⟩) 1 1 ∧ w.heap[g]? = some (.cells (oc x.1) 50 (0, 0))
theorem FreshO.keep {B : Nat} {w w' : World} {v : Value} (h : FreshO B w v) (hb : Below w.heap.size w w') : FreshO B w' v := by
  obtain ⟨g, e, h1, h2⟩ := h
  exact ⟨g, e, h1, heap_keep h2 hb⟩
theorem LaidO.keep {w w' : World} {x : OC} {v : Value} (h : LaidO w x v) (hb : Below w.heap.size w w') : LaidO w' x v := by
  obtain ⟨g, e, h2⟩ := h
  exact ⟨g, e, heap_keep h2 hb⟩
theorem FreshO.own {B : Nat} {w : World} {v : Value} (h : FreshO B w v) : OwnO B w v [] := by
  obtain ⟨g, rfl, h1, h2⟩ := h
  exact ⟨⟨rfl, .inr ⟨_, 0, #[], rfl, h1, h2, Nat.le_refl _, Nat.zero_le _, rfl, rfl⟩⟩, fun x hx => by cases hx⟩
theorem LaidO.opsV {w : World} {x : OC} {v : Value} (h : LaidO w x v) (hx : okO x.1) (hc : ClaimsV w x.1.lv x.2) : OpsV w v [x] := by
  obtain ⟨g, rfl, h2⟩ := h
  refine ⟨some ⟨g, 0, none⟩, 1, 1, rfl, rfl, Nat.le_refl _, by unfold maxLen; omega, fun y hy => ?_, ?_⟩
  · rw [List.mem_singleton] at hy; subst hy; exact ⟨hx, hc⟩
  · intro i y hy k hk
    have hi : i = 0 := by
      have := (List.getElem?_eq_some_iff.1 hy).1
      simp at this
      exact this
    subst hi
    have e : y = x := by simpa using hy.symm
    subst e
    rw [Nat.zero_mul, add_add2, Nat.zero_add, add8]
    exact cell_of_heap h2
/-- What holds in memory, by what has come up. -/
structure MemS (B : Nat) (w0 : World) (x : OC) (L1 L2 L3 : List OC) (d : Nat) (v : Nat → Value) (w : World) : Prop where
  below : Below B w0 w
  m0 : d.testBit 0 = true → d.testBit 4 = false → FreshO B w (v 0)
  m9 : d.testBit 9 = true → d.testBit 10 = false → LaidO w x (v 9)
  m4 : d.testBit 4 = true → d.testBit 10 = false → OwnO B w (v 4) L1
  m10 : d.testBit 10 = true → d.testBit 14 = false → OwnO B w (v 10) L2
  m14 : d.testBit 14 = true → OwnO B w (v 14) L3
  m15 : d.testBit 15 = true → OwnO B w (v 15) L3
end Go.Proofs.YtfnmekmgjcjglaaDoor.V
namespace Go.Proofs.YtfnmekmgjcjglaaDoor.V
set_option linter.unusedVariables false
set_option linter.unusedSimpArgs false
set_option maxRecDepth 100000
open Go Go.RowKit Go.Maps Wire
set_option maxRecDepth 100000
set_option linter.unusedVariables false
set_option linter.unusedSimpArgs false
theorem sl_fromV {p : Option Addr} {n cp : Nat} {l : List OC} {w0 : World} (h : IsOps w0 p n cp l) {k : Nat} (hk : k ≤ n) : ∃ q, (∀ w, (Instr.sliceAt 22 (.slice p n cp) (some (.int .i64 (k : Int))) none none).run Tryd.prog w = .ok (.slice q (n - k) (cp - k)) w) ∧
    ∀ w, IsOps w p n cp l → OpsV w (.slice q (n - k) (cp - k)) (l.drop k) := by
  obtain ⟨g1, g2, g3, g4, g5⟩ := h
  have g3' := g3
  unfold maxLen at g3
  have h1 : (k : Int) ≤ (n : Int) := by omega
  have h2 : ¬ (n < k) := by omega
  have h3 : ¬ (cp < n) := by omega
  cases p with
  | none =>
    obtain ⟨rfl, rfl⟩ := g5
    obtain rfl : k = 0 := by omega
    refine ⟨none, fun w => ?_, fun w hw => ⟨none, 0, 0, rfl, by simpa using hw⟩⟩
    simp [Instr.sliceAt, Instr.slice, go_sem]
  | some ad =>
    refine ⟨if cp = k then some ad else some (ad.add (k * 29)), fun w => ?_, fun w hw => ?_⟩
    · simp [Instr.sliceAt, Instr.slice, go_sem, h1, h2, h3]
    · obtain ⟨e1, e2, e3, e4, e5⟩ := hw
      by_cases hc : cp = k
      · rw [if_pos hc]
        have hl : l.drop k = [] := List.drop_eq_nil_of_le (by omega)
        rw [hl]
        refine ⟨some ad, _, _, rfl, by show 0 = n - k; omega, by omega, by omega, fun x hx => (by cases hx), fun i x hx => (by simp at hx)⟩
      · rw [if_neg hc]
        refine ⟨some (ad.add (k * 29)), _, _, rfl, by rw [List.length_drop]; omega, by omega, by omega, fun x hx => e4 x (List.mem_of_mem_drop hx), fun i x hx j hj => ?_⟩
        rw [List.getElem?_drop] at hx
        rw [add_add2 ad (k * 29) (i * 29), show k * 29 + i * 29 = (k + i) * 29 by omega]
        exact e5 (k + i) x hx j hj
section
variable {ops : Array Oper} {Q : Exit → Act → World → Prop} {Fv : Nat → Option Value} {a0 : Act} {op : Oper} {B : Nat} {w0 : World} {x : OC} {L1 L2 L3 : List OC}
structure NetS (ops : Array Oper) : Prop where
  n10 : ∀ d, ClosedM ops d → d.testBit 4 = false → d.testBit 10 = false
  n14 : ∀ d, ClosedM ops d → d.testBit 10 = false → d.testBit 14 = false
  n15 : ∀ d, ClosedM ops d → d.testBit 14 = false → d.testBit 15 = false
theorem no {b : Bool} {p : Prop} (h : b = false) (k : b = true) : p := by rw [h] at k; cases k
theorem on {b : Bool} {p : Prop} (h : b = true) (k : b = false) : p := by rw [h] at k; cases k
end
end Go.Proofs.YtfnmekmgjcjglaaDoor.V
