/-
  A region that draws its order, where some operations look at memory alone (what they give is known), and the others turn it (what holds then, by what has come up).
-/
import Derived.Test.YtagdapmnghnphaaDoorZHQB
namespace Go.Proofs.YtagdapmnghnphaaDoor.V
set_option linter.unusedVariables false
set_option linter.unusedSimpArgs false
set_option maxRecDepth 100000
open Go Go.RowKit Go.Maps Wire

/-- Where an operation has come up, so have those that it waits for. -/
def ClosedM (ops : Array Oper) (d : Nat) : Prop := ∀ i o, ops[i]? = some o → d.testBit i = true → ∀ j, (needOf o).testBit j = true → d.testBit j = true
section
variable {P : Program} {ops : Array Oper} {Q : Exit → Act → World → Prop} {Fv : Nat → Option Value} {M : Nat → (Nat → Value) → World → Prop}
def ValsM (ops : Array Oper) (Fv : Nat → Option Value) (d : Nat) (a : Act) : Prop := ∀ i v, i < ops.size → Fv i = some v → d.testBit i = true → valAt ops a i = v
/-- What has not come up has left its slot as it was. -/
def KeptM (ops : Array Oper) (a0 : Act) (d : Nat) (a : Act) : Prop := ∀ i s, dstAt ops i = some s → d.testBit i = false → a.tmps[s]? = a0.tmps[s]?
def InvM (ops : Array Oper) (Fv : Nat → Option Value) (M : Nat → (Nat → Value) → World → Prop) (a0 : Act) (d : Nat) (a : Act) (w : World) : Prop :=
  BaseA ops a0 a ∧ ClosedM ops d ∧ KeptM ops a0 d a ∧ ValsM ops Fv d a ∧ M d (valAt ops a) w
def StepM (P : Program) (ops : Array Oper) (Q : Exit → Act → World → Prop) (Fv : Nat → Option Value) (M : Nat → (Nat → Value) → World → Prop) (a0 : Act) (k : Nat) (op : Oper) : Prop :=
  ∀ d a w, BaseA ops a0 a → ClosedM ops d → KeptM ops a0 d a → d.testBit k = false → (∀ i, (needOf op).testBit i = true → d.testBit i = true) → ValsM ops Fv d a → M d (valAt ops a) w →
    Region.wanted op (yielded ops a.tmps) = true ∧ ∀ K : Act → World → Prop, (∀ v w2, (∀ u, Fv k = some u → vOf op v = u) → (∀ vals : Nat → Value, vals k = vOf op v → (∀ i, i ≠ k → vals i = valAt ops a i) → M (Nat.lor d (Nat.shiftLeft 1 k)) vals w2) → K (a.put op.dst v) w2) → Oper.wp P op a w K Q
def StepsM (P : Program) (ops : Array Oper) (Q : Exit → Act → World → Prop) (Fv : Nat → Option Value) (M : Nat → (Nat → Value) → World → Prop) (a0 : Act) : List Oper → Nat → Prop
  | [], _ => True
  | op :: r, k => StepM P ops Q Fv M a0 k op ∧ StepsM P ops Q Fv M a0 r (k + 1)
theorem stepsM_at {a0 : Act} : ∀ {l : List Oper} {j : Nat}, StepsM P ops Q Fv M a0 l j → ∀ i op, l[i]? = some op → StepM P ops Q Fv M a0 (j + i) op
  | [], _, _, i, op, h => by simp at h
  | x :: r, j, hs, 0, op, h => by
    obtain rfl : x = op := by simpa using h
    exact hs.1
  | x :: r, j, hs, i + 1, op, h => by
    have := stepsM_at hs.2 i op (by simpa using h)
    rwa [show j + 1 + i = j + (i + 1) by omega] at this
theorem closed_next {d k : Nat} {op : Oper} (ho : ops[k]? = some op) (hneed : ∀ i, (needOf op).testBit i = true → d.testBit i = true) (hcl : ClosedM ops d) : ClosedM ops (Nat.lor d (Nat.shiftLeft 1 k)) := by
  intro i opi hoi hbit j hj
  rw [or_bit] at hbit ⊢
  by_cases e : k = i
  · subst e
    rw [ho] at hoi
    cases hoi
    rw [hneed j hj]; rfl
  · rw [hcl i opi hoi (by simpa [e] using hbit) j hj]; rfl
theorem kept_next {a0 a : Act} {d k n : Nat} {op : Oper} (ho : ops[k]? = some op) (hd : dstsOK n ops.toList [] = true) (h : KeptM ops a0 d a) (v : Value) : KeptM ops a0 (Nat.lor d (Nat.shiftLeft 1 k)) (a.put op.dst v) := by
  intro i s hi hbit
  rw [or_bit] at hbit
  have h1 : d.testBit i = false := by cases e : d.testBit i <;> simp_all
  have h2 : k ≠ i := by intro e; subst e; simp at hbit
  rw [← h i s hi h1]
  unfold Act.put
  cases hq : op.dst with
  | none => rfl
  | some t =>
    have hne : t ≠ s := fun e => h2 ((dsts_ne ops.toList [] n hd).2 k i s (by rw [Array.getElem?_toList, ho, ← e]; exact hq) (by rw [Array.getElem?_toList]; exact hi))
    simp [Array.getElem?_setIfInBounds, hne]
theorem wp_mask {id : Nat} {a0 : Act} {w : World} (Fv : Nat → Option Value) (M : Nat → (Nat → Value) → World → Prop) (n : Nat) (hm : P.follows .mixedOrders = true)
    (hx : lexN (needTab ops) = true) (hn : a0.tmps.size = n) (hd : dstsOK n ops.toList [] = true) (hstep : StepsM P ops Q Fv M a0 ops.toList 0) (h0 : ∀ vals, M 0 vals w.drew)
    (hend : ∀ d vs w', (∀ i, i < ops.size → d.testBit i = true) → (∀ i v, i < ops.size → Fv i = some v → vs i = v) → M d vs w' → Q .normal ⟨fill ops.toList vs 0 a0.tmps, a0.defers⟩ w') : (Code.region id ops true).wp P Q a0 w := by
  refine wp_region_any hm (wpAny_inv (Inv := InvM ops Fv M a0) hx ?_ ?_ ops.size 0 _ a0 _ (Same.zero _) (by simp) ?_)
  · intro d k op a w' ho hk hneed hi
    obtain ⟨hb, hcl, hkp, hv, hM⟩ := hi
    have hs := stepsM_at hstep k op (by rw [Array.getElem?_toList]; exact ho)
    rw [Nat.zero_add] at hs
    refine wpOp_step ho (fun K hK => ?_)
    obtain ⟨hw, hwp⟩ := hs d a w' hb hcl hkp hk hneed hv hM
    have hsz : a.tmps.size = n := hb.size.trans hn
    rw [if_pos hw]
    refine hwp K fun v w2 hF hM2 => hK _ _ ⟨put_base hb ho v, closed_next ho hneed hcl, kept_next ho hd hkp v, fun i u hi hFi hbit => ?_, hM2 _ (put_val ho hd hsz v) (fun i hne => put_other ho hd (Ne.symm hne) v)⟩
    by_cases e : k = i
    · subst e
      rw [put_val ho hd hsz]
      exact hF u hFi
    · rw [put_other ho hd e]
      rw [or_bit] at hbit
      exact hv i u hi hFi (by simpa [e] using hbit)
  · rintro d a w' hall ⟨hb, _, _, hv, hM⟩
    rw [act_fill hb hn hd]
    exact hend d _ w' hall (fun i v hi hF => hv i v hi hF (hall i hi)) hM
  · exact ⟨⟨rfl, rfl, fun _ _ => rfl⟩, fun i o _ hbit => by simp at hbit, fun _ _ _ _ => rfl, fun i v _ _ hbit => by simp at hbit, h0 _⟩

/-! ### one operation -/
variable {a0 : Act} {k : Nat} {op : Oper}
/-- What an operand is. -/
def EvM (ops : Array Oper) (Fv : Nat → Option Value) (a0 : Act) (k : Nat) (op : Oper) (x : Operand) (v : Value) : Prop :=
  ∀ d a, BaseA ops a0 a → ClosedM ops d → KeptM ops a0 d a → d.testBit k = false → (∀ i, (needOf op).testBit i = true → d.testBit i = true) → ValsM ops Fv d a → a.eval x = v
theorem EvM.const {c : Value} : EvM ops Fv a0 k op (.const c) c := fun _ _ _ _ _ _ _ _ => rfl
theorem EvM.out {s : Nat} {v : Value} (hs : writes ops s = false) (h0 : a0.tmps.getD s undef = v) : EvM ops Fv a0 k op (.tmp s) v := fun d a hb _ _ _ _ _ => by
  have hne : ∀ i, dstAt ops i ≠ some s := fun i e => by
    unfold dstAt at e
    cases ho : ops[i]? with
    | none => rw [ho] at e; cases e
    | some o =>
      rw [ho] at e
      have e2 : o.dst = some s := e
      have hm : o ∈ ops.toList := by
        rw [← Array.getElem?_toList] at ho
        exact List.mem_of_getElem? ho
      have := List.any_eq_false.1 hs o hm
      rw [e2] at this
      simp at this
  show a.tmps.getD s undef = _
  rw [← h0, Array.getD_eq_getD_getElem?, Array.getD_eq_getD_getElem?, hb.rest s hne]
theorem evalM {a : Act} {i s : Nat} (h : dstAt ops i = some s) : a.eval (.tmp s) = valAt ops a i := by
  show a.tmps.getD s undef = _
  unfold valAt; rw [h]
theorem EvM.at {i s : Nat} {v : Value} (hd : dstAt ops i = some s) (hn : (needOf op).testBit i = true) (hF : Fv i = some v) (hi : i < ops.size) : EvM ops Fv a0 k op (.tmp s) v := fun d a hb _ _ _ hneed hv => by
  rw [evalM hd]
  exact hv i v hi hF (hneed i hn)
/-- A slot that an operation of the region writes that comes later. -/
theorem EvM.late {i s : Nat} {v : Value} {o : Oper} (h0 : a0.tmps.getD s undef = v) (hi : dstAt ops i = some s) (ho : ops[i]? = some o) (hn : (needOf o).testBit k = true) : EvM ops Fv a0 k op (.tmp s) v := fun d a hb hcl hkp hk _ _ => by
  have hf : d.testBit i = false := by
    cases h : d.testBit i with
    | false => rfl
    | true => rw [hcl i o ho h k hn] at hk; cases hk
  show a.tmps.getD s undef = _
  rw [← h0, Array.getD_eq_getD_getElem?, Array.getD_eq_getD_getElem?, hkp i s hi hf]
theorem wantedM {y : Nat → Option Bool} (hg : op.guard = none) : Region.wanted op y = true := by
  unfold Region.wanted
  rw [hg]
/-- An operation that looks at memory at most. -/
theorem m_quiet {v : Value} (hF : Fv k = some v) (hd : op.dst.isSome = true) (hg : op.guard = none) (hM : ∀ d vals vals' w, (∀ i, i ≠ k → vals' i = vals i) → M d vals w → M (Nat.lor d (Nat.shiftLeft 1 k)) vals' w)
    (h : ∀ d a w, BaseA ops a0 a → ClosedM ops d → KeptM ops a0 d a → d.testBit k = false → (∀ i, (needOf op).testBit i = true → d.testBit i = true) → ValsM ops Fv d a → M d (valAt ops a) w → (execOp a.eval op).run P w = .ok (.value v) w) : StepM P ops Q Fv M a0 k op := by
  intro d a w hb hcl hkp hk hneed hv hMd
  refine ⟨wantedM hg, fun K hK => ?_⟩
  unfold Oper.wp
  rw [h d a w hb hcl hkp hk hneed hv hMd]
  refine hK v w (fun u hu => ?_) (fun vals _ hne => hM d _ vals w hne hMd)
  obtain ⟨s, hs⟩ := Option.isSome_iff_exists.1 hd
  rw [hF] at hu
  cases hu
  unfold vOf
  rw [hs]
theorem m_move {x : Operand} {v : Value} (ho : op.op = .move x ∨ op.op = .assign x) (hF : Fv k = some v) (hd : op.dst.isSome = true) (hg : op.guard = none) (hM : ∀ d vals vals' w, (∀ i, i ≠ k → vals' i = vals i) → M d vals w → M (Nat.lor d (Nat.shiftLeft 1 k)) vals' w)
    (h1 : EvM ops Fv a0 k op x v) : StepM P ops Q Fv M a0 k op :=
  m_quiet hF hd hg hM fun d a w hb hcl hkp hk hneed hv _ => by rw [run_move x ho a w, h1 d a hb hcl hkp hk hneed hv]
end
end Go.Proofs.YtagdapmnghnphaaDoor.V

namespace Go.Proofs.YtagdapmnghnphaaDoor.V
set_option linter.unusedVariables false
set_option linter.unusedSimpArgs false
set_option maxRecDepth 100000
open Go Go.RowKit Go.Maps Wire

theorem sort_nil : SortOf [] [] := ⟨List.Pairwise.nil, fun x => by simp⟩
theorem find_none_dt {r : List OC} {x : OC} (h : (findM r (dt x)).isSome = false) : ∀ y ∈ r, dt y ≠ dt x := fun y hy e => by
  have h1 : findM r (dt x) = none := by cases h2 : findM r (dt x) <;> simp_all
  have := List.find?_eq_none.1 h1 y hy
  simp [e] at this
theorem find_one (x : OC) (d : Dot) : [x].find? (fun z => dt z == d) = if dt x = d then some x else none := by
  by_cases h : dt x = d
  · rw [if_pos h]; simp [h]
  · rw [if_neg h]; simp [h]
theorem sort_skip {l : List OC} {i : Nat} {x : OC} {r : List OC} (hx : l[i]? = some x) (h : SortOf (l.take i) r) (hf : (findM r (dt x)).isSome = true) : SortOf (l.take (i + 1)) r := by
  refine ⟨h.inc, fun y => ?_⟩
  rw [take_snocO hx, List.find?_append, h.mem]
  constructor
  · intro hy
    rw [hy]; rfl
  · intro hy
    cases hq : (l.take i).find? (fun z => dt z == dt y) with
    | some z => rw [hq] at hy; simpa using hy
    | none =>
      rw [hq, find_one] at hy
      exfalso
      have hd : dt x = dt y := by
        by_cases e : dt x = dt y
        · exact e
        · rw [if_neg e] at hy; simp at hy
      unfold findM at hf
      rw [List.find?_isSome] at hf
      obtain ⟨z, hz, he⟩ := hf
      have he' : dt z = dt x := by simpa using he
      have := (h.mem z).1 hz
      rw [he', hd, hq] at this
      cases this
theorem sort_insert {l : List OC} {i k : Nat} {x : OC} {r : List OC} (hx : l[i]? = some x) (h : SortOf (l.take i) r) (hf : (findM r (dt x)).isSome = false) (hgt : ∀ y ∈ r.drop k, ltO x y) (hle : ∀ y ∈ r.take k, ltO y x) :
    SortOf (l.take (i + 1)) (r.take k ++ [x] ++ r.drop k) := by
  have hs : (r.take k ++ r.drop k).Pairwise ltO := by rw [List.take_append_drop]; exact h.inc
  obtain ⟨p1, p2, p3⟩ := List.pairwise_append.1 hs
  refine ⟨?_, fun y => ?_⟩
  · refine List.pairwise_append.2 ⟨List.pairwise_append.2 ⟨p1, List.pairwise_singleton _ _, fun a ha b hb => ?_⟩, p2, fun a ha b hb => ?_⟩
    · rw [List.mem_singleton] at hb; subst hb; exact hle a ha
    · rcases List.mem_append.1 ha with ha | ha
      · exact p3 a ha b hb
      · rw [List.mem_singleton] at ha; subst ha; exact hgt b hb
  · have hm : y ∈ r.take k ++ [x] ++ r.drop k ↔ y ∈ r ∨ y = x := by
      rw [List.mem_append, List.mem_append, List.mem_singleton]
      conv => rhs; rw [← List.take_append_drop k r, List.mem_append]
      constructor
      · rintro ((h | h) | h)
        · exact .inl (.inl h)
        · exact .inr h
        · exact .inl (.inr h)
      · rintro ((h | h) | h)
        · exact .inl (.inl h)
        · exact .inr h
        · exact .inl (.inr h)
    have hno := find_none_dt hf
    rw [hm, take_snocO hx, List.find?_append]
    constructor
    · rintro (hy | rfl)
      · rw [(h.mem y).1 hy]; rfl
      · cases hq : (l.take i).find? (fun z => dt z == dt y) with
        | none => rw [find_one, if_pos rfl]; rfl
        | some z =>
          have hd : dt z = dt y := by simpa using List.find?_some hq
          rw [← hd] at hq
          exact absurd hd (hno z ((h.mem z).2 hq))
    · intro hy
      cases hq : (l.take i).find? (fun z => dt z == dt y) with
      | some z =>
        rw [hq] at hy
        have : z = y := by simpa using hy
        subst this
        exact .inl ((h.mem z).2 hq)
      | none =>
        rw [hq, find_one] at hy
        by_cases e : dt x = dt y
        · rw [if_pos e] at hy
          exact .inr (by simpa using hy.symm)
        · rw [if_neg e] at hy; simp at hy
theorem ins_le {r : List OC} {k : Nat} {x : OC} (hs : r.Pairwise ltO) (hk : k ≤ r.length) (hne : ∀ y ∈ r, dt y ≠ dt x) (h : k = 0 ∨ ∃ y, r[k - 1]? = some y ∧ ¬ ltO x y) : ∀ y ∈ r.take k, ltO y x := by
  intro y hy
  rcases h with rfl | ⟨z, hz, hlt⟩
  · simp at hy
  · have hzm := List.mem_of_getElem? hz
    have hzx : ltO z x := (ltO_total (hne z hzm)).resolve_right hlt
    obtain ⟨j, hj⟩ := List.mem_iff_getElem?.1 hy
    have hjk : j < k := by
      have := (List.getElem?_eq_some_iff.1 hj).1
      rw [List.length_take] at this
      omega
    rw [List.getElem?_take, if_pos hjk] at hj
    by_cases e : j = k - 1
    · subst e
      rw [hz] at hj
      cases hj
      exact hzx
    · obtain ⟨hj1, rfl⟩ := List.getElem?_eq_some_iff.1 hj
      obtain ⟨hz1, rfl⟩ := List.getElem?_eq_some_iff.1 hz
      exact ltO_trans (List.pairwise_iff_getElem.1 hs j (k - 1) hj1 hz1 (by omega)) hzx
/-! ### the region that puts an operation where it stands -/
def FreshO (B : Nat) (w : World) (v : Value) : Prop := ∃ g, v = .slice (some ⟨g, 0, none⟩) 0 0 ∧ B ≤ g ∧ w.heap[g]? = some (.cells #[] 34 (0, 0))
def LaidO (w : World) (x : OC) (v : Value) : Prop := ∃ g, v = .slice (some ⟨g, 0, none⟩) 1 1 ∧ w.heap[g]? = some (.cells (oc x.1) 34 (0, 0))
theorem FreshO.keep {B : Nat} {w w' : World} {v : Value} (h : FreshO B w v) (hb : Below w.heap.size w w') : FreshO B w' v := by
  obtain ⟨g, e, h1, h2⟩ := h
  exact ⟨g, e, h1, heap_keep h2 hb⟩
theorem LaidO.keep {w w' : World} {x : OC} {v : Value} (h : LaidO w x v) (hb : Below w.heap.size w w') : LaidO w' x v := by
  obtain ⟨g, e, h2⟩ := h
  exact ⟨g, e, heap_keep h2 hb⟩
theorem FreshO.own {B : Nat} {w : World} {v : Value} (h : FreshO B w v) : OwnO B w v [] := by
  obtain ⟨g, rfl, h1, h2⟩ := h
  exact ⟨⟨rfl, .inr ⟨_, 0, #[], rfl, h1, h2, Nat.le_refl _, Nat.zero_le _, rfl, rfl⟩⟩, fun x hx => by cases hx⟩
theorem LaidO.opsV {w : World} {x : OC} {v : Value} (h : LaidO w x v) (hx : okO x.1) (hc : ClaimsV w x.1.lv x.2) : OpsV w v [x] := by
  obtain ⟨g, rfl, h2⟩ := h
  refine ⟨some ⟨g, 0, none⟩, 1, 1, rfl, rfl, Nat.le_refl _, by unfold maxLen; omega, fun y hy => ?_, ?_⟩
  · rw [List.mem_singleton] at hy; subst hy; exact ⟨hx, hc⟩
  · intro i y hy k hk
    have hi : i = 0 := by
      have := (List.getElem?_eq_some_iff.1 hy).1
      simp at this
      exact this
    subst hi
    have e : y = x := by simpa using hy.symm
    subst e
    rw [Nat.zero_mul, add_add2, Nat.zero_add, add8]
    exact cell_of_heap h2
/-- What holds in memory, by what has come up. -/
structure MemS (B : Nat) (w0 : World) (x : OC) (L1 L2 L3 : List OC) (d : Nat) (v : Nat → Value) (w : World) : Prop where
  below : Below B w0 w
  m0 : d.testBit 0 = true → d.testBit 4 = false → FreshO B w (v 0)
  m9 : d.testBit 9 = true → d.testBit 10 = false → LaidO w x (v 9)
  m4 : d.testBit 4 = true → d.testBit 10 = false → OwnO B w (v 4) L1
  m10 : d.testBit 10 = true → d.testBit 14 = false → OwnO B w (v 10) L2
  m14 : d.testBit 14 = true → OwnO B w (v 14) L3
  m15 : d.testBit 15 = true → OwnO B w (v 15) L3
theorem bit_ne {d k i : Nat} (h : i ≠ k) : (Nat.lor d (Nat.shiftLeft 1 k)).testBit i = d.testBit i := by
  rw [or_bit, decide_eq_false (fun e => h e.symm), Bool.or_false]
theorem bit_eq (d k : Nat) : (Nat.lor d (Nat.shiftLeft 1 k)).testBit k = true := by
  rw [or_bit, decide_eq_true rfl, Bool.or_true]
theorem MemS.quiet {B : Nat} {w0 : World} {x : OC} {L1 L2 L3 : List OC} {k : Nat} (h0 : 0 ≠ k) (h4 : 4 ≠ k) (h9 : 9 ≠ k) (h10 : 10 ≠ k) (h14 : 14 ≠ k) (h15 : 15 ≠ k) :
    ∀ d vals vals' w, (∀ i, i ≠ k → vals' i = vals i) → MemS B w0 x L1 L2 L3 d vals w → MemS B w0 x L1 L2 L3 (Nat.lor d (Nat.shiftLeft 1 k)) vals' w := by
  intro d v v' w hv h
  refine ⟨h.below, ?_, ?_, ?_, ?_, ?_, ?_⟩
  · rw [bit_ne h0, bit_ne h4, hv 0 h0]; exact h.m0
  · rw [bit_ne h9, bit_ne h10, hv 9 h9]; exact h.m9
  · rw [bit_ne h4, bit_ne h10, hv 4 h4]; exact h.m4
  · rw [bit_ne h10, bit_ne h14, hv 10 h10]; exact h.m10
  · rw [bit_ne h14, hv 14 h14]; exact h.m14
  · rw [bit_ne h15, hv 15 h15]; exact h.m15
theorem opwp_pushAll {o : Oper} {a : Act} {w : World} {K : Act → World → Prop} {Q : Exit → Act → World → Prop} (s x : Operand)
    (ho : o.op = .call { callee := .builtin .append, args := #[s, x], argTypes := #[22, 22] }) (B : Nat) (v : Value) (l : List OC) (hs : a.eval s = v) (hown : OwnO B w v l) (hB : B ≤ w.heap.size)
    (u : Value) (m : List OC) (hx : a.eval x = u) (hu : OpsV w u m) (hc : ∀ y ∈ m, ClaimsB B w y.1.lv y.2) (hlen : l.length + m.length ≤ 900000)
    (h : ∀ v3 w', Pushed B w w' v3 (l ++ m) → (∀ b ob, w.heap[b]? = some ob → v.ownBlock ≠ some b → w'.heap[b]? = some ob) → K (a.put o.dst v3) w') : o.wp Tryd.prog a w K Q := by
  obtain ⟨i0, hi, hz0, hz1, hz2⟩ := info_parts infoOp
  obtain ⟨ad, n, cp, rfl, hI⟩ := hu
  cases ad with
  | none =>
    obtain ⟨rfl, rfl⟩ := hI.2.2.2.2
    obtain rfl : m = [] := List.length_eq_zero_iff.1 hI.1
    have hrun := run_append_owned_none (P := Tryd.prog) (w := w) B 22 o.type 34 i0 29 Tryd.underlying22 hi v _ _ hown.1
    rw [List.append_nil] at h
    unfold Oper.wp
    simp [execOp, ho, resolve, invoke, builtin, hs, hx, hrun, Result.andThen]
    exact h v w ⟨hown, fun _ _ _ _ _ hc => hc, fun _ _ => rfl, fun _ h => h, Nat.le_refl _⟩ (fun _ _ hb _ => hb)
  | some ad =>
    refine wp_append_own w s x 22 ho B 34 i0 (.agg (oc zeroO)) 29 144 Tryd.underlying22 hi hz0 hz1 hz2 rfl (by decide) v _ _ hs hown.1 ad n cp (flatO m) hx (by rw [flatO_size, hI.1])
      hI.flat (flatO_cells1 fun y hy => (hI.2.2.2.1 y hy).2) (by rw [← hI.1]; unfold maxLen; omega) (by rw [← hI.1]; omega) hB ?_
    intro v3 w3 hown3 hgr _
    rw [← hI.1] at hown3
    exact h v3 w3 (Pushed.of hown hB (Below.refl _ _) hgr (OwnO.pushAll hown hB (Below.refl _ _) hgr hown3 (fun y hy => ⟨(hI.2.2.2.1 y hy).1, hc y hy⟩))) (fun b ob hb hne => (hgr.block b (lt_of_heap hb) (fun e => hne e.symm)).trans hb)
end Go.Proofs.YtagdapmnghnphaaDoor.V

namespace Go.Proofs.YtagdapmnghnphaaDoor.V
set_option linter.unusedVariables false
set_option linter.unusedSimpArgs false
set_option maxRecDepth 100000
open Go Go.RowKit Go.Maps Wire

theorem sl_fromV {p : Option Addr} {n cp : Nat} {l : List OC} {w0 : World} (h : IsOps w0 p n cp l) {k : Nat} (hk : k ≤ n) : ∃ q, (∀ w, (Instr.sliceAt 22 (.slice p n cp) (some (.int .i64 (k : Int))) none none).run Tryd.prog w = .ok (.slice q (n - k) (cp - k)) w) ∧
    ∀ w, IsOps w p n cp l → OpsV w (.slice q (n - k) (cp - k)) (l.drop k) := by
  obtain ⟨g1, g2, g3, g4, g5⟩ := h
  have g3' := g3
  unfold maxLen at g3
  have h1 : (k : Int) ≤ (n : Int) := by omega
  have h2 : ¬ (n < k) := by omega
  have h3 : ¬ (cp < n) := by omega
  cases p with
  | none =>
    obtain ⟨rfl, rfl⟩ := g5
    obtain rfl : k = 0 := by omega
    refine ⟨none, fun w => ?_, fun w hw => ⟨none, 0, 0, rfl, by simpa using hw⟩⟩
    simp [Instr.sliceAt, Instr.slice, go_sem]
  | some ad =>
    refine ⟨if cp = k then some ad else some (ad.add (k * 29)), fun w => ?_, fun w hw => ?_⟩
    · simp [Instr.sliceAt, Instr.slice, go_sem, h1, h2, h3]
    · obtain ⟨e1, e2, e3, e4, e5⟩ := hw
      by_cases hc : cp = k
      · rw [if_pos hc]
        have hl : l.drop k = [] := List.drop_eq_nil_of_le (by omega)
        rw [hl]
        refine ⟨some ad, _, _, rfl, by show 0 = n - k; omega, by omega, by omega, fun x hx => (by cases hx), fun i x hx => (by simp at hx)⟩
      · rw [if_neg hc]
        refine ⟨some (ad.add (k * 29)), _, _, rfl, by rw [List.length_drop]; omega, by omega, by omega, fun x hx => e4 x (List.mem_of_mem_drop hx), fun i x hx j hj => ?_⟩
        rw [List.getElem?_drop] at hx
        rw [add_add2 ad (k * 29) (i * 29), show k * 29 + i * 29 = (k + i) * 29 by omega]
        exact e5 (k + i) x hx j hj
section
variable {ops : Array Oper} {Q : Exit → Act → World → Prop} {Fv : Nat → Option Value} {a0 : Act} {op : Oper} {B : Nat} {w0 : World} {x : OC} {L1 L2 L3 : List OC}
theorem closedB {d i j : Nat} {o : Oper} (hcl : ClosedM ops d) (ho : ops[i]? = some o) (hn : (needOf o).testBit j = true) (hf : d.testBit j = false) : d.testBit i = false := by
  cases h : d.testBit i with
  | false => rfl
  | true => rw [hcl i o ho h j hn] at hf; cases hf
structure NetS (ops : Array Oper) : Prop where
  n10 : ∀ d, ClosedM ops d → d.testBit 4 = false → d.testBit 10 = false
  n14 : ∀ d, ClosedM ops d → d.testBit 10 = false → d.testBit 14 = false
  n15 : ∀ d, ClosedM ops d → d.testBit 14 = false → d.testBit 15 = false
theorem no {b : Bool} {p : Prop} (h : b = false) (k : b = true) : p := by rw [h] at k; cases k
theorem on {b : Bool} {p : Prop} (h : b = true) (k : b = false) : p := by rw [h] at k; cases k
theorem MemS.keepB {d : Nat} {v : Nat → Value} {w w' : World} (h : MemS w0.heap.size w0 x L1 L2 L3 d v w) (hb : Below w.heap.size w w') : MemS w0.heap.size w0 x L1 L2 L3 d v w' := by
  have hB : w0.heap.size ≤ w.heap.size := h.below.size
  exact ⟨below_next h.below hb, fun a b => (h.m0 a b).keep hb, fun a b => (h.m9 a b).keep hb, fun a b => (h.m4 a b).keep hB hb, fun a b => (h.m10 a b).keep hB hb, fun a => (h.m14 a).keep hB hb, fun a => (h.m15 a).keep hB hb⟩
theorem vof {v : Value} {s : Nat} (h : op.dst = some s) : vOf op v = v := by unfold vOf; rw [h]
theorem run_fresh (w : World) : (Instr.buildSlice 22 0 #[]).run Tryd.prog w = .ok (.slice (some ⟨w.heap.size, 0, none⟩) 0 0) (w.alloc (.cells #[] 34)) := by
  obtain ⟨i0, hi, hz0, hz1, hz2⟩ := info_parts infoOp
  simp [Instr.buildSlice, run_underlying Tryd.underlying22, sizeOf, typeInfo, zeroValue, hi, hz0, hz1, newRow, Instr.fill]
  congr 2
  exact Array.eq_empty_of_size_eq_zero (by simp)
theorem m_fresh {s : Nat} (ho : op.op = .buildSlice 22 0 #[]) (hF : Fv 0 = none) (hg : op.guard = none) (hd : op.dst = some s) : StepM Tryd.prog ops Q Fv (MemS w0.heap.size w0 x L1 L2 L3) a0 0 op := by
  intro d a w hb hcl hkp hk hneed hv h
  refine ⟨wantedM hg, fun K hK => ?_⟩
  obtain ⟨i0, hi, hz0, hz1, hz2⟩ := info_parts infoOp
  have hr := run_fresh w
  unfold Oper.wp execOp
  simp only [ho, List.map_toArray, List.map_nil, Sem.run_bind, Sem.run_pure, Result.andThen_ok, hr]
  have hB : w0.heap.size ≤ w.heap.size := h.below.size
  have h2 := h.keepB (below_al w (.cells #[] 34))
  refine hK _ _ (fun u hu => by rw [hF] at hu; cases hu) (fun vals hvk hne => ⟨h2.below, fun _ _ => ⟨w.heap.size, hvk.trans (vof hd), hB, heap_alloc_last' _ _⟩, ?_, ?_, ?_, ?_, ?_⟩)
  · rw [bit_ne (show 9 ≠ 0 by decide), bit_ne (show 10 ≠ 0 by decide), hne 9 (by decide)]; exact h2.m9
  · rw [bit_ne (show 4 ≠ 0 by decide), bit_ne (show 10 ≠ 0 by decide), hne 4 (by decide)]; exact h2.m4
  · rw [bit_ne (show 10 ≠ 0 by decide), bit_ne (show 14 ≠ 0 by decide), hne 10 (by decide)]; exact h2.m10
  · rw [bit_ne (show 14 ≠ 0 by decide), hne 14 (by decide)]; exact h2.m14
  · rw [bit_ne (show 15 ≠ 0 by decide), hne 15 (by decide)]; exact h2.m15
theorem m_laid {s : Nat} {y : Operand} (ho : op.op = .buildSlice 22 1 #[(0, y)]) (hF : Fv 9 = none) (hg : op.guard = none) (hd : op.dst = some s) (h1 : EvM ops Fv a0 9 op y (.agg (oc x.1))) : StepM Tryd.prog ops Q Fv (MemS w0.heap.size w0 x L1 L2 L3) a0 9 op := by
  intro d a w hb hcl hkp hk hneed hv h
  refine ⟨wantedM hg, fun K hK => ?_⟩
  obtain ⟨i0, hi, hz0, hz1, hz2⟩ := info_parts infoOp
  have hr := run_buildSlice (P := Tryd.prog) w 22 34 1 #[(0, .agg (oc x.1))] (oc x.1) i0 _ Tryd.underlying22 hi hz0 (by rw [hz1]; omega) (by rw [hz1]; omega) (by rw [hz1]; simpa using fill_op x.1)
  unfold Oper.wp execOp
  simp only [ho, List.map_toArray, List.map_cons, List.map_nil, h1 d a hb hcl hkp hk hneed hv, Sem.run_bind, Sem.run_pure, Result.andThen_ok, hr]
  have h2 := h.keepB (below_al w (.cells (oc x.1) 34))
  refine hK _ _ (fun u hu => by rw [hF] at hu; cases hu) (fun vals hvk hne => ⟨h2.below, ?_, fun _ _ => ⟨w.heap.size, hvk.trans (vof hd), heap_alloc_last' _ _⟩, ?_, ?_, ?_, ?_⟩)
  · rw [bit_ne (show 0 ≠ 9 by decide), bit_ne (show 4 ≠ 9 by decide), hne 0 (by decide)]; exact h2.m0
  · rw [bit_ne (show 4 ≠ 9 by decide), bit_ne (show 10 ≠ 9 by decide), hne 4 (by decide)]; exact h2.m4
  · rw [bit_ne (show 10 ≠ 9 by decide), bit_ne (show 14 ≠ 9 by decide), hne 10 (by decide)]; exact h2.m10
  · rw [bit_ne (show 14 ≠ 9 by decide), hne 14 (by decide)]; exact h2.m14
  · rw [bit_ne (show 15 ≠ 9 by decide), hne 15 (by decide)]; exact h2.m15
theorem m_app4 {s t : Nat} {y : Operand} {u : Value} (hN : NetS ops) (ho : op.op = .call { callee := .builtin .append, args := #[.tmp t, y], argTypes := #[22, 22] }) (hF : Fv 4 = none) (hg : op.guard = none) (hd : op.dst = some s)
    (h0 : dstAt ops 0 = some t) (n0 : (needOf op).testBit 0 = true) (h1 : EvM ops Fv a0 4 op y u) (hu : OpsV w0 u L1) (hl : L1.length ≤ 100000) : StepM Tryd.prog ops Q Fv (MemS w0.heap.size w0 x L1 L2 L3) a0 4 op := by
  intro d a w hb hcl hkp hk hneed hv h
  refine ⟨wantedM hg, fun K hK => ?_⟩
  have hB : w0.heap.size ≤ w.heap.size := h.below.size
  have hfr := h.m0 (hneed 0 n0) hk
  have f10 := hN.n10 d hcl hk
  have f14 := hN.n14 d hcl f10
  have f15 := hN.n15 d hcl f14
  refine opwp_pushAll (.tmp t) y ho w0.heap.size (valAt ops a 0) [] (evalM h0) hfr.own hB u L1 (h1 d a hb hcl hkp hk hneed hv) (hu.keep h.below) (fun z hz => (((hu.all z hz).2).below (Nat.le_refl _)).keep (Nat.le_refl _) h.below) (by show 0 + _ ≤ _; omega) (fun v3 w' hP hfrm => ?_)
  refine hK v3 w' (fun u hu => by rw [hF] at hu; cases hu) (fun vals hvk hne => ⟨hP.below w0 h.below, fun _ hc => on (bit_eq d 4) hc, ?_, fun _ _ => ?_, ?_, ?_, ?_⟩)
  · rw [bit_ne (show 9 ≠ 4 by decide), bit_ne (show 10 ≠ 4 by decide), hne 9 (by decide)]
    intro a9 a10
    obtain ⟨g, e, hg9⟩ := h.m9 a9 a10
    refine ⟨g, e, hfrm g _ hg9 (fun e2 => ?_)⟩
    obtain ⟨g0, e0, _, hg0⟩ := hfr
    rw [e0] at e2
    obtain rfl : g0 = g := Option.some.inj e2
    rw [hg9] at hg0
    have := congrArg (fun o : Option Obj => match o with | some (.cells c _ _) => c.size | _ => 0) hg0
    simp [oc_size] at this
  · rw [hvk, vof hd]; exact hP.own
  · rw [bit_ne (show 10 ≠ 4 by decide)]; exact fun hc => no f10 hc
  · rw [bit_ne (show 14 ≠ 4 by decide)]; exact fun hc => no f14 hc
  · rw [bit_ne (show 15 ≠ 4 by decide)]; exact fun hc => no f15 hc
theorem m_app10 {s t t9 : Nat} (hN : NetS ops) (ho : op.op = .call { callee := .builtin .append, args := #[.tmp t, .tmp t9], argTypes := #[22, 22] }) (hF : Fv 10 = none) (hg : op.guard = none) (hd : op.dst = some s)
    (h4 : dstAt ops 4 = some t) (n4 : (needOf op).testBit 4 = true) (h9 : dstAt ops 9 = some t9) (n9 : (needOf op).testBit 9 = true) (hx : okO x.1) (hc : ClaimsV w0 x.1.lv x.2) (hl : L1.length ≤ 100000) : StepM Tryd.prog ops Q Fv (MemS w0.heap.size w0 x L1 (L1 ++ [x]) L3) a0 10 op := by
  intro d a w hb hcl hkp hk hneed hv h
  refine ⟨wantedM hg, fun K hK => ?_⟩
  have hB : w0.heap.size ≤ w.heap.size := h.below.size
  have f14 := hN.n14 d hcl hk
  have f15 := hN.n15 d hcl f14
  refine opwp_pushAll (.tmp t) (.tmp t9) ho w0.heap.size (valAt ops a 4) L1 (evalM h4) (h.m4 (hneed 4 n4) hk) hB (valAt ops a 9) [x] (evalM h9) ((h.m9 (hneed 9 n9) hk).opsV hx (hc.keep h.below)) (fun z hz => ?_) (by simp only [List.length_cons, List.length_nil]; omega) (fun v3 w' hP hfrm => ?_)
  · rw [List.mem_singleton] at hz; subst hz
    exact (hc.below (Nat.le_refl _)).keep (Nat.le_refl _) h.below
  refine hK v3 w' (fun u hu => by rw [hF] at hu; cases hu) (fun vals hvk hne => ⟨hP.below w0 h.below, ?_, fun _ hc => on (bit_eq d 10) hc, fun _ hc => on (bit_eq d 10) hc, fun _ _ => ?_, ?_, ?_⟩)
  · rw [bit_ne (show 4 ≠ 10 by decide)]; exact fun _ hc => on (hneed 4 n4) hc
  · rw [hvk, vof hd]; exact hP.own
  · rw [bit_ne (show 14 ≠ 10 by decide)]; exact fun hc => no f14 hc
  · rw [bit_ne (show 15 ≠ 10 by decide)]; exact fun hc => no f15 hc
theorem m_app14 {s t : Nat} {y : Operand} {u : Value} {L4 : List OC} (hN : NetS ops) (n4 : ∀ d, ClosedM ops d → d.testBit 10 = true → d.testBit 4 = true) (ho : op.op = .call { callee := .builtin .append, args := #[.tmp t, y], argTypes := #[22, 22] }) (hF : Fv 14 = none) (hg : op.guard = none) (hd : op.dst = some s)
    (h0 : dstAt ops 10 = some t) (n0 : (needOf op).testBit 10 = true) (h1 : EvM ops Fv a0 14 op y u) (hu : OpsV w0 u L4) (hl : L4.length ≤ 100000) (hl2 : L2.length ≤ 200000) : StepM Tryd.prog ops Q Fv (MemS w0.heap.size w0 x L1 L2 (L2 ++ L4)) a0 14 op := by
  intro d a w hb hcl hkp hk hneed hv h
  refine ⟨wantedM hg, fun K hK => ?_⟩
  have hB : w0.heap.size ≤ w.heap.size := h.below.size
  have f15 := hN.n15 d hcl hk
  have t10 := hneed 10 n0
  have t4 := n4 d hcl t10
  refine opwp_pushAll (.tmp t) y ho w0.heap.size (valAt ops a 10) L2 (evalM h0) (h.m10 t10 hk) hB u L4 (h1 d a hb hcl hkp hk hneed hv) (hu.keep h.below) (fun z hz => (((hu.all z hz).2).below (Nat.le_refl _)).keep (Nat.le_refl _) h.below) (by omega) (fun v3 w' hP hfrm => ?_)
  refine hK v3 w' (fun u hu => by rw [hF] at hu; cases hu) (fun vals hvk hne => ⟨hP.below w0 h.below, ?_, ?_, ?_, fun _ hc => on (bit_eq d 14) hc, fun _ => ?_, ?_⟩)
  · rw [bit_ne (show 4 ≠ 14 by decide)]; exact fun _ hc => on t4 hc
  · rw [bit_ne (show 10 ≠ 14 by decide)]; exact fun _ hc => on t10 hc
  · rw [bit_ne (show 10 ≠ 14 by decide)]; exact fun _ hc => on t10 hc
  · rw [hvk, vof hd]; exact hP.own
  · rw [bit_ne (show 15 ≠ 14 by decide)]; exact fun hc => no f15 hc
theorem m_as15 {s t : Nat} (ho : op.op = .assign (.tmp t)) (hF : Fv 15 = none) (hg : op.guard = none) (hd : op.dst = some s) (h0 : dstAt ops 14 = some t) (n0 : (needOf op).testBit 14 = true) : StepM Tryd.prog ops Q Fv (MemS w0.heap.size w0 x L1 L2 L3) a0 15 op := by
  intro d a w hb hcl hkp hk hneed hv h
  refine ⟨wantedM hg, fun K hK => ?_⟩
  unfold Oper.wp
  rw [run_move (.tmp t) (.inr ho) a w]
  refine hK _ w (fun u hu => by rw [hF] at hu; cases hu) (fun vals hvk hne => ⟨h.below, ?_, ?_, ?_, ?_, ?_, fun _ => ?_⟩)
  · rw [bit_ne (show 0 ≠ 15 by decide), bit_ne (show 4 ≠ 15 by decide), hne 0 (by decide)]; exact h.m0
  · rw [bit_ne (show 9 ≠ 15 by decide), bit_ne (show 10 ≠ 15 by decide), hne 9 (by decide)]; exact h.m9
  · rw [bit_ne (show 4 ≠ 15 by decide), bit_ne (show 10 ≠ 15 by decide), hne 4 (by decide)]; exact h.m4
  · rw [bit_ne (show 10 ≠ 15 by decide), bit_ne (show 14 ≠ 15 by decide), hne 10 (by decide)]; exact h.m10
  · rw [bit_ne (show 14 ≠ 15 by decide), hne 14 (by decide)]; exact h.m14
  · rw [hvk, vof hd, evalM h0]; exact h.m14 (hneed 14 n0)
end
end Go.Proofs.YtagdapmnghnphaaDoor.V
