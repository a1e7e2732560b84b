/-
  A region that draws its order, walked as a tree: loads and what looks at no world may be taken first; of the rest, whichever may come up has a branch of its own.
-/
import Derived.Test.YtfnmekmgjcjglaaDoorYOOrd
namespace Go.Proofs.YtfnmekmgjcjglaaDoor
set_option linter.unusedVariables false
set_option linter.unusedSimpArgs false
open Go Go.RowKit
set_option maxRecDepth 100000
set_option linter.unusedVariables false
set_option linter.unusedSimpArgs false
set_option maxRecDepth 100000
set_option linter.unusedVariables false
set_option linter.unusedSimpArgs false
inductive Tr where
  | nil
  | stop
  | take (k d : Nat) (t : Tr)
  | op (k d : Nat) (t more : Tr)
def chainM : Tr → Nat
  | .op k _ _ more => Nat.lor (chainM more) (Nat.shiftLeft 1 k)
  | _ => 0
def onlyT (c d j m : Nat) : Bool := bitN c j || (bitN d j || !subN m d)
def ordT (ops : Array Oper) (tab : List (Nat × Nat)) : Tr → Bool → Nat → Nat → Bool
  | .nil, head, d, n => head && (Nat.beq n 0 && allN (fun j _ => bitN d j) tab)
  | .stop, head, _, _ => !head
  | .take k d' t, head, d, n => head && (Nat.beq d d' && (!Nat.beq n 0 && (!bitN d' k && ((match ops[k]? with
      | some o => takes o && (subN (needOf o) d' && allN (freeN ops o k d') tab)
      | none => false) && ordT ops tab t true (Nat.lor d' (Nat.shiftLeft 1 k)) (n - 1)))))
  | .op k d' t more, head, d, n => Nat.beq d d' && (!Nat.beq n 0 && (!bitN d' k && ((match ops[k]? with
      | some o => subN (needOf o) d'
      | none => false) && ((!head || allN (onlyT (Nat.lor (chainM more) (Nat.shiftLeft 1 k)) d') tab) && (ordT ops tab t true (Nat.lor d' (Nat.shiftLeft 1 k)) (n - 1) && ordT ops tab more false d' n)))))
def wpTree (P : Program) (ops : Array Oper) (Q : Exit → Act → World → Prop) (S : World → Prop) : Tr → Act → World → Prop
  | .nil, a, w => Q .normal a w
  | .stop, _, _ => True
  | .take k _ t, a, w => ∃ o, ops[k]? = some o ∧ ∃ v, YieldsIf P ops S o v a ∧ wpTree P ops Q S t (a.put o.dst v) w
  | .op k _ t more, a, w => wpOp P ops Q k (fun a' w' => S w' ∧ (S w' → wpTree P ops Q S t a' w')) a w ∧ wpTree P ops Q S more a w
section
variable {P : Program} {ops : Array Oper} {Q : Exit → Act → World → Prop} {S : World → Prop}
end
end Go.Proofs.YtfnmekmgjcjglaaDoor
/-
  A region that draws its order, by facts of its operations: each operation is walked once, whatever has come up ahead of it; its fact is kept by all others.
-/
namespace Go.Proofs.YtfnmekmgjcjglaaDoor
set_option linter.unusedVariables false
set_option linter.unusedSimpArgs false
open Go Go.RowKit
/-- Each operation waits for earlier ones alone. -/
def lexN : List (Nat × Nat) → Bool
  | [] => true
  | (j, m) :: r => Nat.blt m (Nat.shiftLeft 1 j) && lexN r
theorem lexN_mem : ∀ {t : List (Nat × Nat)}, lexN t = true → ∀ p ∈ t, p.2 < 2 ^ p.1
  | [], _, p, hp => by cases hp
  | (j, m) :: r, h, p, hp => by
    simp only [lexN, Bool.and_eq_true] at h
    rcases List.mem_cons.1 hp with rfl | hp
    · have h1 := h.1
      rw [Nat.blt_eq] at h1
      have e : Nat.shiftLeft 1 j = 2 ^ j := by
        show 1 <<< j = 2 ^ j
        rw [Nat.shiftLeft_eq, Nat.one_mul]
      rw [e] at h1
      exact h1
    · exact lexN_mem h.2 p hp
section
variable {P : Program} {ops : Array Oper} {Q : Exit → Act → World → Prop}
theorem all_up {d : Nat} {l : Array Bool} (hl : Same ops.size d l) (hx : lexN (needTab ops) = true) (hr : Region.ready .any ops l = []) : ∀ j, j < ops.size → d.testBit j = true := by
  intro j
  induction j using Nat.strongRecOn with
  | ind j ih =>
    intro hj
    have ho : ops[j]? = some ops[j] := Array.getElem?_eq_getElem hj
    cases hd : d.testBit j with
    | true => rfl
    | false =>
      have hs : subN (needOf ops[j]) d = true := subN_iff.2 fun i hi => by
        have hlt := lexN_mem hx _ (tab_mem ho)
        have hij : i < j := by
          have := Nat.ge_two_pow_of_testBit hi
          have h2 : 2 ^ i < 2 ^ j := Nat.lt_of_le_of_lt this hlt
          exact (Nat.pow_lt_pow_iff_right (by omega)).1 h2
        exact ih i hij (by omega)
      have := (ready_iff hl ho).2 ⟨hd, hs⟩
      rw [hr] at this
      cases this
/-- What is known when the operations of the mask d have come up. -/
def Known (S : Act → World → Prop) (F : Nat → Act → World → Prop) (d : Nat) (a : Act) (w : World) : Prop := S a w ∧ ∀ i, d.testBit i = true → F i a w
end
end Go.Proofs.YtfnmekmgjcjglaaDoor
/-
  A region that draws its order, by facts: each operation is looked at once, at whatever world; what it makes belongs to it; a store writes into what one other operation made.
-/
namespace Go.Proofs.YtfnmekmgjcjglaaDoor
set_option linter.unusedVariables false
set_option linter.unusedSimpArgs false
open Go Go.RowKit
section
variable {P : Program} {ops : Array Oper} {Q : Exit → Act → World → Prop}
theorem wpAny_inv {Inv : Nat → Act → World → Prop} (hx : lexN (needTab ops) = true)
    (hstep : ∀ d k o a w, ops[k]? = some o → d.testBit k = false → (∀ i, (needOf o).testBit i = true → d.testBit i = true) → Inv d a w → wpOp P ops Q k (fun a' w' => Inv (Nat.lor d (Nat.shiftLeft 1 k)) a' w') a w)
    (hend : ∀ d a w, (∀ i, i < ops.size → d.testBit i = true) → Inv d a w → Q .normal a w) :
    ∀ (n d : Nat) (l : Array Bool) (a : Act) (w : World), Same ops.size d l → (l.toList.filter (fun b => !b)).length = n → Inv d a w → wpAny P .any ops Q n l a w
  | 0, d, l, a, w, hl, hn, hK => by
    have hall : ∀ b ∈ l.toList, b = true := by
      intro b hb
      cases b with
      | true => rfl
      | false =>
        have : false ∈ l.toList.filter (fun b => !b) := List.mem_filter.2 ⟨hb, rfl⟩
        rw [List.length_eq_zero_iff.1 hn] at this
        cases this
    have hup : ∀ j, j < ops.size → d.testBit j = true := fun j hj => by
      rw [← hl.in hj]
      have hj' : j < l.size := by rw [hl.size]; exact hj
      simp only [Array.getD, hj', dite_true]
      exact hall _ (Array.getElem_mem_toList hj')
    refine ⟨?_, hend d a w hup hK⟩
    rw [List.eq_nil_iff_forall_not_mem]
    intro i hi
    have hi' : i < ops.size := by
      unfold Region.ready at hi
      exact List.mem_range.1 (List.mem_filter.1 hi).1
    have h1 := ((ready_iff hl (Array.getElem?_eq_getElem hi')).1 hi).1
    rw [hup i hi'] at h1
    cases h1
  | n + 1, d, l, a, w, hl, hn, hK => by
    refine ⟨fun hr => hend d a w (all_up hl hx hr) hK, fun k hk => ?_⟩
    have hk' : k < ops.size := by
      unfold Region.ready at hk
      exact List.mem_range.1 (List.mem_filter.1 hk).1
    have ho : ops[k]? = some ops[k] := Array.getElem?_eq_getElem hk'
    obtain ⟨h1, h2⟩ := (ready_iff hl ho).1 hk
    refine wpOp_mono (fun a' w' h' => ?_) (hstep d k _ a w ho h1 (subN_iff.1 h2) hK)
    refine wpAny_inv hx hstep hend n _ _ a' w' (hl.set hk') ?_ h'
    have hkl : k < l.size := by rw [hl.size]; exact hk'
    have hlk : l[k] = false := by
      have := hl.in hk'
      rw [h1] at this
      simpa [Array.getD, hkl] using this
    have e : (l.setIfInBounds k true).toList = l.toList.set k true := by simp
    rw [e]
    have hs : l.toList = l.toList.take k ++ false :: l.toList.drop (k + 1) := by
      have hk2 : k < l.toList.length := by simpa using hkl
      have e2 : l.toList[k] = false := by simpa using hlk
      have e3 := List.drop_eq_getElem_cons hk2
      rw [e2] at e3
      rw [← e3, List.take_append_drop]
    have hs2 : l.toList.set k true = l.toList.take k ++ true :: l.toList.drop (k + 1) := by
      rw [List.set_eq_take_append_cons_drop]
      simp [hkl]
    rw [hs2]
    rw [hs] at hn
    simp only [List.filter_append, List.length_append, List.filter_cons] at hn ⊢
    simp at hn ⊢
    omega
end
/-- What one operation does to the blocks: its own new ones, and those of one other operation, if it stores. -/
structure Stp (tgt : Nat → Option Nat) (B k : Nat) (o : Nat → Nat) (w : World) (o' : Nat → Nat) (w' : World) : Prop where
  os : w'.os = w.os
  tape : w'.tape = w.tape
  output : w'.output = w.output
  size : w.heap.size ≤ w'.heap.size
  own : ∀ b, b < w.heap.size → o' b = o b
  new : ∀ b, w.heap.size ≤ b → b < w'.heap.size → o' b = k
  same : ∀ b, b < w.heap.size → (b < B ∨ tgt k ≠ some (o b)) → w'.heap[b]? = w.heap[b]?
  kind : ∀ (b : Nat) (cs : Array Value) t fr, w.heap[b]? = some (.cells cs t fr) → ∃ cs' : Array Value, w'.heap[b]? = some (.cells cs' t fr) ∧ cs'.size = cs.size
theorem Stp.below {tgt : Nat → Option Nat} {B k : Nat} {o o' : Nat → Nat} {w0 w w' : World} (h : Stp tgt B k o w o' w') (hb : Below B w0 w) (hB : B ≤ w0.heap.size) : Below B w0 w' :=
  hb.trans ⟨h.os, h.tape, h.output, h.size, fun b hlt => h.same b (by have := hb.size; omega) (.inl hlt)⟩
theorem Stp.of_below {tgt : Nat → Option Nat} {B k : Nat} {o : Nat → Nat} {w w' : World} (h : Below w.heap.size w w') : Stp tgt B k o w (fun b => if b < w.heap.size then o b else k) w' :=
  ⟨h.os, h.tape, h.output, h.size, fun b hb => if_pos hb, fun b hb _ => if_neg (by omega), fun b hb _ => h.block b hb, fun b cs t fr hc => ⟨cs, (h.block b (Array.getElem?_eq_some_iff.1 hc).1).trans hc, rfl⟩⟩
theorem Stp.refl {tgt : Nat → Option Nat} {B k : Nat} {o : Nat → Nat} {w : World} : Stp tgt B k o w o w :=
  ⟨rfl, rfl, rfl, Nat.le_refl _, fun _ _ => rfl, fun b h1 h2 => by omega, fun _ _ _ => rfl, fun b cs t fr hc => ⟨cs, hc, rfl⟩⟩
/-- What is known of an operation once it has come up. -/
inductive Fa where
  | eq (v : Value)
  | row (t : TypeId) (n : Nat) (cs : Array Value)
  | box (t : TypeId) (n : Nat)
  | put (j : Nat) (t : TypeId) (cs : Array Value)
  | dep (p : Value → World → Prop)
def Fa.holds (B i : Nat) (o : Nat → Nat) (v : Value) (w : World) : Fa → Prop
  | .eq c => v = c
  | .row t n cs => ∃ g, v = .slice (some ⟨g, 0, none⟩) n n ∧ B ≤ g ∧ o g = i ∧ w.heap[g]? = some (.cells cs t (0, 0))
  | .box t n => ∃ g, v = .pointer (some ⟨g, 0, none⟩) ∧ B ≤ g ∧ o g = i ∧ (∀ g', B ≤ g' → g' < w.heap.size → o g' = i → g' = g) ∧ ∃ cs : Array Value, w.heap[g]? = some (.cells cs t (0, 0)) ∧ cs.size = n
  | .put j t cs => ∃ g, B ≤ g ∧ o g = j ∧ w.heap[g]? = some (.cells cs t (0, 0))
  | .dep p => p v w
def Fa.fit (tgt : Nat → Option Nat) (i : Nat) : Fa → Prop
  | .eq _ => True
  | .row _ _ _ => ∀ k, tgt k ≠ some i
  | .box _ _ => True
  | .put j _ _ => ∀ k, k ≠ i → tgt k ≠ some j
  | .dep p => (∀ k, tgt k = none) ∧ ∀ v w w', Below w.heap.size w w' → p v w → p v w'
theorem Fa.keep {tgt : Nat → Option Nat} {B k i : Nat} {o o' : Nat → Nat} {w w' : World} {v : Value} {f : Fa} (hs : Stp tgt B k o w o' w') (hne : k ≠ i) (hf : f.fit tgt i) (h : f.holds B i o v w) : f.holds B i o' v w' := by
  have lt : ∀ {g : Nat} {x : Obj}, w.heap[g]? = some x → g < w.heap.size := fun h => (Array.getElem?_eq_some_iff.1 h).1
  cases f with
  | eq c => exact h
  | row t n cs =>
    obtain ⟨g, rfl, hB, ho, hg⟩ := h
    exact ⟨g, rfl, hB, (hs.own g (lt hg)).trans ho, (hs.same g (lt hg) (.inr (by rw [ho]; exact hf k))).trans hg⟩
  | box t n =>
    obtain ⟨g, rfl, hB, ho, hu, cs, hg, hc⟩ := h
    obtain ⟨cs', hg', hc'⟩ := hs.kind g cs t _ hg
    refine ⟨g, rfl, hB, (hs.own g (lt hg)).trans ho, fun g' h1 h2 h3 => ?_, cs', hg', hc'.trans hc⟩
    by_cases hlt : g' < w.heap.size
    · exact hu g' h1 hlt ((hs.own g' hlt).symm.trans h3)
    · exact absurd ((hs.new g' (by omega) h2).symm.trans h3) hne
  | put j t cs =>
    obtain ⟨g, hB, ho, hg⟩ := h
    exact ⟨g, hB, (hs.own g (lt hg)).trans ho, (hs.same g (lt hg) (.inr (by rw [ho]; exact hf k hne))).trans hg⟩
  | dep p =>
    exact hf.2 v w w' ⟨hs.os, hs.tape, hs.output, hs.size, fun b hb => hs.same b hb (.inr (by rw [hf.1]; intro h; cases h))⟩ h
def dstAt (ops : Array Oper) (i : Nat) : Option Tmp := (ops[i]?).bind (·.dst)
def valAt (ops : Array Oper) (a : Act) (i : Nat) : Value := match dstAt ops i with | some s => a.tmps.getD s undef | none => undef
def vOf (op : Oper) (v : Value) : Value := match op.dst with | some _ => v | none => undef
/-- The slots that the region writes: none twice. -/
def dstsOK (n : Nat) : List Oper → List Nat → Bool
  | [], _ => true
  | op :: r, seen => match op.dst with
    | some s => Nat.blt s n && (!seen.any (fun x => Nat.beq x s) && dstsOK n r (s :: seen))
    | none => dstsOK n r seen
def writes (ops : Array Oper) (s : Nat) : Bool := ops.toList.any (fun op => match op.dst with | some x => Nat.beq x s | none => false)
theorem dsts_ne : ∀ (l : List Oper) (seen : List Nat) (n : Nat), dstsOK n l seen = true → (∀ (i s : Nat), (l[i]?).bind (fun (x : Oper) => x.dst) = some s → s < n ∧ s ∉ seen) ∧ (∀ (i j s : Nat), (l[i]?).bind (fun (x : Oper) => x.dst) = some s → (l[j]?).bind (fun (x : Oper) => x.dst) = some s → i = j)
  | [], seen, n, _ => ⟨fun i s h => by simp at h, fun i j s h => by simp at h⟩
  | op :: r, seen, n, h => by
    cases hd : op.dst with
    | none =>
      simp only [dstsOK, hd] at h
      obtain ⟨h1, h2⟩ := dsts_ne r seen n h
      refine ⟨fun i s hi => ?_, fun i j s hi hj => ?_⟩
      · cases i with
        | zero => simp [hd] at hi
        | succ i => exact h1 i s (by simpa using hi)
      · cases i with
        | zero => simp [hd] at hi
        | succ i =>
          cases j with
          | zero => simp [hd] at hj
          | succ j => rw [h2 i j s (by simpa using hi) (by simpa using hj)]
    | some t =>
      simp only [dstsOK, hd, Bool.and_eq_true, Bool.not_eq_true', Nat.blt_eq] at h
      obtain ⟨ht, hseen, h⟩ := h
      obtain ⟨h1, h2⟩ := dsts_ne r (t :: seen) n h
      have hns : t ∉ seen := fun hm => by
        have : seen.any (fun x => Nat.beq x t) = true := List.any_eq_true.2 ⟨t, hm, by simp⟩
        rw [this] at hseen; cases hseen
      refine ⟨fun i s hi => ?_, fun i j s hi hj => ?_⟩
      · cases i with
        | zero =>
          have : t = s := by simpa [hd] using hi
          subst this
          exact ⟨ht, hns⟩
        | succ i =>
          obtain ⟨a, b⟩ := h1 i s (by simpa using hi)
          exact ⟨a, fun hm => b (List.mem_cons_of_mem _ hm)⟩
      · cases i with
        | zero =>
          cases j with
          | zero => rfl
          | succ j =>
            have : t = s := by simpa [hd] using hi
            subst this
            exact absurd (List.mem_cons_self ..) (h1 j t (by simpa using hj)).2
        | succ i =>
          cases j with
          | zero =>
            have : t = s := by simpa [hd] using hj
            subst this
            exact absurd (List.mem_cons_self ..) (h1 i t (by simpa using hi)).2
          | succ j => rw [h2 i j s (by simpa using hi) (by simpa using hj)]
/-- The act when some have come up: what the region does not write is as it was. -/
structure BaseA (ops : Array Oper) (a0 a : Act) : Prop where
  defers : a.defers = a0.defers
  size : a.tmps.size = a0.tmps.size
  rest : ∀ s, (∀ i, dstAt ops i ≠ some s) → a.tmps[s]? = a0.tmps[s]?
section
variable {P : Program} {ops : Array Oper} {Q : Exit → Act → World → Prop}
def StepOK (P : Program) (ops : Array Oper) (Q : Exit → Act → World → Prop) (tgt : Nat → Option Nat) (F : Nat → Fa) (a0 : Act) (w0 : World) (k : Nat) (op : Oper) : Prop :=
  ∀ (o : Nat → Nat) (a : Act) (w : World), BaseA ops a0 a → Below w0.heap.size w0 w → (∀ g, w0.heap.size ≤ g → g < w.heap.size → o g ≠ k) → (∀ i, (needOf op).testBit i = true → (F i).holds w0.heap.size i o (valAt ops a i) w) →
    (Region.wanted op (yielded ops a.tmps) = true ∧ ∀ K : Act → World → Prop, (∀ v w' o', Stp tgt w0.heap.size k o w o' w' → (F k).holds w0.heap.size k o' (vOf op v) w' → K (a.put op.dst v) w') → Oper.wp P op a w K Q) ∨
    (Region.wanted op (yielded ops a.tmps) = false ∧ F k = .eq undef)
def StepsOK (P : Program) (ops : Array Oper) (Q : Exit → Act → World → Prop) (tgt : Nat → Option Nat) (F : Nat → Fa) (a0 : Act) (w0 : World) : List Oper → Nat → Prop
  | [], _ => True
  | op :: r, k => StepOK P ops Q tgt F a0 w0 k op ∧ StepsOK P ops Q tgt F a0 w0 r (k + 1)
theorem steps_at {tgt : Nat → Option Nat} {F : Nat → Fa} {a0 : Act} {w0 : World} : ∀ {l : List Oper} {j : Nat}, StepsOK P ops Q tgt F a0 w0 l j → ∀ i op, l[i]? = some op → StepOK P ops Q tgt F a0 w0 (j + i) op
  | [], j, _, i, op, h => by simp at h
  | x :: r, j, hs, i, op, h => by
    cases i with
    | zero => obtain rfl : x = op := by simpa using h
              exact hs.1
    | succ i =>
      have := steps_at hs.2 i op (by simpa using h)
      rwa [show j + 1 + i = j + (i + 1) by omega] at this
theorem put_base {a0 a : Act} (hb : BaseA ops a0 a) {k : Nat} {op : Oper} (ho : ops[k]? = some op) (v : Value) : BaseA ops a0 (a.put op.dst v) := by
  unfold Act.put
  cases hd : op.dst with
  | none => exact hb
  | some s =>
    refine ⟨hb.defers, by simp [hb.size], fun t ht => ?_⟩
    have hne : s ≠ t := fun e => ht k (by unfold dstAt; rw [ho]; simp [hd, e])
    rw [← hb.rest t ht]
    simp [Array.getElem?_setIfInBounds, hne]
theorem put_val {a : Act} {k : Nat} {op : Oper} (ho : ops[k]? = some op) {n : Nat} (hd : dstsOK n ops.toList [] = true) (hn : a.tmps.size = n) (v : Value) : valAt ops (a.put op.dst v) k = vOf op v := by
  unfold valAt vOf Act.put
  have e : dstAt ops k = op.dst := by unfold dstAt; rw [ho]; rfl
  rw [e]
  cases h : op.dst with
  | none => rfl
  | some s =>
    have hs := ((dsts_ne ops.toList [] n hd).1 k s (by rw [Array.getElem?_toList, ho]; exact h)).1
    simp [Array.getD_eq_getD_getElem?, Array.getElem?_setIfInBounds, hn, hs]
theorem put_other {a : Act} {k i : Nat} {op : Oper} (ho : ops[k]? = some op) {n : Nat} (hd : dstsOK n ops.toList [] = true) (hne : k ≠ i) (v : Value) : valAt ops (a.put op.dst v) i = valAt ops a i := by
  unfold valAt Act.put
  cases h : op.dst with
  | none => rfl
  | some s =>
    cases hi : dstAt ops i with
    | none => rfl
    | some t =>
      have hst : s ≠ t := fun e => hne ((dsts_ne ops.toList [] n hd).2 k i s (by rw [Array.getElem?_toList, ho]; exact h) (by rw [Array.getElem?_toList, e]; exact hi))
      simp [Array.getD_eq_getD_getElem?, Array.getElem?_setIfInBounds, hst]
/-- What is known when the operations of the mask d have come up. -/
def InvF (ops : Array Oper) (F : Nat → Fa) (a0 : Act) (w0 : World) (d : Nat) (a : Act) (w : World) : Prop :=
  ∃ o : Nat → Nat, BaseA ops a0 a ∧ Below w0.heap.size w0 w ∧ (∀ g, w0.heap.size ≤ g → g < w.heap.size → d.testBit (o g) = true) ∧ ∀ i, i < ops.size → d.testBit i = true → (F i).holds w0.heap.size i o (valAt ops a i) w
theorem inv_step {tgt : Nat → Option Nat} {F : Nat → Fa} {a0 a : Act} {w0 w : World} {d k n : Nat} {op : Oper} (hx : lexN (needTab ops) = true) (hd : dstsOK n ops.toList [] = true) (hn : a0.tmps.size = n) (hF : ∀ i, i < ops.size → (F i).fit tgt i)
    (ho : ops[k]? = some op) (hk : d.testBit k = false) (hneed : ∀ i, (needOf op).testBit i = true → d.testBit i = true) (hs : StepOK P ops Q tgt F a0 w0 k op) (hi : InvF ops F a0 w0 d a w) :
    (Region.wanted op (yielded ops a.tmps) = true ∧ ∀ K : Act → World → Prop, (∀ a' w', InvF ops F a0 w0 (Nat.lor d (Nat.shiftLeft 1 k)) a' w' → K a' w') → Oper.wp P op a w K Q) ∨
    (Region.wanted op (yielded ops a.tmps) = false ∧ InvF ops F a0 w0 (Nat.lor d (Nat.shiftLeft 1 k)) (a.put op.dst undef) w) := by
  obtain ⟨o, hb, hB, hfr, hall⟩ := hi
  have hlt : k < ops.size := (Array.getElem?_eq_some_iff.1 ho).1
  have hin : ∀ i, (needOf op).testBit i = true → i < ops.size := fun i hi => by
    have h1 := lexN_mem hx _ (tab_mem ho)
    have h2 := Nat.ge_two_pow_of_testBit hi
    have h3 : 2 ^ i < 2 ^ k := Nat.lt_of_le_of_lt h2 h1
    have h4 : i < k := (Nat.pow_lt_pow_iff_right (by omega)).1 h3
    omega
  have hsz : a.tmps.size = n := hb.size.trans hn
  have next : ∀ v w2 o2, Stp tgt w0.heap.size k o w o2 w2 → (F k).holds w0.heap.size k o2 (vOf op v) w2 → InvF ops F a0 w0 (Nat.lor d (Nat.shiftLeft 1 k)) (a.put op.dst v) w2 := by
    intro v w2 o2 hst hf
    refine ⟨o2, put_base hb ho v, hst.below hB (Nat.le_refl _), fun g h1 h2 => ?_, fun i hi hbit => ?_⟩
    · rw [or_bit]
      by_cases hlt2 : g < w.heap.size
      · rw [hst.own g hlt2, hfr g h1 hlt2]; rfl
      · rw [hst.new g (by omega) h2]; simp
    · by_cases e : k = i
      · subst e
        rw [put_val ho hd hsz]
        exact hf
      · rw [put_other ho hd e]
        rw [or_bit] at hbit
        exact Fa.keep hst e (hF i hi) (hall i hi (by simpa [e] using hbit))
  rcases hs o a w hb hB (fun g h1 h2 e => by have := hfr g h1 h2; rw [e, hk] at this; cases this) (fun i hi => hall i (hin i hi) (hneed i hi)) with ⟨hw, hwp⟩ | ⟨hw, hf⟩
  · exact .inl ⟨hw, fun K hK => hwp K (fun v w2 o2 hst hf => hK _ _ (next v w2 o2 hst hf))⟩
  · refine .inr ⟨hw, next undef w o Stp.refl ?_⟩
    rw [hf]
    unfold Fa.holds vOf
    cases op.dst <;> rfl
theorem wp_region_flow {id : Nat} {a0 : Act} {w : World} (tgt : Nat → Option Nat) (F : Nat → Fa) (tab : List (Nat × Nat)) (hm : P.follows .mixedOrders = true)
    (ht : needTab ops = tab) (hx : lexN tab = true) (hd : dstsOK a0.tmps.size ops.toList [] = true) (hF : ∀ i, i < ops.size → (F i).fit tgt i)
    (hstep : StepsOK P ops Q tgt F a0 w.drew ops.toList 0)
    (hend : ∀ o a w', BaseA ops a0 a → Below w.heap.size w w' → (∀ i, i < ops.size → (F i).holds w.heap.size i o (valAt ops a i) w') → Q .normal a w') : (Code.region id ops true).wp P Q a0 w := by
  subst ht
  refine wp_region_any hm (wpAny_inv (Inv := InvF ops F a0 w.drew) hx ?_ ?_ ops.size 0 _ a0 _ (Same.zero _) (by simp) ?_)
  · intro d k op a w' ho hk hneed hi
    have hs := steps_at hstep k op (by rw [Array.getElem?_toList]; exact ho)
    rw [Nat.zero_add] at hs
    refine wpOp_step ho (fun K hK => ?_)
    rcases inv_step hx hd rfl hF ho hk hneed hs hi with ⟨hw, hwp⟩ | ⟨hw, hni⟩
    · rw [if_pos hw]; exact hwp K (fun a' w' h => hK _ _ h)
    · rw [if_neg (by rw [hw]; decide)]; exact hK _ _ hni
  · rintro d a w' hall ⟨o, hb, hB, _, hf⟩
    exact hend o a w' hb ⟨hB.os, hB.tape, hB.output, hB.size, hB.block⟩ (fun i hi => hf i hi (hall i hi))
  · exact ⟨fun _ => 0, ⟨rfl, rfl, fun _ _ => rfl⟩, Below.refl _ _, fun g h1 h2 => absurd h2 (Nat.not_lt.2 h1), fun i hi hbit => by simp at hbit⟩
/-- The same for a region that is carried out as its text stands. -/
theorem wpList_flow {tgt : Nat → Option Nat} {F : Nat → Fa} {a0 : Act} {w0 : World} {n : Nat} (hx : lexN (needTab ops) = true) (hd : dstsOK n ops.toList [] = true) (hn : a0.tmps.size = n) (hF : ∀ i, i < ops.size → (F i).fit tgt i)
    (hend : ∀ d a w', (∀ i, i < ops.size → d.testBit i = true) → InvF ops F a0 w0 d a w' → Q .normal a w') :
    ∀ (l : List Oper) (k d : Nat) (a : Act) (w : World), ops.toList.drop k = l → (∀ i, d.testBit i = decide (i < k)) → StepsOK P ops Q tgt F a0 w0 l k → InvF ops F a0 w0 d a w → wpList P ops Q l a w
  | [], k, d, a, w, hl, hdk, _, hi => by
    refine hend d a w (fun i hi => ?_) hi
    rw [hdk]
    have : ops.toList.length ≤ k := List.drop_eq_nil_iff.1 hl
    rw [Array.length_toList] at this
    exact decide_eq_true (by omega)
  | op :: r, k, d, a, w, hl, hdk, hs, hi => by
    have ho : ops[k]? = some op := by
      have h1 : (ops.toList.drop k)[0]? = some op := by rw [hl]; rfl
      rw [List.getElem?_drop] at h1
      simpa using h1
    have hr : ops.toList.drop (k + 1) = r := by
      rw [← List.drop_drop, hl]; rfl
    have hneed : ∀ i, (needOf op).testBit i = true → d.testBit i = true := fun i hi => by
      have h1 := lexN_mem hx _ (tab_mem ho)
      have h2 := Nat.ge_two_pow_of_testBit hi
      have h3 : 2 ^ i < 2 ^ k := Nat.lt_of_le_of_lt h2 h1
      have h4 : i < k := (Nat.pow_lt_pow_iff_right (by omega)).1 h3
      rw [hdk]; exact decide_eq_true h4
    have hd' : ∀ i, (Nat.lor d (Nat.shiftLeft 1 k)).testBit i = decide (i < k + 1) := fun i => by
      rw [or_bit, hdk, ← Bool.decide_or]
      exact decide_eq_decide.2 (by omega)
    refine wpList_step (fun K hK => ?_)
    rcases inv_step hx hd hn hF ho (by rw [hdk]; exact decide_eq_false (by omega)) hneed hs.1 hi with ⟨hw, hwp⟩ | ⟨hw, hni⟩
    · rw [if_pos hw]
      exact hwp K (fun a' w' h => hK _ _ (wpList_flow hx hd hn hF hend r (k + 1) _ a' w' hr hd' hs.2 h))
    · rw [if_neg (by rw [hw]; decide)]
      exact hK _ _ (wpList_flow hx hd hn hF hend r (k + 1) _ _ w hr hd' hs.2 hni)
/-- The act's slots when all have come up. -/
def fill : List Oper → (Nat → Value) → Nat → Array Value → Array Value
  | [], _, _, t => t
  | op :: r, vs, k, t => fill r vs (k + 1) (match op.dst with | some s => t.setIfInBounds s (vs k) | none => t)
theorem fill_none {s : Nat} : ∀ (l : List Oper) (vs : Nat → Value) (k : Nat) (t : Array Value), (∀ (i : Nat), (l[i]?).bind (fun (x : Oper) => x.dst) ≠ some s) → (fill l vs k t)[s]? = t[s]?
  | [], _, _, _, _ => rfl
  | op :: r, vs, k, t, h => by
    rw [fill, fill_none r vs (k + 1) _ (fun i => by simpa using h (i + 1))]
    have h0 := h 0
    cases hd : op.dst with
    | none => rfl
    | some x =>
      have hne : x ≠ s := fun e => h0 (by simp [hd, e])
      simp [Array.getElem?_setIfInBounds, hne]
theorem fill_some {s : Nat} : ∀ (l : List Oper) (vs : Nat → Value) (k : Nat) (t : Array Value) (i : Nat), (l[i]?).bind (fun (x : Oper) => x.dst) = some s → (∀ (j : Nat), (l[j]?).bind (fun (x : Oper) => x.dst) = some s → j = i) → s < t.size → (fill l vs k t)[s]? = some (vs (k + i))
  | [], _, _, _, i, h, _, _ => by simp at h
  | op :: r, vs, k, t, 0, h, hu, hs => by
    have hd : op.dst = some s := by simpa using h
    rw [fill, fill_none r vs (k + 1) _ (fun i hi => by have := hu (i + 1) (by simpa using hi); omega), hd]
    simp [Array.getElem?_setIfInBounds, hs]
  | op :: r, vs, k, t, i + 1, h, hu, hs => by
    rw [fill, fill_some r vs (k + 1) _ i (by simpa using h) (fun j hj => by have := hu (j + 1) (by simpa using hj); omega) (by cases op.dst <;> simp [hs])]
    congr 2; omega
theorem act_fill {a0 a : Act} (hb : BaseA ops a0 a) {n : Nat} (hn : a0.tmps.size = n) (hd : dstsOK n ops.toList [] = true) : a = ⟨fill ops.toList (valAt ops a) 0 a0.tmps, a0.defers⟩ := by
  obtain ⟨t, df⟩ := a
  have h1 := hb.defers
  have h2 := hb.size
  dsimp only at h1 h2
  subst h1
  congr 1
  refine Array.ext_getElem? fun s => ?_
  by_cases h : ∃ i, dstAt ops i = some s
  · obtain ⟨i, hi⟩ := h
    have hi' : (ops.toList[i]?).bind (fun (x : Oper) => x.dst) = some s := by rw [Array.getElem?_toList]; exact hi
    have hs := ((dsts_ne ops.toList [] n hd).1 i s hi').1
    rw [fill_some ops.toList _ 0 _ i hi' (fun j hj => (dsts_ne ops.toList [] n hd).2 j i s hj hi') (by omega), Nat.zero_add]
    unfold valAt
    rw [hi]
    have hst : s < t.size := by omega
    simp [Array.getD_eq_getD_getElem?, hst]
  · rw [fill_none ops.toList _ 0 _ (fun i hi => h ⟨i, by rw [Array.getElem?_toList] at hi; exact hi⟩)]
    exact hb.rest s (fun i hi => h ⟨i, hi⟩)
def FitsOK (tgt : Nat → Option Nat) : List Fa → Nat → Prop
  | [], _ => True
  | f :: r, k => f.fit tgt k ∧ FitsOK tgt r (k + 1)
theorem fits_at {tgt : Nat → Option Nat} {z : Fa} : ∀ {l : List Fa} {k : Nat}, FitsOK tgt l k → ∀ i, i < l.length → (l.getD i z).fit tgt (k + i)
  | f :: r, k, h, 0, _ => h.1
  | f :: r, k, h, i + 1, hi => by
    have := fits_at (z := z) h.2 i (by simpa using hi)
    rw [show k + 1 + i = k + (i + 1) by omega] at this
    simpa using this
def Fa.plain : Fa → Bool
  | .eq _ => true
  | .row _ _ _ => true
  | .box _ _ => true
  | _ => false
theorem fits_plain : ∀ (l : List Fa) (k : Nat), l.all Fa.plain = true → FitsOK (fun _ => none) l k
  | [], _, _ => trivial
  | f :: r, k, h => by
    simp only [List.all_cons, Bool.and_eq_true] at h
    refine ⟨?_, fits_plain r _ h.2⟩
    cases f with
    | eq c => trivial
    | row t n cs => exact fun _ e => by cases e
    | box t n => trivial
    | put j t cs => cases h.1
    | dep p => cases h.1
/-- The law as it is used: the facts as a list; behind the region the act is written out. -/
theorem wp_flow {id : Nat} {a0 : Act} {w : World} (tgt : Nat → Option Nat) (Fl : List Fa) (n : Nat) (hm : P.follows .mixedOrders = true) (hlen : Fl.length = ops.size)
    (hx : lexN (needTab ops) = true) (hn : a0.tmps.size = n) (hd : dstsOK n ops.toList [] = true) (hF : FitsOK tgt Fl 0)
    (hstep : StepsOK P ops Q tgt (fun k => Fl.getD k (.eq undef)) a0 w.drew ops.toList 0)
    (hend : ∀ (o : Nat → Nat) (vs : Nat → Value) w', Below w.heap.size w w' → (∀ i, i < ops.size → (Fl.getD i (.eq undef)).holds w.heap.size i o (vs i) w') → Q .normal ⟨fill ops.toList vs 0 a0.tmps, a0.defers⟩ w') : (Code.region id ops true).wp P Q a0 w :=
  wp_region_flow tgt (fun k => Fl.getD k (.eq undef)) _ hm rfl hx (hn ▸ hd) (fun i hi => by have := fits_at (z := .eq undef) hF i (by rw [hlen]; exact hi); rwa [Nat.zero_add] at this) hstep
    (fun o a w' hb hB hf => act_fill hb hn hd ▸ hend o (valAt ops a) w' hB hf)
theorem wp_text {id : Nat} {a0 : Act} {w : World} (tgt : Nat → Option Nat) (Fl : List Fa) (n : Nat) (hlen : Fl.length = ops.size)
    (hx : lexN (needTab ops) = true) (hn : a0.tmps.size = n) (hd : dstsOK n ops.toList [] = true) (hF : FitsOK tgt Fl 0)
    (hstep : StepsOK P ops Q tgt (fun k => Fl.getD k (.eq undef)) a0 w ops.toList 0)
    (hend : ∀ (o : Nat → Nat) (vs : Nat → Value) w', Below w.heap.size w w' → (∀ i, i < ops.size → (Fl.getD i (.eq undef)).holds w.heap.size i o (vs i) w') → Q .normal ⟨fill ops.toList vs 0 a0.tmps, a0.defers⟩ w') : (Code.region id ops false).wp P Q a0 w :=
  wp_region_list (wpList_flow hx hd hn (fun i hi => by have := fits_at (z := .eq undef) hF i (by rw [hlen]; exact hi); rwa [Nat.zero_add] at this)
    (fun d a w' hall ⟨o, hb, hB, _, hf⟩ => act_fill hb hn hd ▸ hend o (valAt ops a) w' hB (fun i hi => hf i hi (hall i hi)))
    ops.toList 0 0 a0 w rfl (fun i => by simp) hstep
    ⟨fun _ => 0, ⟨rfl, rfl, fun _ _ => rfl⟩, Below.refl _ _, fun g h1 h2 => absurd h2 (Nat.not_lt.2 h1), fun i hi hbit => by simp at hbit⟩)
/-! ### one operation -/
variable {tgt : Nat → Option Nat} {F : Nat → Fa} {a0 : Act} {w0 : World} {k : Nat} {op : Oper}
/-- Is the guard's answer known? -/
def guardOK (ops : Array Oper) (F : Nat → Fa) (op : Oper) : Prop := match op.guard with
  | none => True
  | some (j, b) => F j = .eq (.bool b) ∧ (needOf op).testBit j = true ∧ (dstAt ops j).isSome = true
theorem wanted_of (hg : guardOK ops F op) {o : Nat → Nat} {a : Act} {w : World} {B : Nat} (hn : ∀ i, (needOf op).testBit i = true → (F i).holds B i o (valAt ops a i) w) : Region.wanted op (yielded ops a.tmps) = true := by
  unfold Region.wanted
  unfold guardOK at hg
  cases h : op.guard with
  | none => rfl
  | some p =>
    obtain ⟨j, b⟩ := p
    rw [h] at hg
    obtain ⟨h1, h2, h3⟩ := hg
    have h4 := hn j h2
    rw [h1] at h4
    obtain ⟨s, hs⟩ := Option.isSome_iff_exists.1 h3
    change valAt ops a j = .bool b at h4
    unfold valAt at h4
    rw [hs] at h4
    dsimp only at h4
    unfold yielded
    change (match (dstAt ops j).bind (fun x => a.tmps[x]?) with | some (.bool b) => some b | _ => none) == some b
    rw [hs]
    rw [Array.getD_eq_getD_getElem?] at h4
    cases ht : a.tmps[s]? with
    | none => rw [ht] at h4; cases h4
    | some x => rw [ht] at h4; have h4' : x = .bool b := h4
                subst h4'; simp [ht]
/-- An operation that the guard leaves out. -/
theorem flow_skip (j : Nat) (b : Bool) (c : Value) (hgd : op.guard = some (j, b)) (hF : F k = .eq undef) (hj : (needOf op).testBit j = true) (hFj : F j = .eq c) (hc : c ≠ .bool b) : StepOK P ops Q tgt F a0 w0 k op := by
  intro o a w hb hB hfr hn
  refine .inr ⟨?_, hF⟩
  have h4 := hn j hj
  rw [hFj] at h4
  change valAt ops a j = c at h4
  unfold Region.wanted
  rw [hgd]
  unfold yielded
  unfold valAt at h4
  change ((match (dstAt ops j).bind (fun x => a.tmps[x]?) with | some (.bool b) => some b | _ => none) == some b) = false
  cases hs : dstAt ops j with
  | none => rfl
  | some s =>
    rw [hs] at h4
    dsimp only at h4
    rw [Array.getD_eq_getD_getElem?] at h4
    cases ht : a.tmps[s]? with
    | none => simp [ht]
    | some x =>
      rw [ht] at h4
      have h5 : x = c := h4
      subst h5
      simp only [Option.bind_some, ht]
      cases x <;> first | rfl | skip
      rename_i b'
      have : b' ≠ b := fun e => hc (by rw [e])
      simpa using this
theorem flow_val (c : Value) (hF : F k = .eq c) (hd : op.dst.isSome = true) (hg : guardOK ops F op)
    (h : ∀ o a w, BaseA ops a0 a → Below w0.heap.size w0 w → (∀ i, (needOf op).testBit i = true → (F i).holds w0.heap.size i o (valAt ops a i) w) → (execOp a.eval op).run P w = .ok (.value c) w) : StepOK P ops Q tgt F a0 w0 k op := by
  intro o a w hb hB hfr hn
  refine .inl ⟨wanted_of hg hn, fun K hK => ?_⟩
  unfold Oper.wp
  rw [h o a w hb hB hn]
  refine hK c w o Stp.refl ?_
  rw [hF]
  obtain ⟨s, hs⟩ := Option.isSome_iff_exists.1 hd
  simp [Fa.holds, vOf, hs]
theorem flow_call (c : Value) (hF : F k = .eq c) (hd : op.dst.isSome = true) (hg : guardOK ops F op)
    (h : ∀ o a w, BaseA ops a0 a → Below w0.heap.size w0 w → (∀ i, (needOf op).testBit i = true → (F i).holds w0.heap.size i o (valAt ops a i) w) →
      ∃ f args, (execOp a.eval op).run P w = .ok (.enter f args) w ∧ Calls P f args w (fun e w' => e = .returned c ∧ Below w.heap.size w w')) : StepOK P ops Q tgt F a0 w0 k op := by
  intro o a w hb hB hfr hn
  refine .inl ⟨wanted_of hg hn, fun K hK => ?_⟩
  unfold Oper.wp
  obtain ⟨f, args, hr, hc⟩ := h o a w hb hB hn
  rw [hr, Oper.upon_enter]
  refine hc.mono ?_
  rintro e w' ⟨rfl, hbw⟩
  refine hK c w' _ (Stp.of_below hbw) ?_
  rw [hF]
  obtain ⟨s, hs⟩ := Option.isSome_iff_exists.1 hd
  simp [Fa.holds, vOf, hs]
/-! ### what an operation yields, said of the slots alone -/
theorem run_move (x : Operand) (ho : op.op = .move x ∨ op.op = .assign x) (a : Act) (w : World) : (execOp a.eval op).run P w = .ok (.value (a.eval x)) w := by
  unfold execOp
  rcases ho with ho | ho <;> simp [ho]
theorem run_pick (c x y : Operand) (ho : op.op = .pick c x y) (a : Act) (w : World) {b : Bool} (hc : a.eval c = .bool b) : (execOp a.eval op).run P w = .ok (.value (if b then a.eval x else a.eval y)) w := by
  unfold execOp
  simp [ho, hc, asBool]
end
end Go.Proofs.YtfnmekmgjcjglaaDoor
