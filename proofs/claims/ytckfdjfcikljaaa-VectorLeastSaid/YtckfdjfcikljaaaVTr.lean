/-
  A region that draws its order, walked as a tree: loads and what looks at no world may be taken first; of the rest, whichever may come up has a branch of its own.
-/
import Derived.Test.YtckfdjfcikljaaaVOrd
namespace Go.Proofs.Ytckfdjfcikljaaa
set_option linter.unusedVariables false
set_option linter.unusedSimpArgs false
open Go Go.RowKit

inductive Tr where
  | nil
  | stop
  | take (k d : Nat) (t : Tr)
  | op (k d : Nat) (t more : Tr)

def chainM : Tr → Nat
  | .op k _ _ more => Nat.lor (chainM more) (Nat.shiftLeft 1 k)
  | _ => 0

def onlyT (c d j m : Nat) : Bool := bitN c j || (bitN d j || !subN m d)
def ordT (ops : Array Oper) (tab : List (Nat × Nat)) : Tr → Bool → Nat → Nat → Bool
  | .nil, head, d, n => head && (Nat.beq n 0 && allN (fun j _ => bitN d j) tab)
  | .stop, head, _, _ => !head
  | .take k d' t, head, d, n => head && (Nat.beq d d' && (!Nat.beq n 0 && (!bitN d' k && ((match ops[k]? with
      | some o => takes o && (subN (needOf o) d' && allN (freeN ops o k d') tab)
      | none => false) && ordT ops tab t true (Nat.lor d' (Nat.shiftLeft 1 k)) (n - 1)))))
  | .op k d' t more, head, d, n => Nat.beq d d' && (!Nat.beq n 0 && (!bitN d' k && ((match ops[k]? with
      | some o => subN (needOf o) d'
      | none => false) && ((!head || allN (onlyT (Nat.lor (chainM more) (Nat.shiftLeft 1 k)) d') tab) && (ordT ops tab t true (Nat.lor d' (Nat.shiftLeft 1 k)) (n - 1) && ordT ops tab more false d' n)))))

def wpTree (P : Program) (ops : Array Oper) (Q : Exit → Act → World → Prop) (S : World → Prop) : Tr → Act → World → Prop
  | .nil, a, w => Q .normal a w
  | .stop, _, _ => True
  | .take k _ t, a, w => ∃ o, ops[k]? = some o ∧ ∃ v, YieldsIf P ops S o v a ∧ wpTree P ops Q S t (a.put o.dst v) w
  | .op k _ t more, a, w => wpOp P ops Q k (fun a' w' => S w' ∧ (S w' → wpTree P ops Q S t a' w')) a w ∧ wpTree P ops Q S more a w

section
variable {P : Program} {ops : Array Oper} {Q : Exit → Act → World → Prop} {S : World → Prop}

theorem tree_both (hs : Region.noSelect ops = true) (hQ : ∀ d v c a w, Q (.panic c) (a.put d v) w → Q (.panic c) a w) :
    ∀ (t : Tr) (d n : Nat) (l : Array Bool) (a : Act) (w : World), Same ops.size d l → S w → wpTree P ops Q S t a w →
      (ordT ops (needTab ops) t true d n = true → wpAnyH P .any ops Q S n l a w) ∧
      (ordT ops (needTab ops) t false d n = true → ∀ k, (chainM t).testBit k = true → ∃ n', n = n' + 1 ∧ wpOp P ops Q k (fun a' w' => S w' ∧ wpAnyH P .any ops Q S n' (l.setIfInBounds k true) a' w') a w)
  | .nil, d, n, l, a, w, hl, hS, h => by
    refine ⟨fun hB => ?_, fun hB => ?_⟩
    · simp only [ordT, Bool.true_and, Bool.and_eq_true] at hB
      obtain rfl : n = 0 := Nat.eq_of_beq_eq_true hB.1
      refine ⟨?_, h⟩
      rw [List.eq_nil_iff_forall_not_mem]
      intro i hi
      have hi' : i < ops.size := by
        unfold Region.ready at hi
        exact List.mem_range.1 (List.mem_filter.1 hi).1
      have ho : ops[i]? = some ops[i] := Array.getElem?_eq_getElem hi'
      have h1 := ((ready_iff hl ho).1 hi).1
      have h2 := allN_mem hB.2 _ (tab_mem ho)
      rw [bitN_eq, h1] at h2
      cases h2
    · simp [ordT] at hB
  | .stop, d, n, l, a, w, hl, hS, h => by
    refine ⟨fun hB => ?_, fun hB k hk => ?_⟩
    · simp [ordT] at hB
    · simp [chainM] at hk
  | .take k d' t, d, n, l, a, w, hl, hS, h => by
    refine ⟨fun hB => ?_, fun hB => ?_⟩
    · obtain ⟨o, ho, v, hy, h⟩ := h
      simp only [ordT, ho, Bool.true_and, Bool.and_eq_true, Bool.not_eq_true'] at hB
      obtain ⟨hd, hn, hk, ⟨ht, hneed, hf⟩, hB2⟩ := hB
      obtain rfl : d = d' := Nat.eq_of_beq_eq_true hd
      rw [bitN_eq] at hk
      have hlt : k < ops.size := (Array.getElem?_eq_some_iff.1 ho).1
      have hr : k ∈ Region.ready .any ops l := (ready_iff hl ho).2 ⟨hk, hneed⟩
      match n, hn with
      | 0, hn => simp at hn
      | n + 1, _ => exact wpAnyH_take ho hs (free_of hl ho hf) (by simpa using hr) (fun c a w => hQ _ _ c a w) hy hS ((tree_both hs hQ t _ n _ _ w (hl.set hlt) hS h).1 hB2)
    · simp [ordT] at hB
  | .op k d' t more, d, n, l, a, w, hl, hS, h => by
    have key : ∀ b, ordT ops (needTab ops) (.op k d' t more) b d n = true → ∀ i, (chainM (.op k d' t more)).testBit i = true → ∃ n', n = n' + 1 ∧ wpOp P ops Q i (fun a' w' => S w' ∧ wpAnyH P .any ops Q S n' (l.setIfInBounds i true) a' w') a w := by
      intro b hB i hi
      cases ho : ops[k]? with
      | none => simp [ordT, ho] at hB
      | some o =>
        simp only [ordT, ho, Bool.and_eq_true, Bool.not_eq_true'] at hB
        obtain ⟨hd, hn, hk, hneed, _, hB1, hB2⟩ := hB
        obtain rfl : d = d' := Nat.eq_of_beq_eq_true hd
        have hlt : k < ops.size := (Array.getElem?_eq_some_iff.1 ho).1
        match n, hn with
        | 0, hn => simp at hn
        | n + 1, _ =>
          rw [chainM, or_bit] at hi
          by_cases e : k = i
          · subst e
            exact ⟨n, rfl, wpOp_mono (fun a' w' h' => ⟨h'.1, (tree_both hs hQ t _ n _ a' w' (hl.set hlt) h'.1 (h'.2 h'.1)).1 hB1⟩) h.1⟩
          · have hi' : (chainM more).testBit i = true := by simpa [e] using hi
            exact (tree_both hs hQ more d (n + 1) l a w hl hS h.2).2 hB2 i hi'
    refine ⟨fun hB => ?_, key false⟩
    have hB' := hB
    cases ho : ops[k]? with
    | none => simp [ordT, ho] at hB
    | some o =>
      simp only [ordT, ho, Bool.and_eq_true, Bool.not_eq_true', Bool.not_true, Bool.false_or] at hB
      obtain ⟨hd, hn, hk, hneed, hall, _, _⟩ := hB
      obtain rfl : d = d' := Nat.eq_of_beq_eq_true hd
      rw [bitN_eq] at hk
      have hr : k ∈ Region.ready .any ops l := (ready_iff hl ho).2 ⟨hk, hneed⟩
      match n, hn, key, hB' with
      | 0, hn, _, _ => simp at hn
      | n + 1, _, key, hB' =>
        refine wpAnyH_all (rs := Region.ready .any ops l) rfl (fun e => by rw [e] at hr; cases hr) (fun i hi => ?_)
        have hi' : i < ops.size := by
          unfold Region.ready at hi
          exact List.mem_range.1 (List.mem_filter.1 hi).1
        have hoi : ops[i]? = some ops[i] := Array.getElem?_eq_getElem hi'
        obtain ⟨h1, h2⟩ := (ready_iff hl hoi).1 hi
        have h3 := allN_mem hall _ (tab_mem hoi)
        simp only [onlyT, bitN_eq, h1, h2, Bool.not_true, Bool.or_false] at h3
        obtain ⟨n', e, h4⟩ := key true hB' i (by rw [chainM]; exact h3)
        obtain rfl : n = n' := by omega
        exact h4

theorem wp_region_tree {id : Nat} {a : Act} {w : World} (tab : List (Nat × Nat)) (t : Tr) (hm : P.follows .mixedOrders = true) (hs : Region.noSelect ops = true)
    (ht : needTab ops = tab) (hB : ordT ops tab t true 0 ops.size = true) (hQ : ∀ d v c a w, Q (.panic c) (a.put d v) w → Q (.panic c) a w)
    (hS : S w.drew) (h : S w.drew → wpTree P ops Q S t a w.drew) : (Code.region id ops true).wp P Q a w := by
  subst ht
  refine wp_region_held (S := S) hm ?_
  exact (tree_both hs hQ t 0 ops.size _ a _ (Same.zero _) hS (h hS)).1 hB

theorem tree_take {k d : Nat} {t : Tr} {o : Oper} {a : Act} {w : World} {v : Value} (ho : ops[k]? = some o) (hw : Region.wanted o (yielded ops a.tmps) = true)
    (hy : ∀ w', S w' → (execOp a.eval o).run P w' = .ok (.value v) w') (h : wpTree P ops Q S t (a.put o.dst v) w) : wpTree P ops Q S (.take k d t) a w :=
  ⟨o, ho, v, .inl ⟨hw, hy⟩, h⟩
theorem tree_op {k d : Nat} {t more : Tr} {o : Oper} {a : Act} {w : World} (ho : ops[k]? = some o) (hw : Region.wanted o (yielded ops a.tmps) = true)
    (h : ∀ K : Act → World → Prop, Shut (∀ a' w', S w' → (S w' → wpTree P ops Q S t a' w') → K a' w') → Oper.wp P o a w K Q) (hmore : wpTree P ops Q S more a w) : wpTree P ops Q S (.op k d t more) a w := by
  refine ⟨wpOp_step ho (fun K' hK => ?_), hmore⟩
  rw [if_pos hw]
  exact h K' (fun a' w' hS' hr => hK a' w' ⟨hS', hr⟩)
theorem tree_stop {a : Act} {w : World} : wpTree P ops Q S .stop a w := trivial
end

end Go.Proofs.Ytckfdjfcikljaaa
