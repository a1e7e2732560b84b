/-
  A region that draws its order, by facts of its operations: each operation is walked once, whatever has come up ahead of it; its fact is kept by all others.
-/
import Derived.Test.YtckfdjfcikljaaaVTr
namespace Go.Proofs.Ytckfdjfcikljaaa
set_option linter.unusedVariables false
set_option linter.unusedSimpArgs false
open Go Go.RowKit

/-- Each operation waits for earlier ones alone. -/
def lexN : List (Nat × Nat) → Bool
  | [] => true
  | (j, m) :: r => Nat.blt m (Nat.shiftLeft 1 j) && lexN r
theorem lexN_mem : ∀ {t : List (Nat × Nat)}, lexN t = true → ∀ p ∈ t, p.2 < 2 ^ p.1
  | [], _, p, hp => by cases hp
  | (j, m) :: r, h, p, hp => by
    simp only [lexN, Bool.and_eq_true] at h
    rcases List.mem_cons.1 hp with rfl | hp
    · have h1 := h.1
      rw [Nat.blt_eq] at h1
      have e : Nat.shiftLeft 1 j = 2 ^ j := by
        show 1 <<< j = 2 ^ j
        rw [Nat.shiftLeft_eq, Nat.one_mul]
      rw [e] at h1
      exact h1
    · exact lexN_mem h.2 p hp

section
variable {P : Program} {ops : Array Oper} {Q : Exit → Act → World → Prop}

theorem all_up {d : Nat} {l : Array Bool} (hl : Same ops.size d l) (hx : lexN (needTab ops) = true) (hr : Region.ready .any ops l = []) : ∀ j, j < ops.size → d.testBit j = true := by
  intro j
  induction j using Nat.strongRecOn with
  | ind j ih =>
    intro hj
    have ho : ops[j]? = some ops[j] := Array.getElem?_eq_getElem hj
    cases hd : d.testBit j with
    | true => rfl
    | false =>
      have hs : subN (needOf ops[j]) d = true := subN_iff.2 fun i hi => by
        have hlt := lexN_mem hx _ (tab_mem ho)
        have hij : i < j := by
          have := Nat.ge_two_pow_of_testBit hi
          have h2 : 2 ^ i < 2 ^ j := Nat.lt_of_le_of_lt this hlt
          exact (Nat.pow_lt_pow_iff_right (by omega)).1 h2
        exact ih i hij (by omega)
      have := (ready_iff hl ho).2 ⟨hd, hs⟩
      rw [hr] at this
      cases this

/-- What is known when the operations of the mask d have come up. -/
def Known (S : Act → World → Prop) (F : Nat → Act → World → Prop) (d : Nat) (a : Act) (w : World) : Prop := S a w ∧ ∀ i, d.testBit i = true → F i a w

theorem wpAny_known {S : Act → World → Prop} {F : Nat → Act → World → Prop} (hx : lexN (needTab ops) = true)
    (hstep : ∀ k o a w, ops[k]? = some o → S a w → (∀ i, (needOf o).testBit i = true → F i a w) → wpOp P ops Q k (fun a' w' => S a' w' ∧ F k a' w' ∧ ∀ i, i ≠ k → F i a w → F i a' w') a w)
    (hend : ∀ a w, S a w → (∀ i, i < ops.size → F i a w) → Q .normal a w) :
    ∀ (n d : Nat) (l : Array Bool) (a : Act) (w : World), Same ops.size d l → (l.toList.filter (fun b => !b)).length = n → Known S F d a w → wpAny P .any ops Q n l a w
  | 0, d, l, a, w, hl, hn, hK => by
    have hall : ∀ b ∈ l.toList, b = true := by
      intro b hb
      cases b with
      | true => rfl
      | false =>
        have : false ∈ l.toList.filter (fun b => !b) := List.mem_filter.2 ⟨hb, rfl⟩
        rw [List.length_eq_zero_iff.1 hn] at this
        cases this
    have hup : ∀ j, j < ops.size → d.testBit j = true := fun j hj => by
      rw [← hl.in hj]
      have hj' : j < l.size := by rw [hl.size]; exact hj
      simp only [Array.getD, hj', dite_true]
      exact hall _ (Array.getElem_mem_toList hj')
    refine ⟨?_, hend a w hK.1 fun i hi => hK.2 i (hup i hi)⟩
    rw [List.eq_nil_iff_forall_not_mem]
    intro i hi
    have hi' : i < ops.size := by
      unfold Region.ready at hi
      exact List.mem_range.1 (List.mem_filter.1 hi).1
    have h1 := ((ready_iff hl (Array.getElem?_eq_getElem hi')).1 hi).1
    rw [hup i hi'] at h1
    cases h1
  | n + 1, d, l, a, w, hl, hn, hK => by
    refine ⟨fun hr => hend a w hK.1 fun i hi => hK.2 i (all_up hl hx hr i hi), fun k hk => ?_⟩
    have hk' : k < ops.size := by
      unfold Region.ready at hk
      exact List.mem_range.1 (List.mem_filter.1 hk).1
    have ho : ops[k]? = some ops[k] := Array.getElem?_eq_getElem hk'
    obtain ⟨h1, h2⟩ := (ready_iff hl ho).1 hk
    refine wpOp_mono (fun a' w' h' => ?_) (hstep k _ a w ho hK.1 fun i hi => hK.2 i (subN_iff.1 h2 i hi))
    refine wpAny_known hx hstep hend n _ _ a' w' (hl.set hk') ?_ ⟨h'.1, fun i hi => ?_⟩
    · have hkl : k < l.size := by rw [hl.size]; exact hk'
      have hlk : l[k] = false := by
        have := hl.in hk'
        rw [h1] at this
        simpa [Array.getD, hkl] using this
      have e : (l.setIfInBounds k true).toList = l.toList.set k true := by simp
      rw [e]
      have hs : l.toList = l.toList.take k ++ false :: l.toList.drop (k + 1) := by
        have hk2 : k < l.toList.length := by simpa using hkl
        have e2 : l.toList[k] = false := by simpa using hlk
        have e3 := List.drop_eq_getElem_cons hk2
        rw [e2] at e3
        rw [← e3, List.take_append_drop]
      have hs2 : l.toList.set k true = l.toList.take k ++ true :: l.toList.drop (k + 1) := by
        rw [List.set_eq_take_append_cons_drop]
        simp [hkl]
      rw [hs2]
      rw [hs] at hn
      simp only [List.filter_append, List.length_append, List.filter_cons] at hn ⊢
      simp at hn ⊢
      omega
    · rw [or_bit] at hi
      by_cases e : k = i
      · subst e; exact h'.2.1
      · exact h'.2.2 i (Ne.symm e) (hK.2 i (by simpa [e] using hi))

theorem wp_region_known {id : Nat} {a : Act} {w : World} (S : Act → World → Prop) (F : Nat → Act → World → Prop) (tab : List (Nat × Nat)) (hm : P.follows .mixedOrders = true)
    (ht : needTab ops = tab) (hx : lexN tab = true)
    (hstep : ∀ k o a w, ops[k]? = some o → S a w → (∀ i, (needOf o).testBit i = true → F i a w) → wpOp P ops Q k (fun a' w' => S a' w' ∧ F k a' w' ∧ ∀ i, i ≠ k → F i a w → F i a' w') a w)
    (hend : ∀ a w, S a w → (∀ i, i < ops.size → F i a w) → Q .normal a w) (h0 : S a w.drew) : (Code.region id ops true).wp P Q a w := by
  subst ht
  exact wp_region_any hm (wpAny_known hx hstep hend ops.size 0 _ a _ (Same.zero _) (by simp) ⟨h0, fun i hi => by simp at hi⟩)
end

end Go.Proofs.Ytckfdjfcikljaaa
