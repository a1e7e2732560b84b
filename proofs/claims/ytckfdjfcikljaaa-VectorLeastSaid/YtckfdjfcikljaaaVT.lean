/-
  The tops of a row of vectors: plain mathematics.
-/
import Derived.Test.YtckfdjfcikljaaaVF
namespace Go.Proofs.Ytckfdjfcikljaaa
set_option linter.unusedVariables false
set_option linter.unusedSimpArgs false
open Go Go.RowKit Go.Maps

theorem above_refl (a : Vec) : aboveB a a = true := above_iff.2 fun _ _ => Nat.le_refl _
theorem above_trans {a b c : Vec} (h : aboveB a b = true) (h' : aboveB b c = true) : aboveB a c = true := above_iff.2 fun i hi => Nat.le_trans (above_iff.1 h' i hi) (above_iff.1 h i hi)
theorem above_anti {a b : Vec} (ha : okV a) (hb : okV b) (h : aboveB a b = true) (h' : aboveB b a = true) : a = b :=
  ext8 ha hb fun i hi => Nat.le_antisymm (above_iff.1 h' i hi) (above_iff.1 h i hi)

def memB (l : List Vec) (v : Vec) : Bool := l.any fun u => eqV u v
theorem memB_iff {l : List Vec} {v : Vec} (hl : ∀ u ∈ l, okV u) (hv : okV v) : memB l v = true ↔ v ∈ l := by
  unfold memB
  rw [List.any_eq_true]
  constructor
  · rintro ⟨u, hu, he⟩
    rw [← (eqV_iff (hl u hu) hv).1 he]; exact hu
  · intro h
    exact ⟨v, h, eqV_refl v⟩

/-! ### as the program does it -/
def stepT (s t : List Vec) (v : Vec) : List Vec := if memB s v = true then t else if (t.any fun u => aboveB u v) = true then t else (t.filter fun u => !aboveB v u) ++ [v]
def topsAt (l : List Vec) : Nat → List Vec
  | 0 => []
  | k + 1 => match l[k]? with
    | some x => stepT (l.take k) (topsAt l k) x
    | none => topsAt l k
theorem topsAt_succ {l : List Vec} {k : Nat} {x : Vec} (h : l[k]? = some x) : topsAt l (k + 1) = stepT (l.take k) (topsAt l k) x := by
  simp only [topsAt, h]

/-! ### number by number -/
def specAt (l : List Vec) : Nat → List Vec
  | 0 => []
  | k + 1 => match l[k]? with
    | some x => ((specAt l k).filter fun u => !(aboveB x u && !eqV x u)) ++ (if ((l.take k).any fun y => aboveB y x) = true then [] else [x])
    | none => specAt l k
theorem specAt_succ {l : List Vec} {k : Nat} {x : Vec} (h : l[k]? = some x) : specAt l (k + 1) = ((specAt l k).filter fun u => !(aboveB x u && !eqV x u)) ++ (if ((l.take k).any fun y => aboveB y x) = true then [] else [x]) := by
  simp only [specAt, h]

/-- What holds of the tops of what has been seen. -/
structure TopI (m t : List Vec) : Prop where
  sub : ∀ u ∈ t, u ∈ m
  max : ∀ u ∈ t, ∀ y ∈ m, aboveB y u = true → y = u
  dom : ∀ y ∈ m, ∃ u ∈ t, aboveB u y = true

theorem filter_all {t : List Vec} {p : Vec → Bool} (h : ∀ u ∈ t, p u = true) : t.filter p = t := List.filter_eq_self.2 h

theorem top_step {m t : List Vec} {x : Vec} (hm : ∀ u ∈ m, okV u) (hx : okV x) (h : TopI m t) :
    stepT m t x = (t.filter fun u => !(aboveB x u && !eqV x u)) ++ (if (m.any fun y => aboveB y x) = true then [] else [x]) ∧ TopI (m ++ [x]) (stepT m t x) := by
  unfold stepT
  by_cases h1 : memB m x = true
  · have hxm : x ∈ m := (memB_iff hm hx).1 h1
    have e1 : (m.any fun y => aboveB y x) = true := List.any_eq_true.2 ⟨x, hxm, above_refl x⟩
    have e2 : (t.filter fun u => !(aboveB x u && !eqV x u)) = t := filter_all fun u hu => by
      cases ha : aboveB x u
      · rfl
      · have := h.max u hu x hxm ha
        subst this
        simp [eqV_refl]
    rw [if_pos h1, if_pos e1, e2, List.append_nil]
    refine ⟨rfl, ⟨fun u hu => List.mem_append_left _ (h.sub u hu), fun u hu y hy ha => ?_, fun y hy => ?_⟩⟩
    · rcases List.mem_append.1 hy with hy | hy
      · exact h.max u hu y hy ha
      · simp at hy; subst hy; exact h.max u hu y hxm ha
    · rcases List.mem_append.1 hy with hy | hy
      · exact h.dom y hy
      · simp at hy; subst hy; exact h.dom y hxm
  · have hxm : x ∉ m := fun hc => h1 ((memB_iff hm hx).2 hc)
    rw [if_neg h1]
    by_cases h2 : (t.any fun u => aboveB u x) = true
    · obtain ⟨u, hu, hux⟩ := List.any_eq_true.1 h2
      have e1 : (m.any fun y => aboveB y x) = true := List.any_eq_true.2 ⟨u, h.sub u hu, hux⟩
      have e2 : (t.filter fun u => !(aboveB x u && !eqV x u)) = t := filter_all fun z hz => by
        cases ha : aboveB x z
        · rfl
        · have huz := h.max z hz u (h.sub u hu) (above_trans hux ha)
          subst huz
          exact absurd (above_anti (hm u (h.sub u hu)) hx hux ha ▸ h.sub u hu) hxm
      rw [if_pos h2, if_pos e1, e2, List.append_nil]
      refine ⟨rfl, ⟨fun u hu => List.mem_append_left _ (h.sub u hu), fun z hz y hy ha => ?_, fun y hy => ?_⟩⟩
      · rcases List.mem_append.1 hy with hy | hy
        · exact h.max z hz y hy ha
        · simp at hy; subst hy
          have huz := h.max z hz u (h.sub u hu) (above_trans hux ha)
          subst huz
          exact absurd (above_anti (hm u (h.sub u hu)) hx hux ha ▸ h.sub u hu) hxm
      · rcases List.mem_append.1 hy with hy | hy
        · exact h.dom y hy
        · simp at hy; subst hy; exact ⟨u, hu, hux⟩
    · have h3 : ∀ u ∈ t, aboveB u x = false := fun u hu => by
        cases hc : aboveB u x
        · rfl
        · exact absurd (List.any_eq_true.2 ⟨u, hu, hc⟩) h2
      have h4 : ∀ y ∈ m, aboveB y x = false := fun y hy => by
        cases hc : aboveB y x
        · rfl
        · obtain ⟨u, hu, huy⟩ := h.dom y hy
          have := h3 u hu
          rw [above_trans huy hc] at this; cases this
      have e1 : ¬ (m.any fun y => aboveB y x) = true := fun hc => by
        obtain ⟨y, hy, hyx⟩ := List.any_eq_true.1 hc
        rw [h4 y hy] at hyx; cases hyx
      have e2 : (t.filter fun u => !(aboveB x u && !eqV x u)) = (t.filter fun u => !aboveB x u) := by
        apply List.filter_congr
        intro u hu
        have hne : eqV x u = false := eqV_false hx (hm u (h.sub u hu)) (fun e => hxm (e ▸ h.sub u hu))
        rw [hne]; simp
      rw [if_neg h2, if_neg e1, e2]
      refine ⟨rfl, ⟨fun u hu => ?_, fun z hz y hy ha => ?_, fun y hy => ?_⟩⟩
      · rcases List.mem_append.1 hu with hu | hu
        · exact List.mem_append_left _ (h.sub u (List.mem_filter.1 hu).1)
        · exact List.mem_append_right _ hu
      · rcases List.mem_append.1 hz with hz | hz
        · obtain ⟨hz, hp⟩ := List.mem_filter.1 hz
          rcases List.mem_append.1 hy with hy | hy
          · exact h.max z hz y hy ha
          · simp at hy; subst hy; rw [ha] at hp; cases hp
        · simp at hz; subst hz
          rcases List.mem_append.1 hy with hy | hy
          · rw [h4 y hy] at ha; cases ha
          · simp at hy; exact hy
      · rcases List.mem_append.1 hy with hy | hy
        · obtain ⟨u, hu, huy⟩ := h.dom y hy
          cases hc : aboveB x u
          · exact ⟨u, List.mem_append_left _ (List.mem_filter.2 ⟨hu, by rw [hc]; rfl⟩), huy⟩
          · exact ⟨x, by simp, above_trans hc huy⟩
        · simp at hy; subst hy; exact ⟨y, by simp, above_refl y⟩

theorem tops_spec {l : List Vec} (hl : ∀ u ∈ l, okV u) : ∀ k, k ≤ l.length → topsAt l k = specAt l k ∧ TopI (l.take k) (topsAt l k)
  | 0, _ => ⟨rfl, ⟨by simp [topsAt], by simp [topsAt], by simp⟩⟩
  | k + 1, hk => by
    obtain ⟨e, h⟩ := tops_spec hl k (by omega)
    have hx : l[k]? = some l[k] := List.getElem?_eq_getElem (by omega)
    have hs := top_step (x := l[k]) (fun u hu => hl u (List.mem_of_mem_take hu)) (hl _ (List.getElem_mem _)) h
    rw [topsAt_succ hx, specAt_succ hx, List.take_succ_eq_append_getElem (by omega), ← e]
    exact hs

/-! ### the document's -/
def badAt (l : List Vec) (i : Nat) (x : Vec) (k : Nat) : Bool := match l[k]? with
  | some y => aboveB y x && (!eqV y x || decide (k < i))
  | none => false
def topB (l : List Vec) (i : Nat) (x : Vec) : Nat → Bool
  | 0 => true
  | k + 1 => topB l i x k && !badAt l i x k
def refB (l : List Vec) (k : Nat) : Nat → List Vec
  | 0 => []
  | j + 1 => match l[j]? with
    | some x => if topB l j x k = true then refB l k j ++ [x] else refB l k j
    | none => refB l k j
theorem refB_succ {l : List Vec} {k j : Nat} {x : Vec} (h : l[j]? = some x) : refB l k (j + 1) = if topB l j x k = true then refB l k j ++ [x] else refB l k j := by simp only [refB, h]
theorem badAt_some {l : List Vec} {i k : Nat} {x y : Vec} (h : l[k]? = some y) : badAt l i x k = (aboveB y x && (!eqV y x || decide (k < i))) := by simp only [badAt, h]

theorem refB_more {l : List Vec} {k : Nat} {z : Vec} (hz : l[k]? = some z) : ∀ j, j ≤ k → refB l (k + 1) j = (refB l k j).filter fun u => !(aboveB z u && !eqV z u)
  | 0, _ => rfl
  | j + 1, hj => by
    have hlen : k < l.length := (List.getElem?_eq_some_iff.1 hz).1
    have hx : l[j]? = some l[j] := List.getElem?_eq_getElem (by omega)
    have ih := refB_more hz j (by omega)
    rw [refB_succ hx, refB_succ hx, ih]
    have hb : badAt l j l[j] k = (aboveB z l[j] && !eqV z l[j]) := by
      rw [badAt_some hz, decide_eq_false (by omega), Bool.or_false]
    have ht : topB l j l[j] (k + 1) = (topB l j l[j] k && !(aboveB z l[j] && !eqV z l[j])) := by rw [← hb]; rfl
    rw [ht]
    cases topB l j l[j] k
    · simp
    · cases hq : (aboveB z l[j] && !eqV z l[j])
      · rw [if_pos rfl, if_pos (by rfl), List.filter_append]
        congr 1
        simp only [List.filter_cons, List.filter_nil, hq]; rfl
      · rw [if_neg (by simp), if_pos rfl, List.filter_append]
        simp only [List.filter_cons, List.filter_nil, hq]; simp

theorem topB_last {l : List Vec} {k : Nat} {x : Vec} : ∀ j, j ≤ k → j ≤ l.length → topB l k x j = !((l.take j).any fun y => aboveB y x)
  | 0, _, _ => by simp [topB]
  | j + 1, hj, hl => by
    have hx : l[j]? = some l[j] := List.getElem?_eq_getElem (by omega)
    have ih := topB_last (l := l) (k := k) (x := x) j (by omega) (by omega)
    have hb : badAt l k x j = aboveB l[j] x := by
      rw [badAt_some hx, decide_eq_true (by omega), Bool.or_true, Bool.and_true]
    rw [List.take_succ_eq_append_getElem (by omega), List.any_append]
    show (topB l k x j && !badAt l k x j) = _
    rw [ih, hb]; simp

theorem ref_spec {l : List Vec} : ∀ k, k ≤ l.length → refB l k k = specAt l k
  | 0, _ => rfl
  | k + 1, hk => by
    have hx : l[k]? = some l[k] := List.getElem?_eq_getElem (by omega)
    rw [refB_succ hx, refB_more hx k (Nat.le_refl _), ref_spec k (by omega), specAt_succ hx]
    have hb : badAt l k l[k] k = false := by
      rw [badAt_some hx, eqV_refl, decide_eq_false (by omega)]; simp
    have ht : topB l k l[k] (k + 1) = !((l.take k).any fun y => aboveB y l[k]) := by
      show (topB l k l[k] k && !badAt l k l[k] k) = _
      rw [hb, topB_last k (Nat.le_refl _) (by omega)]; simp
    rw [ht]
    cases (l.take k).any fun y => aboveB y l[k] <;> simp

theorem tops_ref {l : List Vec} (hl : ∀ u ∈ l, okV u) : topsAt l l.length = refB l l.length l.length := by
  rw [(tops_spec hl _ (Nat.le_refl _)).1, ref_spec _ (Nat.le_refl _)]
theorem topsAt_ok {l : List Vec} (hl : ∀ u ∈ l, okV u) (k : Nat) (hk : k ≤ l.length) : ∀ u ∈ topsAt l k, okV u := fun u hu => hl u (List.mem_of_mem_take ((tops_spec hl k hk).2.sub u hu))
theorem topsAt_length (l : List Vec) : ∀ k, (topsAt l k).length ≤ k
  | 0 => Nat.le_refl _
  | k + 1 => by
    have ih := topsAt_length l k
    cases hx : l[k]? with
    | none => simp only [topsAt, hx]; omega
    | some x =>
      rw [topsAt_succ hx]
      unfold stepT
      split
      · omega
      · split
        · omega
        · have := List.length_filter_le (fun u => !aboveB x u) (topsAt l k)
          simp; omega
theorem refB_length (l : List Vec) (k : Nat) : ∀ j, (refB l k j).length ≤ j
  | 0 => Nat.le_refl _
  | j + 1 => by
    have ih := refB_length l k j
    cases hx : l[j]? with
    | none => simp only [refB, hx]; omega
    | some x =>
      rw [refB_succ hx]
      split
      · simp; omega
      · omega
theorem refB_ok {l : List Vec} (hl : ∀ u ∈ l, okV u) (k : Nat) : ∀ j, ∀ u ∈ refB l k j, okV u
  | 0, u, hu => by simp [refB] at hu
  | j + 1, u, hu => by
    cases hx : l[j]? with
    | none => simp only [refB, hx] at hu; exact refB_ok hl k j u hu
    | some x =>
      rw [refB_succ hx] at hu
      split at hu
      · rcases List.mem_append.1 hu with hu | hu
        · exact refB_ok hl k j u hu
        · simp at hu; subst hu; exact hl _ (List.mem_of_getElem? hx)
      · exact refB_ok hl k j u hu

end Go.Proofs.Ytckfdjfcikljaaa
