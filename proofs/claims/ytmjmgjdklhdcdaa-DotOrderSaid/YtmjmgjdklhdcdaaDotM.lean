/-
  Rows of dots, plain mathematics: increasing rows, the canonical one of given members.
-/
import Derived.Test.YtmjmgjdklhdcdaaDotA
import Derived.Shelf.SlSortCmp.Insertion
namespace Go.Proofs.Ytmjmgjdklhdcdaa
set_option linter.unusedVariables false
set_option linter.unusedSimpArgs false
open Go Go.Sort

/-- One dot comes before another. -/
def ltD (a b : Dot) : Prop := a.1 < b.1 ∨ (a.1 = b.1 ∧ a.2 < b.2)
instance (a b : Dot) : Decidable (ltD a b) := by unfold ltD; infer_instance
theorem ltD_irrefl (a : Dot) : ¬ ltD a a := by unfold ltD; omega
theorem ltD_trans {a b c : Dot} (h : ltD a b) (k : ltD b c) : ltD a c := by unfold ltD at *; omega
theorem ltD_asymm {a b : Dot} (h : ltD a b) : ¬ ltD b a := by unfold ltD at *; omega
theorem ltD_total {a b : Dot} (h : ¬ ltD a b) (k : ¬ ltD b a) : a = b := by
  unfold ltD at *
  exact Prod.ext (by omega) (by omega)
theorem ltD_or (a b : Dot) (h : ¬ ltD a b) (hne : a ≠ b) : ltD b a := Classical.byContradiction fun k => hne (ltD_total h k)

theorem cmpD_eq (a b : Dot) : cmpD a b = if ltD a b then -1 else if ltD b a then 1 else 0 := by
  unfold cmpD orI cmpN ltD
  by_cases h1 : a.1 < b.1
  · simp [h1]
  · by_cases h2 : b.1 < a.1
    · have : ¬ a.1 = b.1 := by omega
      simp [h1, h2, this]
    · have h3 : a.1 = b.1 := by omega
      simp [h3]
theorem cmpD_neg (a b : Dot) : cmpD a b < 0 ↔ ltD a b := by
  rw [cmpD_eq]
  by_cases h : ltD a b
  · simp [h]
  · by_cases k : ltD b a <;> simp [h, k]
theorem ltOf_cmp (a b : Dot) : ltOf cmpD a b = decide (ltD a b) := by
  unfold ltOf
  exact decide_eq_decide.2 (cmpD_neg a b)
theorem cmp_swo : SWO (ltOf cmpD) where
  irrefl x := by rw [ltOf_cmp]; simpa using ltD_irrefl x
  trans x y z h k := by rw [ltOf_cmp] at *; simp at *; exact ltD_trans h k
  ntrans x y z h k := by rw [ltOf_cmp] at *; simp at *; unfold ltD at *; omega
theorem cmp_total (x y : Dot) (h : ltOf cmpD x y = false) (k : ltOf cmpD y x = false) : x = y := by
  rw [ltOf_cmp] at h k
  exact ltD_total (by simpa using h) (by simpa using k)

/-- Increasing, each dot once. -/
def Inc (l : List Dot) : Prop := l.Pairwise ltD
theorem Inc.nodup {l : List Dot} (h : Inc l) : l.Nodup := by
  refine List.Pairwise.imp (R := ltD) ?_ h
  intro a b hab e
  exact ltD_irrefl a (by rw [← e] at hab; exact hab)
/-- An increasing row is known by its members. -/
theorem inc_unique {l l' : List Dot} (h : Inc l) (h' : Inc l') (hm : ∀ d, d ∈ l ↔ d ∈ l') : l = l' := by
  have hp : l.Perm l' := (List.perm_ext_iff_of_nodup h.nodup h'.nodup).2 hm
  exact List.Perm.eq_of_pairwise (le := ltD) (fun a b _ _ h1 h2 => absurd h2 (ltD_asymm h1)) h h' hp

def ltB (a b : Dot) : Bool := decide (ltD a b)
/-- A row with one more dot. -/
def ins (l : List Dot) (d : Dot) : List Dot := if d ∈ l then l else l.takeWhile (ltB · d) ++ d :: l.dropWhile (ltB · d)
/-- The set of a row's dots. -/
def can (l : List Dot) : List Dot := l.foldl ins []

theorem mem_ins (l : List Dot) (d x : Dot) : x ∈ ins l d ↔ x ∈ l ∨ x = d := by
  unfold ins
  by_cases h : d ∈ l
  · rw [if_pos h]
    constructor
    · exact .inl
    · rintro (h' | rfl)
      · exact h'
      · exact h
  · rw [if_neg h]
    have e := List.takeWhile_append_dropWhile (p := (ltB · d)) (l := l)
    have hx : x ∈ l ↔ x ∈ l.takeWhile (ltB · d) ∨ x ∈ l.dropWhile (ltB · d) := by rw [← List.mem_append, e]
    rw [List.mem_append, List.mem_cons, hx]
    constructor
    · rintro (h | h | h)
      · exact .inl (.inl h)
      · exact .inr h
      · exact .inl (.inr h)
    · rintro ((h | h) | h)
      · exact .inl h
      · exact .inr (.inr h)
      · exact .inr (.inl h)

theorem takeWhile_all {p : Dot → Bool} : ∀ {l : List Dot} {x : Dot}, x ∈ l.takeWhile p → p x = true
  | [], _, h => by simp at h
  | y :: r, x, h => by
    rw [List.takeWhile_cons] at h
    by_cases hy : p y = true
    · rw [if_pos hy] at h
      rcases List.mem_cons.1 h with rfl | h
      · exact hy
      · exact takeWhile_all h
    · rw [if_neg hy] at h
      simp at h

theorem dropWhile_ge {d : Dot} : ∀ {l : List Dot}, Inc l → ∀ x ∈ l.dropWhile (ltB · d), ¬ ltD x d
  | [], _, _, h => by simp at h
  | y :: r, hi, x, h => by
    have hi' : r.Pairwise ltD := (List.pairwise_cons.1 hi).2
    rw [List.dropWhile_cons] at h
    by_cases hy : ltB y d = true
    · rw [if_pos hy] at h
      exact dropWhile_ge hi' x h
    · rw [if_neg hy] at h
      have hy' : ¬ ltD y d := by simpa [ltB] using hy
      rcases List.mem_cons.1 h with rfl | h
      · exact hy'
      · intro hx
        exact hy' (ltD_trans ((List.pairwise_cons.1 hi).1 x h) hx)

theorem inc_ins {l : List Dot} (h : Inc l) (d : Dot) : Inc (ins l d) := by
  unfold ins
  by_cases hd : d ∈ l
  · rw [if_pos hd]; exact h
  · rw [if_neg hd]
    have hs1 : (l.takeWhile (ltB · d)).Sublist l := List.takeWhile_sublist _
    have hs2 : (l.dropWhile (ltB · d)).Sublist l := List.dropWhile_sublist _
    have ha : ∀ x ∈ l.takeWhile (ltB · d), ltD x d := fun x hx => by simpa [ltB] using takeWhile_all hx
    have hb : ∀ x ∈ l.dropWhile (ltB · d), ltD d x := fun x hx => ltD_or x d (dropWhile_ge h x hx) (fun e => hd (e ▸ hs2.subset hx))
    refine List.pairwise_append.2 ⟨h.sublist hs1, List.pairwise_cons.2 ⟨hb, h.sublist hs2⟩, fun x hx y hy => ?_⟩
    rcases List.mem_cons.1 hy with rfl | hy
    · exact ha x hx
    · exact ltD_trans (ha x hx) (hb y hy)

theorem foldl_ins (l acc : List Dot) (h : Inc acc) : Inc (l.foldl ins acc) ∧ ∀ x, x ∈ l.foldl ins acc ↔ x ∈ acc ∨ x ∈ l := by
  induction l generalizing acc with
  | nil => exact ⟨h, by simp⟩
  | cons d r ih =>
    obtain ⟨h1, h2⟩ := ih (ins acc d) (inc_ins h d)
    refine ⟨h1, fun x => ?_⟩
    rw [List.foldl_cons, h2 x, mem_ins, List.mem_cons, or_assoc]

theorem can_inc (l : List Dot) : Inc (can l) := (foldl_ins l [] List.Pairwise.nil).1
theorem mem_can (l : List Dot) (x : Dot) : x ∈ can l ↔ x ∈ l := by simpa [can] using (foldl_ins l [] List.Pairwise.nil).2 x
theorem can_snoc (l : List Dot) (d : Dot) : can (l ++ [d]) = ins (can l) d := by simp [can]
/-- What is increasing, and has just these members, is the set. -/
theorem can_unique {l s : List Dot} (h : Inc s) (hm : ∀ d, d ∈ s ↔ d ∈ l) : s = can l :=
  inc_unique h (can_inc l) (fun d => by rw [hm, mem_can])

/-- Sorted by the order, a row without twins is increasing. -/
theorem inc_sort {ss : List Dot} (h : ss.Nodup) : Inc (ss.mergeSort fun x y => !(ltOf cmpD) y x) := by
  have e : (fun x y : Dot => !(ltOf cmpD) y x) = fun x y => !decide (ltD y x) := by funext x y; rw [ltOf_cmp]
  rw [e]
  have hs := List.pairwise_mergeSort (le := fun x y : Dot => !decide (ltD y x))
    (fun a b c h1 h2 => by simp at *; unfold ltD at *; omega) (fun a b => by simp; unfold ltD; omega) ss
  have hn : (ss.mergeSort fun x y => !decide (ltD y x)).Nodup := (List.mergeSort_perm ss _).nodup_iff.2 h
  refine (hs.and hn).imp fun {a b} hab => ?_
  obtain ⟨h1, h2⟩ := hab
  exact ltD_or b a (by simpa using h1) (fun e => h2 e.symm)
theorem mem_sort {ss : List Dot} (x : Dot) : x ∈ (ss.mergeSort fun x y => !(ltOf cmpD) y x) ↔ x ∈ ss := (List.mergeSort_perm ss _).mem_iff

theorem can_filter (l : List Dot) (p : Dot → Bool) : (can l).filter p = can (l.filter p) :=
  can_unique ((can_inc l).sublist List.filter_sublist) (fun d => by rw [List.mem_filter, List.mem_filter, mem_can])

theorem can_ok {l : List Dot} (h : ∀ d ∈ l, d.ok) : ∀ d ∈ can l, d.ok := fun d hd => h d ((mem_can l d).1 hd)
theorem length_ins (l : List Dot) (d : Dot) : (ins l d).length ≤ l.length + 1 := by
  unfold ins
  by_cases h : d ∈ l
  · rw [if_pos h]; omega
  · rw [if_neg h]
    have e := congrArg List.length (List.takeWhile_append_dropWhile (p := (ltB · d)) (l := l))
    simp only [List.length_append, List.length_cons] at e ⊢
    omega
theorem length_can (l : List Dot) : (can l).length ≤ l.length := by
  have : ∀ (l acc : List Dot), (l.foldl ins acc).length ≤ acc.length + l.length := by
    intro l
    induction l with
    | nil => intro acc; simp
    | cons d r ih =>
      intro acc
      have h1 := ih (ins acc d)
      have h2 := length_ins acc d
      rw [List.foldl_cons, List.length_cons]
      omega
  have h := this l []
  simpa [can] using h

end Go.Proofs.Ytmjmgjdklhdcdaa
