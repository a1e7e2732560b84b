/-
  What is struck from a row of dots: plain mathematics, and what the walk leaves.
-/
import Derived.Test.YtmjmgjdklhdcdaaDotV
namespace Go.Proofs.Ytmjmgjdklhdcdaa
set_option linter.unusedVariables false
set_option linter.unusedSimpArgs false
open Go Go.RowKit Go.Maps

def NoneB (p : Dot → Bool) (l : List Dot) : Prop := ∀ d ∈ l, p d = false
theorem NoneB.snoc {p : Dot → Bool} {l : List Dot} {k : Nat} {x : Dot} (h : NoneB p (l.take k)) (hx : l[k]? = some x) (hq : p x = false) : NoneB p (l.take (k + 1)) := by
  have hk : k < l.length := (List.getElem?_eq_some_iff.1 hx).1
  intro d hd
  rw [List.take_succ_eq_append_getElem hk, (List.getElem?_eq_some_iff.1 hx).2] at hd
  rcases List.mem_append.1 hd with hd | hd
  · exact h d hd
  · simp at hd; subst hd; exact hq
theorem NoneB.filter {p : Dot → Bool} {l : List Dot} (h : NoneB p l) : (l.filter fun d => !p d) = l := List.filter_eq_self.2 (fun d hd => by simp [h d hd])

/-- What slices.IndexFunc leaves. -/
def IdxPost (w : World) (l : List Dot) (p : Dot → Bool) (e : Ending) (w' : World) : Prop :=
  Below w.heap.size w w' ∧ ∃ i : Int, e = .returned (.int .i64 i) ∧ ((i = -1 ∧ NoneB p l) ∨ ∃ k : Nat, i = (k : Int) ∧ k < l.length ∧ (∃ x, l[k]? = some x ∧ p x = true) ∧ NoneB p (l.take k))

theorem first_hit {p : Dot → Bool} : ∀ (l : List Dot), ¬ NoneB p l → ∃ (k : Nat) (x : Dot), l[k]? = some x ∧ p x = true ∧ NoneB p (l.take k)
  | [], h => absurd (by simp [NoneB]) h
  | d :: r, h => by
    cases hq : p d
    · obtain ⟨k, x, h1, h2, h3⟩ := first_hit r (fun hn => h (fun y hy => by rcases List.mem_cons.1 hy with rfl | hy; exact hq; exact hn y hy))
      refine ⟨k + 1, x, by simpa using h1, h2, fun y hy => ?_⟩
      rw [List.take_succ_cons] at hy
      rcases List.mem_cons.1 hy with rfl | hy
      · exact hq
      · exact h3 y hy
    · exact ⟨0, d, by simp, hq, by simp [NoneB]⟩

theorem hit_le {p : Dot → Bool} {l : List Dot} {k k' : Nat} {x : Dot} (hx : l[k]? = some x) (hq : p x = true) (hn : NoneB p (l.take k')) : k' ≤ k := by
  refine Nat.le_of_not_lt fun hlt => ?_
  have hm : x ∈ l.take k' := List.mem_of_getElem? (i := k) (by rw [List.getElem?_take, if_pos hlt]; exact hx)
  rw [hn x hm] at hq
  cases hq

theorem IdxPost.none {w : World} {l : List Dot} {p : Dot → Bool} {e : Ending} {w' : World} (h : IdxPost w l p e w') (hn : NoneB p l) : e = .returned (.int .i64 (-1)) ∧ Below w.heap.size w w' := by
  obtain ⟨hB, i, rfl, ⟨rfl, _⟩ | ⟨k, rfl, _, ⟨x, hx, hq⟩, _⟩⟩ := h
  · exact ⟨rfl, hB⟩
  · rw [hn x (List.mem_of_getElem? hx)] at hq; cases hq
theorem IdxPost.hit {w : World} {l : List Dot} {p : Dot → Bool} {e : Ending} {w' : World} (h : IdxPost w l p e w') {k : Nat} {x : Dot} (hx : l[k]? = some x) (hq : p x = true) (hn : NoneB p (l.take k)) : e = .returned (.int .i64 (k : Int)) ∧ Below w.heap.size w w' := by
  obtain ⟨hB, i, rfl, ⟨rfl, hno⟩ | ⟨k', rfl, _, ⟨x', hx', hq'⟩, hn'⟩⟩ := h
  · rw [hno x (List.mem_of_getElem? hx)] at hq; cases hq
  · obtain rfl : k' = k := Nat.le_antisymm (hit_le hx hq hn') (hit_le hx' hq' hn)
    exact ⟨rfl, hB⟩

/-- What slices.DeleteFunc leaves. -/
def DelPost (w : World) (B0 : Nat) (c : List Dot) (e : Ending) (w' : World) : Prop :=
  ∃ v, e = .returned v ∧ w'.ownsRow B0 24 2 v c.length (flat c) ∧ Below B0 w w'

theorem RowAt.owns {W : World} {g cap B0 : Nat} {c : List Dot} (h : RowAt W g (cap * 2) c) (hg : B0 ≤ g) (hc : cap ≤ maxLen) : W.ownsRow B0 24 2 (.slice (some ⟨g, 0, none⟩) c.length cap) c.length (flat c) := by
  obtain ⟨cur, h1, h2, h3, h4⟩ := h
  exact ⟨flat_length c, .inr ⟨g, cap, cur, rfl, hg, h1, by omega, hc, h2, h4⟩⟩

theorem owns_below {W W' : World} {B : Nat} {v : Value} {n : Nat} {xs : List Value} (h : W.ownsRow B 24 2 v n xs) (hb : Below W.heap.size W W') : W'.ownsRow B 24 2 v n xs := by
  refine ⟨h.1, ?_⟩
  rcases h.2 with hn | ⟨g, cap, cur, hv, hbg, hg, rest⟩
  · exact .inl hn
  · exact .inr ⟨g, cap, cur, hv, hbg, (hb.block g (Array.getElem?_eq_some_iff.1 hg).1).trans hg, rest⟩

/-- The row between two rounds: its first i are what is kept of l's first j; from j on it is as it was. -/
def DelInv (p : Dot → Bool) (l c : List Dot) (i j : Nat) : Prop :=
  c.length = l.length ∧ i < j ∧ j ≤ l.length ∧ c.take i = ((l.take j).filter fun d => !p d) ∧ c.drop j = l.drop j

theorem DelInv.start {p : Dot → Bool} {l : List Dot} {k : Nat} {x : Dot} (hx : l[k]? = some x) (hq : p x = true) (hn : NoneB p (l.take k)) : DelInv p l l k (k + 1) := by
  have hk : k < l.length := (List.getElem?_eq_some_iff.1 hx).1
  refine ⟨rfl, by omega, by omega, ?_, rfl⟩
  rw [List.take_succ_eq_append_getElem hk, (List.getElem?_eq_some_iff.1 hx).2, List.filter_append, hn.filter]
  simp [hq]
theorem DelInv.get {p : Dot → Bool} {l c : List Dot} {i j : Nat} (h : DelInv p l c i j) : c[j]? = l[j]? := by
  have := congrArg (fun z => z[0]?) h.2.2.2.2
  simpa using this
theorem DelInv.skip {p : Dot → Bool} {l c : List Dot} {i j : Nat} (h : DelInv p l c i j) {x : Dot} (hx : l[j]? = some x) (hq : p x = true) : DelInv p l c i (j + 1) := by
  obtain ⟨h1, h2, h3, h4, h5⟩ := h
  have hj : j < l.length := (List.getElem?_eq_some_iff.1 hx).1
  refine ⟨h1, by omega, by omega, ?_, ?_⟩
  · rw [List.take_succ_eq_append_getElem hj, (List.getElem?_eq_some_iff.1 hx).2, List.filter_append, ← h4]
    simp [hq]
  · have := congrArg (List.drop 1) h5
    simpa [List.drop_drop] using this
theorem DelInv.keep {p : Dot → Bool} {l c : List Dot} {i j : Nat} (h : DelInv p l c i j) {x : Dot} (hx : l[j]? = some x) (hq : p x = false) : DelInv p l (c.set i x) (i + 1) (j + 1) := by
  obtain ⟨h1, h2, h3, h4, h5⟩ := h
  have hj : j < l.length := (List.getElem?_eq_some_iff.1 hx).1
  refine ⟨by simpa using h1, by omega, by omega, ?_, ?_⟩
  · rw [List.take_succ_eq_append_getElem hj, (List.getElem?_eq_some_iff.1 hx).2, List.filter_append, ← h4]
    have hi : i < (c.set i x).length := by simp; omega
    rw [List.take_succ_eq_append_getElem hi]
    have e1 : (c.set i x).take i = c.take i := by rw [List.take_set_of_le (Nat.le_refl _)]
    rw [e1]
    simp [hq]
  · rw [List.drop_set_of_lt (by omega)]
    have := congrArg (List.drop 1) h5
    simpa [List.drop_drop] using this

end Go.Proofs.Ytmjmgjdklhdcdaa
