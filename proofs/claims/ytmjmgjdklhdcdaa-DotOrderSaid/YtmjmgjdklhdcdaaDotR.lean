/-
  Rows of dots in memory: read (IsDots), owned (ownsRow), sorted in place.
-/
import Derived.Test.YtmjmgjdklhdcdaaDotM
import Derived.Test.YtmjmgjdklhdcdaaIter2
import Derived.Test.YtmjmgjdklhdcdaaSort
namespace Go.Proofs.Ytmjmgjdklhdcdaa
set_option linter.unusedVariables false
set_option linter.unusedSimpArgs false
open Go Go.RowKit Go.Sort Go.Shelf

/-- A slice that reads as these dots. -/
def IsDots (w : World) (a : Option Addr) (len cap : Nat) (xs : List Dot) : Prop :=
  xs.length = len ∧ len ≤ cap ∧ cap ≤ maxLen ∧ (∀ x ∈ xs, x.ok) ∧
    match a with
    | none => len = 0 ∧ cap = 0
    | some ad => ∀ i x, xs[i]? = some x → w.cell? (ad.add (i * 2)) = some (.int .u8 (x.1 : Int)) ∧ w.cell? ((ad.add (i * 2)).add 1) = some (.int .u32 (x.2 : Int))

theorem cell_lt {w : World} {a : Addr} {v : Value} (h : w.cell? a = some v) : a.block < w.heap.size := World.block_lt_of_cell? w a h
theorem cell_keep {w w' : World} {a : Addr} {v : Value} (hb : Below w.heap.size w w') (h : w.cell? a = some v) : w'.cell? a = some v := by
  rw [← h]; exact World.cell?_of_block (hb.block _ (cell_lt h))
theorem IsDots.keep {w w' : World} {a : Option Addr} {len cap : Nat} {xs : List Dot} (h : IsDots w a len cap xs) (hb : Below w.heap.size w w') : IsDots w' a len cap xs := by
  obtain ⟨h1, h2, h3, h4, h5⟩ := h
  refine ⟨h1, h2, h3, h4, ?_⟩
  cases a with
  | none => exact h5
  | some ad => exact fun i x hx => ⟨cell_keep hb (h5 i x hx).1, cell_keep hb (h5 i x hx).2⟩

theorem IsDots.at {w : World} {ad : Addr} {len cap : Nat} {xs : List Dot} (h : IsDots w (some ad) len cap xs) (i : Nat) (hi : i < len) :
    ∃ (r n B O : Nat) (sp : Option Nat), xs[i]? = some (r, n) ∧ r < 256 ∧ n < 4294967296 ∧ ad.add (i * 2) = ⟨B, O, sp⟩ ∧ w.cell? ⟨B, O, sp⟩ = some (.int .u8 (r : Int)) ∧ w.cell? ⟨B, O + 1, none⟩ = some (.int .u32 (n : Int)) := by
  obtain ⟨h1, h2, h3, h4, h5⟩ := h
  have hx : xs[i]? = some (xs[i]'(by omega)) := List.getElem?_eq_getElem (by omega)
  have hc := h5 i _ hx
  have hok := h4 _ (List.mem_of_getElem? hx)
  generalize xs[i]'(by omega) = x at hx hc hok
  obtain ⟨r, n⟩ := x
  obtain ⟨A, hA⟩ : ∃ A, A = ad.add (i * 2) := ⟨_, rfl⟩
  rw [← hA] at hc
  obtain ⟨B, O, sp⟩ := A
  refine ⟨r, n, B, O, sp, hx, hok.1, hok.2, hA.symm, hc.1, ?_⟩
  have h := hc.2
  unfold Addr.add at h
  rw [if_neg (by omega)] at h
  exact h
theorem IsDots.none_len {w : World} {len cap : Nat} {xs : List Dot} (h : IsDots w none len cap xs) : len = 0 := h.2.2.2.2.1
theorem IsDots.none_cap {w : World} {len cap : Nat} {xs : List Dot} (h : IsDots w none len cap xs) : cap = 0 := h.2.2.2.2.2

/-! ### cells of rows -/
theorem flat_length (l : List Dot) : (flat l).length = l.length * 2 := by
  induction l with
  | nil => rfl
  | cons d r ih => simp [flat, Dot.enc] at ih ⊢; omega
theorem flat_cons (d : Dot) (r : List Dot) : flat (d :: r) = .int .u8 (d.1 : Int) :: .int .u32 (d.2 : Int) :: flat r := by simp [flat, Dot.enc]
theorem flat_get : ∀ (l : List Dot) (i : Nat) (x : Dot), l[i]? = some x → (flat l)[i * 2]? = some (.int .u8 (x.1 : Int)) ∧ (flat l)[i * 2 + 1]? = some (.int .u32 (x.2 : Int))
  | [], i, x, h => by simp at h
  | d :: r, 0, x, h => by simp at h; subst h; rw [flat_cons]; simp
  | d :: r, i + 1, x, h => by
    have h' : r[i]? = some x := by simpa using h
    obtain ⟨h1, h2⟩ := flat_get r i x h'
    rw [flat_cons, show (i + 1) * 2 = i * 2 + 1 + 1 by omega]
    simp only [List.getElem?_cons_succ]
    exact ⟨h1, h2⟩
theorem flat_append (l m : List Dot) : flat (l ++ m) = flat l ++ flat m := by simp [flat]

theorem flatK_toList (l : List Dot) : (flatK Dot.enc 2 l.toArray).toList = flat l := by
  apply List.ext_getElem?
  intro t
  by_cases ht : t < l.length * 2
  · have h1 : (flatK Dot.enc 2 l.toArray)[t]! = (Dot.enc l.toArray[t / 2]!)[t % 2]! := get_flatK Dot.enc 2 l.toArray t (by simpa using ht)
    have hs : t < (flatK Dot.enc 2 l.toArray).size := by simpa using ht
    have hi : t / 2 < l.length := by omega
    have hx : l[t / 2]? = some l[t / 2] := List.getElem?_eq_getElem hi
    obtain ⟨g0, g1⟩ := flat_get l (t / 2) _ hx
    have e1 : l.toArray[t / 2]! = l[t / 2] := by
      rw [getElem!_pos l.toArray (t / 2) (by simpa using hi)]; simp
    rw [e1, getElem!_pos (flatK Dot.enc 2 l.toArray) t hs] at h1
    have h2 : (flatK Dot.enc 2 l.toArray).toList[t]? = some ((Dot.enc l[t / 2])[t % 2]!) := by
      rw [← h1]; simp [hs]
    rw [h2]
    by_cases hp : t % 2 = 0
    · rw [hp]
      rw [show (flat l)[t]? = (flat l)[t / 2 * 2]? by rw [show t / 2 * 2 = t by omega]]
      exact g0.symm
    · rw [show t % 2 = 1 by omega]
      rw [show (flat l)[t]? = (flat l)[t / 2 * 2 + 1]? by rw [show t / 2 * 2 + 1 = t by omega]]
      exact g1.symm
  · rw [List.getElem?_eq_none (by simpa using ht), List.getElem?_eq_none (by rw [flat_length]; omega)]

/-- A slice that owns dots reads as them. -/
theorem owns_isDots {W : World} {base : Nat} {v : Value} {l : List Dot} (h : W.ownsRow base 24 2 v l.length (flat l)) (hok : ∀ d ∈ l, d.ok) :
    ∃ a cap, v = .slice a l.length cap ∧ IsDots W a l.length cap l := by
  rcases h.2 with ⟨rfl, h0⟩ | ⟨g, cap, cur, rfl, _, hg, hcap, hm, hsz, ht⟩
  · rw [h0]
    exact ⟨none, 0, rfl, h0, Nat.le_refl _, Nat.zero_le _, hok, rfl, rfl⟩
  · refine ⟨_, cap, rfl, rfl, hcap, hm, hok, fun i x hx => ?_⟩
    obtain ⟨h0, h1⟩ := flat_get l i x hx
    rw [← ht] at h0 h1
    have hi : i < l.length := (List.getElem?_eq_some_iff.1 hx).1
    rw [List.getElem?_take] at h0 h1
    rw [if_pos (by omega)] at h0 h1
    have hc : ∀ j u, cur.toList[j]? = some u → W.cell? ⟨g, j, none⟩ = some u := fun j u hj => by
      simp [World.cell?, hg]; simpa using hj
    have e0 : (⟨g, 0, none⟩ : Addr).add (i * 2) = ⟨g, i * 2, none⟩ := by
      unfold Addr.add
      by_cases hz : i * 2 = 0
      · rw [if_pos hz, hz]
      · rw [if_neg hz]; simp
    rw [e0]
    refine ⟨hc _ _ h0, ?_⟩
    have e1 : (⟨g, i * 2, none⟩ : Addr).add 1 = ⟨g, i * 2 + 1, none⟩ := by unfold Addr.add; rw [if_neg (by omega)]
    rw [e1]; exact hc _ _ h1

/-! ### sorted in place -/
theorem holds_of_cells {W : World} {g : Nat} {cur : Array Value} {l : List Dot} (hg : W.heap[g]? = some (.cells cur 24 (0, 0))) (ht : cur.toList.take (l.length * 2) = flat l) : HoldsK Dot.enc 2 W g 0 l.toArray := by
  intro j hj
  have hj' : j < l.length * 2 := by simpa using hj
  have e : (flatK Dot.enc 2 l.toArray).toList[j]? = (flat l)[j]? := by rw [flatK_toList]
  rw [← ht, List.getElem?_take, if_pos hj'] at e
  have h1 : (flatK Dot.enc 2 l.toArray)[j]? = some (flatK Dot.enc 2 l.toArray)[j]! := by rw [getElem!_pos _ j hj]; simp [hj]
  have e2 : cur[j]? = some (flatK Dot.enc 2 l.toArray)[j]! := by
    rw [← h1]; simpa using e.symm
  constructor
  · rw [Nat.zero_add]; simp [World.cell?, hg, e2]
  · rw [Nat.zero_add]; simp [World.frozen?, hg]

theorem sort_block {W : World} {g : Nat} {cur : Array Value} {l s : List Dot} (n : Nat) (os : Array Obj) (hg : W.heap[g]? = some (.cells cur 24 (0, 0))) (hl : s.length = l.length) (hc : l.length * 2 ≤ cur.size) :
    ∃ cur', (sortWorldK Dot.enc 2 W g 0 n s.toArray os).heap[g]? = some (.cells cur' 24 (0, 0)) ∧ cur'.size = cur.size ∧ cur'.toList.take (s.length * 2) = flat s := by
  refine ⟨putCells id 0 (flatK Dot.enc 2 s.toArray) cur, ?_, by simp [putCells], ?_⟩
  · have hlt : g < W.heap.size := (Array.getElem?_eq_some_iff.1 hg).1
    show ((W.heap.modify g _) ++ os)[g]? = _
    rw [Array.getElem?_append_left (by simpa using hlt), Array.getElem?_modify, if_pos rfl, hg]
    rfl
  · apply List.ext_getElem?
    intro j
    by_cases hj : j < s.length * 2
    · rw [List.getElem?_take, if_pos hj, ← flatK_toList s]
      have hjs : j < (flatK Dot.enc 2 s.toArray).size := by simpa using hj
      have hjc : j < cur.size := by omega
      simp [putCells, hjc, hj, hjs]
    · rw [List.getElem?_take, if_neg hj, List.getElem?_eq_none (by rw [flat_length]; omega)]

theorem below_sort {w0 W : World} {g : Nat} (n : Nat) (os : Array Obj) (d : Array Dot) (h : Below w0.heap.size w0 W) (hg : w0.heap.size ≤ g) : Below w0.heap.size w0 (sortWorldK Dot.enc 2 W g 0 n d os) :=
  ⟨h.os, h.tape, h.output, by
    show _ ≤ ((W.heap.modify g _) ++ os).size
    have := h.size
    simp; omega, fun k hk => by
    show ((W.heap.modify g _) ++ os)[k]? = _
    have := h.size
    rw [Array.getElem?_append_left (by simp; omega), Array.getElem?_modify, if_neg (by omega)]
    exact h.block k hk⟩

end Go.Proofs.Ytmjmgjdklhdcdaa
