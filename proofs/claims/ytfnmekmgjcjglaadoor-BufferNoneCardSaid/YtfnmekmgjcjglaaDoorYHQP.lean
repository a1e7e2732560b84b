/-
  A row appended to a row of one's own; what is true of the parts and the beginnings of a history.
-/
import Derived.Test.YtfnmekmgjcjglaaDoorYML
import Derived.Test.YtfnmekmgjcjglaaDoorYMM
import Derived.Laws.AppendOwnNone
namespace Go.Proofs.YtfnmekmgjcjglaaDoor.V
set_option linter.unusedVariables false
set_option linter.unusedSimpArgs false
set_option maxRecDepth 100000
open Go Go.RowKit Go.Maps Wire
set_option maxRecDepth 100000
set_option linter.unusedVariables false
set_option linter.unusedSimpArgs false
theorem flatO_size (l : List OC) : (flatO l).length = l.length * 29 := by
  induction l with
  | nil => rfl
  | cons x r ih =>
    rw [show x :: r = [x] ++ r from rfl, flatO_append, flatO_one, List.length_append, List.length_append, ih, Array.length_toList, oc_size]
    simp only [List.length_cons, List.length_nil]
    omega
theorem IsOps.flat {w : World} {ad : Addr} {n cp : Nat} {m : List OC} (h : IsOps w (some ad) n cp m) : ∀ j u, (flatO m)[j]? = some u → w.cell? (ad.add j) = some u := by
  intro j u hj
  have hlt : j < (flatO m).length := (List.getElem?_eq_some_iff.1 hj).1
  rw [flatO_size] at hlt
  obtain ⟨x, hx⟩ : ∃ x, m[j / 29]? = some x := ⟨_, List.getElem?_eq_getElem (by omega)⟩
  have h1 := h.2.2.2.2 (j / 29) x hx (j % 29) (by omega)
  rw [add_add2, show j / 29 * 29 + j % 29 = j by omega] at h1
  have h2 := flatO_get m (j / 29) x hx (j % 29) (by omega)
  rw [show j / 29 * 29 + j % 29 = j by omega] at h2
  rw [h1, ← h2, hj]
theorem Pushed.of {B : Nat} {w0 w w3 : World} {v v3 : Value} {l k : List OC} (hown : OwnO B w0 v l) (hB : B ≤ w0.heap.size) (hb : Below w0.heap.size w0 w) (hgr : w.grownBy w3 v.ownBlock) (hP : OwnO B w3 v3 k) : Pushed B w w3 v3 k := by
  have hBw : B ≤ w.heap.size := Nat.le_trans hB hb.size
  refine ⟨hP, fun b cs t fr ht hc => hown.rest hb hgr ht hc, fun b hlt => ?_, fun w00 h0 => hown.below h0 hBw hgr, hgr.size⟩
  refine hgr.block b (by omega) (fun e => ?_)
  rcases hown.1.2 with ⟨rfl, _⟩ | ⟨g', cap, cur, rfl, hB', hgg, _⟩
  · cases e
  · obtain rfl : b = g' := Option.some.inj e
    omega
/-! ### parts -/
/-! ### beginnings -/
end Go.Proofs.YtfnmekmgjcjglaaDoor.V
