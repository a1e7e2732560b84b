/-
  Cells of a claim, of a row; from the texts on forms.
-/
import Derived.Test.YtagjgknkkbkjgaaJA
import Derived.Test.YtagjgknkkbkjgaaJU
import Derived.Deep.Cut
namespace Go.Proofs.Ytagjgknkkbkjgaa.V
set_option linter.unusedVariables false
set_option linter.unusedSimpArgs false
open Go Go.RowKit Go.Maps Wire

theorem cells4 {w : World} {b : Nat} {x : Claim} {t : TypeId} {fr : Nat × Nat} (h : w.heap[b]? = some (.cells (cl x) t fr)) :
    w.cell? ⟨b, 0, none⟩ = some (.int .u8 (x.1.1 : Int)) ∧ w.cell? ⟨b, 1, none⟩ = some (.int .u32 (x.1.2 : Int)) ∧ w.cell? ⟨b, 2, none⟩ = some (.int .u8 (x.2.1 : Int)) ∧ w.cell? ⟨b, 3, none⟩ = some (.int .u32 (x.2.2 : Int)) := by
  have e : ∀ k, w.cell? ⟨b, k, none⟩ = (cl x)[k]? := fun k => by simp [World.cell?, h]
  exact ⟨(e 0).trans rfl, (e 1).trans rfl, (e 2).trans rfl, (e 3).trans rfl⟩
theorem cells2 {w : World} {b : Nat} {x y : Value} {t : TypeId} {fr : Nat × Nat} (h : w.heap[b]? = some (.cells #[x, y] t fr)) : w.cell? ⟨b, 0, none⟩ = some x ∧ w.cell? ⟨b, 1, none⟩ = some y := by constructor <;> simp [World.cell?, h]

end Go.Proofs.Ytagjgknkkbkjgaa.V
