/-
  A region that is walked in the order of the text, by the walk of those that draw their order.
-/
import Derived.Test.YtdhdfngaldfdjaaDoorON
namespace Go.Proofs.YtdhdfngaldfdjaaDoor.V
set_option linter.unusedVariables false
set_option linter.unusedSimpArgs false
open Go Go.RowKit Go.Maps

theorem wpList_of_quiet {P : Program} {ops : Array Oper} {C : World → Prop} {Qa : Act → Prop} {Q : Exit → Act → World → Prop} (hQ : ∀ a w, C w → Qa a → Q .normal a w) :
    ∀ (l : List Oper) (a : Act) (w : World), C w → wpQuiet P ops C Qa l a → wpList P ops Q l a w
  | [], a, w, hw, h => hQ a w hw h
  | o :: rest, a, w, hw, h => by
    unfold wpQuiet at h
    unfold wpList
    split
    · rename_i hwant
      rw [if_pos hwant] at h
      exact Or.inl (Oper.wp_of_quiet hw (fun a' w' hw' h' => wpList_of_quiet hQ rest a' w' hw' h') h)
    · rename_i hwant
      rw [if_neg hwant] at h
      exact wpList_of_quiet hQ rest _ w hw h
theorem wpList_later {P : Program} {ops : Array Oper} {Q : Exit → Act → World → Prop} {l : List Oper} {a : Act} {w : World}
    (h : wpQuiet P ops (fun w' => ∃ p : Later w.heap.size w, w' = p.val) (fun a' => ∀ w', (∃ p : Later w.heap.size w, w' = p.val) → Q .normal a' w') l a) : wpList P ops Q l a w :=
  wpList_of_quiet (fun a' w' hw' h' => h' w' hw') l a w ⟨⟨w, Below.refl _ _⟩, rfl⟩ h

end Go.Proofs.YtdhdfngaldfdjaaDoor.V
