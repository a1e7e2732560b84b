/-
  General: a region that draws its order, walked once; the world in which it begins bears a name.
-/
import Derived.Test.YtmjmgjdklhdcdaaHead
import Derived.Test.YtmjmgjdklhdcdaaArg
namespace Go.Proofs.Ytmjmgjdklhdcdaa
set_option linter.unusedVariables false
set_option linter.unusedSimpArgs false
open Go Go.RowKit

theorem wp_region_later_n {P : Program} {id : Nat} {Q : Exit → Act → World → Prop} {a : Act} {w : World} {l : List Oper} (hm : P.follows .mixedOrders = true) (hB : Region.lexB .any l.toArray = true)
    (h : ∀ wd, wd = w → wpQuiet P l.toArray (fun w' => ∃ p : Later wd.heap.size wd, w' = p.val) (fun a' => ∀ w', (∃ p : Later wd.heap.size wd, w' = p.val) → Q .normal a' w') l a) : (Code.region id l.toArray true).wp P Q a w :=
  wp_region_later w.heap.size hm hB (h w rfl)

end Go.Proofs.Ytmjmgjdklhdcdaa
