/-
  Tools of the law OrderBegins: a beginning of a row, vectors compared, sums, a row turned.
-/
import Derived.Test.YtfnmekmgjcjglaaDoorYHQP
namespace Go.Proofs.YtfnmekmgjcjglaaDoor.V
set_option linter.unusedVariables false
set_option linter.unusedSimpArgs false
set_option maxRecDepth 100000
open Go Go.RowKit Go.Maps Wire
set_option maxRecDepth 100000
set_option linter.unusedVariables false
set_option linter.unusedSimpArgs false
def psum (v : Vec) : Nat → Nat
  | 0 => 0
  | r + 1 => psum v r + v r
end Go.Proofs.YtfnmekmgjcjglaaDoor.V
