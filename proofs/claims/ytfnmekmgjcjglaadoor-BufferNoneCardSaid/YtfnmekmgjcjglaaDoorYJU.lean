/-
  Contracts of the document's answer for package wire: numbers and texts read.
-/
import Derived.Test.YtfnmekmgjcjglaaDoorYJD
import Derived.WalkLawsBesides
namespace Go.Proofs.YtfnmekmgjcjglaaDoor
open Go Go.RowKit Wire
set_option maxRecDepth 100000
set_option linter.unusedVariables false
set_option linter.unusedSimpArgs false
set_option maxRecDepth 100000
set_option linter.unusedVariables false
set_option linter.unusedSimpArgs false
set_option maxRecDepth 100000
set_option linter.unusedVariables false
set_option linter.unusedSimpArgs false
def textRes : St → Nat → Array Value
  | some r, n => if n ≤ r.length then #[.string (ba (r.take n)), .agg #[.string (ba (r.drop n)), .bool true]] else #[.string ⟨#[]⟩, .agg #[.string ⟨#[]⟩, .bool false]]
  | none, _ => #[.string ⟨#[]⟩, .agg #[.string ⟨#[]⟩, .bool false]]
end Go.Proofs.YtfnmekmgjcjglaaDoor
/-
  Contracts of the document's answer for package wire: dots read.
-/
namespace Go.Proofs.YtfnmekmgjcjglaaDoor
open Go Go.RowKit Wire
set_option maxRecDepth 100000
set_option linter.unusedVariables false
set_option linter.unusedSimpArgs false
end Go.Proofs.YtfnmekmgjcjglaaDoor
/-
  Contracts of the document's answer for package wire: vectors read.
-/
namespace Go.Proofs.YtfnmekmgjcjglaaDoor
open Go Go.RowKit Wire
set_option maxRecDepth 100000
set_option linter.unusedVariables false
set_option linter.unusedSimpArgs false
end Go.Proofs.YtfnmekmgjcjglaaDoor
