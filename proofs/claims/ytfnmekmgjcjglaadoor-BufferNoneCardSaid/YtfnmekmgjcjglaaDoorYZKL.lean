/-
  maps.Clone at maps of operations: the library's contract, laid at this program's numbers (in plain words, by the kit's lay-plain.mjs).
-/
import Derived.Shelf.SlMaps.Clone
import Derived.Ground.SlmcProg
import Derived.Test.YtfnmekmgjcjglaaDoorProg
namespace Go.Proofs.YtfnmekmgjcjglaaDoor.V
set_option linter.unusedVariables false
set_option linter.unusedSimpArgs false
open Go Go.Shelf
def cloneM_ren : Go.Shelf.Ren := ⟨fun | 5 => 26 | 7 => 41 | n => n, fun | 23 => 58 | 25 => 46 | 3 => 50 | 4 => 4 | 20 => 20 | n => n, fun | n => n⟩
end Go.Proofs.YtfnmekmgjcjglaaDoor.V
