/-
  Contracts of the document's record: what is read.
-/
import Derived.Test.YtcioomlhdaihkaaGreatDoorRP
namespace Go.Proofs.YtcioomlhdaihkaaGreatDoor.Q
set_option linter.unusedVariables false
set_option linter.unusedSimpArgs false
set_option maxRecDepth 100000
open Go Go.RowKit Wire

set_option maxRecDepth 100000
set_option linter.unusedVariables false
set_option linter.unusedSimpArgs false
theorem prefix_is (x y : Bs) : x.isPrefixOf y = (decide (x.length ≤ y.length) && decide (y.take x.length = x)) := by
  rw [Bool.eq_iff_iff, List.isPrefixOf_iff_prefix, Bool.and_eq_true, decide_eq_true_eq, decide_eq_true_eq]
  constructor
  · rintro ⟨t, rfl⟩
    exact ⟨by simp, List.take_left⟩
  · rintro ⟨_, h⟩
    exact ⟨y.drop x.length, by conv => lhs; arg 1; rw [← h]
                               exact List.take_append_drop _ _⟩
theorem beq_ba (a b : Bs) : ((ba a).toList == (ba b).toList) = decide (a = b) := by rw [beq_lists, ba_list, ba_list]

/-! ### The length's bytes -/
end Go.Proofs.YtcioomlhdaihkaaGreatDoor.Q
