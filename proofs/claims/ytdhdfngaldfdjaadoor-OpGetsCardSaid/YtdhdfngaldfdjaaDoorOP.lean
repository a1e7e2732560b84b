/-
  The document's operations of a law's head.
-/
import Derived.Test.YtdhdfngaldfdjaaDoorOM
import Derived.Test.YtdhdfngaldfdjaaDoorON
namespace Go.Proofs.YtdhdfngaldfdjaaDoor.V
set_option linter.unusedVariables false
set_option linter.unusedSimpArgs false
set_option maxRecDepth 100000
open Go Go.RowKit Go.Maps

def genO : OpM := ⟨0, 1, fun _ => 0, 1, 7, 0, 1, 0, 0, 0, 0, 0, 0, 0, 0, 0, 0, 0, 0, 0, 0, .slice none 0 0⟩
def addO : OpM := ⟨0, 2, fun i => if i = 0 then 1 else 0, 2, 7, 0, 1, 3, 0, 1, 0, 0, 0, 0, 0, 0, 0, 0, 5, 3, 100, .slice none 0 0⟩
theorem oneO (o : OpM) (h : o.lv.oneCell' = true) : (oc o).all (·.oneCell') = true := by
  unfold oc
  simp only [Value.oneCell'] at h ⊢
  simp [h]

theorem law_genesis (w : World) : Calls Tryd.prog 29 #[] w fun e w' => e = .returned (.agg (oc genO)) ∧ Below w.heap.size w w' := by
  go_enter Tryd.func29, Tryd.ntmps29
  go_wp2_with (refine wpList_store_row rfl _ _ _ rfl w.heap.size (oc genO) rfl rfl _ _ (heap_alloc_last' _ _) (opSize _) rfl (oneO _ rfl) ?_; rw [World.setRow_alloc_new])
  exact bodyPost_ret (results_cell_row rfl _ _ _ _ _ _ _ rfl (heap_alloc_last' _ _) Tryd.underlying30 rfl (by kernel_rfl)) rfl ⟨rfl, below_al _ _⟩
theorem law_add (w : World) : Calls Tryd.prog 28 #[] w fun e w' => e = .returned (.agg (oc addO)) ∧ Below w.heap.size w w' := by
  go_enter Tryd.func28, Tryd.ntmps28
  go_wp2_with (refine wpList_store_row rfl _ _ _ rfl w.heap.size (oc addO) rfl rfl _ _ (heap_alloc_last' _ _) (opSize _) rfl (oneO _ rfl) ?_; rw [World.setRow_alloc_new])
  exact bodyPost_ret (results_cell_row rfl _ _ _ _ _ _ _ rfl (heap_alloc_last' _ _) Tryd.underlying30 rfl (by kernel_rfl)) rfl ⟨rfl, below_al _ _⟩

end Go.Proofs.YtdhdfngaldfdjaaDoor.V
