/-
  The document's disk that has nothing: units are added.
-/
import Derived.Test.YtfmigkmkdhciiaaKRg
namespace Go.Proofs.Ytfmigkmkdhciiaa.K
set_option linter.unusedVariables false
set_option linter.unusedSimpArgs false
set_option maxRecDepth 100000
open Go Go.RowKit Go.Maps Go.MapKept Go.ChangeMaps

theorem infoUnit : (Try.prog.info? 85).map (fun i => (i.zero, i.size, i.bytes)) = some (some (.agg #[.int .i64 0, .string ByteArray.empty, .string ByteArray.empty, .int .u8 0]), 4, 48) := by kernel_rfl
attribute [-go_sem] Go.Builtin.append_
theorem ref_more (w : World) (g cap : Nat) (k : Int) (n m : Value) (c : Int) (hg : ∀ (j : Nat) (u : Value), [Value.int .i64 k, n, m, .int .u8 c][j]? = some u → w.cell? ⟨g, j, none⟩ = some u) : Calls Try.prog 48 #[.agg #[.int .i64 0, .slice none 0 0, .slice none 0 0, .bool false, .int .i64 0, .bool false], .slice (some ⟨g, 0, none⟩) 1 cap] w (RefRet w) := by
  have h2 := two_made w
  obtain ⟨W, hW⟩ : ∃ W, ((w.alloc (.cells #[.int .i64 0, .slice none 0 0, .slice none 0 0, .bool false, .int .i64 0, .bool false] 32)).alloc (.cells #[.int .i64 0, .slice none 0 0, .slice none 0 0, .bool false, .int .i64 0, .bool false] 32)) = W := ⟨_, rfl⟩
  rw [hW] at h2
  obtain ⟨i0, hi, hz0, hz1, hz2⟩ := info_parts infoUnit
  obtain ⟨V, hV⟩ : ∃ V, W.alloc (.cells #[] 85) = V := ⟨_, rfl⟩
  have hbV : Below W.heap.size W V := by rw [← hV]; exact (Below.refl _ W).alloc (Nat.le_refl _) _
  have h2V := h2.next hbV
  have hr1 : (Builtin.append_ #[30, 30] 30 #[.slice (some ⟨W.heap.size, 0, none⟩) 0 0, .slice none 0 0]).run Try.prog V = .ok (.slice (some ⟨W.heap.size, 0, none⟩) 0 0) V := by
    simp [Builtin.append_, run_underlying Try.underlying30, sizeOf, typeInfo, hi, Builtin.lenOf, Builtin.firstCells, storeCells, Addr.add]
  have hnews : ∀ (j : Nat) (u : Value), [Value.int .i64 k, n, m, .int .u8 c][j]? = some u → V.cell? ((⟨g, 0, none⟩ : Addr).add j) = some u := by
    intro j u hu
    rw [add0]
    have := hg j u hu
    have h3 := h2V.below.cell (p := ⟨g, j, none⟩) (World.block_lt_of_cell? w _ this)
    exact h3.trans this
  have hr2 := run_append_grow (P := Try.prog) V 30 30 85 i0 _ Try.underlying30 hi hz0 ⟨W.heap.size, 0, none⟩ 0 0 [] (by simp) (fun j v h => by simp at h) ⟨g, 0, none⟩ 1 cap _ (by rw [hz1]; rfl) hnews (by omega) (by omega)
    (by rw [hz2, Nat.zero_add, nextslicecap_zero (by omega)]; omega)
  obtain ⟨X, hX⟩ : ∃ X, V.drew.alloc (.cells ([].toArray ++ [Value.int .i64 k, n, m, .int .u8 c].toArray ++ Builtin.zeroCells (Value.agg #[.int .i64 0, .string ByteArray.empty, .string ByteArray.empty, .int .u8 0]).cells (grownCap V (0 + 1) 0 85 - (0 + 1))) 85) = X := ⟨_, rfl⟩
  have hbX : Below V.heap.size V X := by rw [← hX]; exact ((Below.refl _ V).drew).alloc (by simp) _
  have h2X := h2V.next hbX
  rw [hX] at hr2
  obtain ⟨cp, hcp⟩ : ∃ cp, grownCap V (0 + 1) 0 85 = cp := ⟨_, rfl⟩
  rw [hcp] at hr2
  have hr3 : (Builtin.append_ #[30, 30] 30 #[.slice (some ⟨W.heap.size, 0, none⟩) 0 0, .slice (some ⟨g, 0, none⟩) 1 cap]).run Try.prog V = .ok (.slice (some ⟨V.heap.size, 0, none⟩) 1 cp) X := hr2
  have eW : ∀ i, W.cell? ⟨w.heap.size, i, none⟩ = (#[.int .i64 0, .slice none 0 0, .slice none 0 0, .bool false, .int .i64 0, .bool false] : Array Value)[i]? := fun i => (h2.cells i).1
  have eV : V.cell? ⟨w.heap.size, 2, none⟩ = some (.slice none 0 0) := (h2V.cells 2).1
  have h2 := h2X
  have a0 := (h2.cells 0).1; have b0 := (h2.cells 0).2.1; have f0 := (h2.cells 0).2.2.1; have g0 := (h2.cells 0).2.2.2; have a1 := (h2.cells 1).1; have b1 := (h2.cells 1).2.1; have f1 := (h2.cells 1).2.2.1; have g1 := (h2.cells 1).2.2.2; have a2 := (h2.cells 2).1; have b2 := (h2.cells 2).2.1; have f2 := (h2.cells 2).2.2.1; have g2 := (h2.cells 2).2.2.2; have a3 := (h2.cells 3).1; have b3 := (h2.cells 3).2.1; have f3 := (h2.cells 3).2.2.1; have g3 := (h2.cells 3).2.2.2; have a4 := (h2.cells 4).1; have b4 := (h2.cells 4).2.1; have f4 := (h2.cells 4).2.2.1; have g4 := (h2.cells 4).2.2.2; have a5 := (h2.cells 5).1; have b5 := (h2.cells 5).2.1; have f5 := (h2.cells 5).2.2.1; have g5 := (h2.cells 5).2.2.2; simp only [List.getElem?_toArray, List.getElem?_cons_zero, List.getElem?_cons_succ] at a0 b0 a1 b1 a2 b2 a3 b3 a4 b4 a5 b5
  clear hr2 hX hcp hbX h2V hbV hnews hg hi hz0 hz1 hz2 eW
  have eS : W.heap.size = w.heap.size + 1 + 1 := by rw [← hW]; simp
  rw [eS] at hr1 hr3
  obtain ⟨sb, hsb⟩ : ∃ sb, V.heap.size = sb := ⟨_, rfl⟩
  rw [hsb] at hr3
  rw [← hV] at hr1 hr3 eV
  rw [← hW] at hr1 hr3 eV
  clear hV hW hsb eS
  go_enter Try.func48, Try.ntmps48
  go_wp2
  have q1 : (X.setCell ⟨w.heap.size, 2, none⟩ (.slice (some ⟨sb, 0, none⟩) 1 cp)).heap[w.heap.size + 1]? = some (.cells #[.int .i64 0, .slice none 0 0, .slice none 0 0, .bool false, .int .i64 0, .bool false] 32 (0, 0)) := by
    rw [Below.heap_setCell _ _ _ _ (by simp)]
    exact h2.h1
  obtain ⟨e1, e2⟩ := Two.six q1 (h2.below.setCell (Nat.le_refl _) _) (.int .i64 0) (.slice none 0 0) (.slice (some ⟨sb, 0, none⟩) 1 cp) (.bool false) (.int .i64 0) (.bool false)
  refine bodyPost_ret (results_row_tmp rfl _ _ (w.heap.size + 1) _ _ _ _ _ rfl rfl e1 Try.underlying32 rfl (by kernel_rfl)) rfl ?_
  exact ⟨⟨_, _, _, _, _, _, _, _, _, _, _, rfl⟩, e2⟩
end Go.Proofs.Ytfmigkmkdhciiaa.K
