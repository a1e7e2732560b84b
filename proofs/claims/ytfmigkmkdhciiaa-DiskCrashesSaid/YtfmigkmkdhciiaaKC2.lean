/-
  Disks: steps' rows cloned.
-/
import Derived.Test.YtfmigkmkdhciiaaKG
namespace Go.Proofs.Ytfmigkmkdhciiaa.K
set_option linter.unusedVariables false
set_option linter.unusedSimpArgs false
set_option maxRecDepth 100000
open Go Go.RowKit Go.Maps Go.MapKept Go.ChangeMaps

theorem eqs_nil (W : World) : (binOp .eql 44 (.slice none 0 0) (.slice none 0 0)).run Try.prog W = .ok (.bool true) W := by
  obtain ⟨k, hk⟩ : ∃ k, Op.maxDepth = k + 1 := ⟨Op.maxDepth - 1, by decide⟩
  simp [binOp, Op.equal, hk, Op.equalIn, run_underlying Try.underlying44]
theorem eqs_some (r n cap : Nat) (W : World) : (binOp .eql 44 (.slice (some ⟨r, 0, none⟩) n cap) (.slice none 0 0)).run Try.prog W = .ok (.bool false) W := by
  obtain ⟨k, hk⟩ : ∃ k, Op.maxDepth = k + 1 := ⟨Op.maxDepth - 1, by decide⟩
  simp [binOp, Op.equal, hk, Op.equalIn, run_underlying Try.underlying44]
attribute [-go_sem] Go.Builtin.append_
set_option maxHeartbeats 1000000 in
theorem clone_steps {A : Gh} {w : World} {t t' : Nat} {vs : Value} {xs : List Value} (hR : RowAt t A w vs xs) (hlen : xs.length ≤ 1099511627776) (ht : t' < 2 * w.heap.size) :
    Calls Try.prog 33 #[vs] w fun e w' => ∃ v A', e = .returned v ∧ Ext (fun _ => False) noX A w A' w' ∧ RowAt t' A' w' v xs := by
  rcases hR with ⟨rfl, rfl⟩ | ⟨g, cap, cur, rfl, hcur, hcs, hm, hcap, hA, hcells⟩
  · have hq := eqs_nil w
    go_enter Try.func33, Try.ntmps33
    go_wp2
    go_ret
    exact ⟨_, A, rfl, Ext.refl _ _ _ _, .inl ⟨rfl, rfl⟩⟩
  · have hq := eqs_some g xs.length cap w
    obtain ⟨i0, hi, hz0, hz1, hz2⟩ := info_parts infoSeq
    have zc : ∀ k, (Builtin.zeroCells (Value.nilFunc).cells k).size = k := fun k => by rw [size_zeroCells]; simp [Value.cells, Value.nilFunc]
    obtain ⟨W, hW⟩ : ∃ W, w.alloc (.cells #[] 64) = W := ⟨_, rfl⟩
    have hbw : Below w.heap.size w W := by rw [← hW]; exact (Below.refl _ w).alloc (Nat.le_refl _) _
    have hsz : W.heap.size = w.heap.size + 1 := by rw [← hW]; simp
    have hgl := (Array.getElem?_eq_some_iff.1 hcur).1
    have hcurW := (hbw.block g hgl).trans hcur
    have hnews : ∀ (j : Nat) (u : Value), xs[j]? = some u → W.cell? ((⟨g, 0, none⟩ : Addr).add j) = some u := by
      intro j u hu
      rw [add0, cell_row hcurW]
      exact hcells j u hu
    have hrun := run_append_grow (P := Try.prog) W 44 44 64 i0 _ Try.underlying44 hi hz0 ⟨w.heap.size, 0, none⟩ 0 0 [] (by simp) (fun j v h => by simp at h) ⟨g, 0, none⟩ xs.length cap xs (by rw [hz1]; simp) hnews (by omega) (by omega)
      (by rw [hz2, Nat.zero_add, nextslicecap_zero hcap.1]; omega)
    rw [Nat.zero_add] at hrun
    have hge := grownCap_ge W xs.length 0 64
    have b1 := seq_new A W.drew t' (grownCap W xs.length 0 64) xs (Builtin.zeroCells (Value.nilFunc).cells (grownCap W xs.length 0 64 - xs.length)) hcap.1 hge (grownCap_le_maxLen W xs.length 0 _ (by unfold maxLen; omega)) (by rw [zc]; omega)
    have he : ([] : List Value).toArray ++ xs.toArray ++ Builtin.zeroCells (Value.nilFunc).cells (grownCap W xs.length 0 64 - xs.length) = xs.toArray ++ Builtin.zeroCells (Value.nilFunc).cells (grownCap W xs.length 0 64 - xs.length) := by simp
    rw [he] at hrun
    obtain ⟨V, hV⟩ : ∃ V, W.drew.alloc (.cells (xs.toArray ++ Builtin.zeroCells (Value.nilFunc).cells (grownCap W xs.length 0 64 - xs.length)) 64) = V := ⟨_, rfl⟩
    have hEV : Ext (fun _ => False) noX A w (setG A W.drew.heap.size (.own t' 0)) V := by
      have h1 : Ext (fun _ => False) noX A w A W := Ext.of_below hbw
      rw [← hV]
      refine h1.trans (Ext.newG ((Below.refl _ W).drew.alloc (Nat.le_refl _) _) (Nat.le_refl _) (by simp) _ (fun t g e => by cases e; simp; omega))
    rw [hV] at hrun b1
    rw [← hW] at hrun
    have hfin : ∃ A', Ext (fun _ => False) noX A w A' V ∧ RowAt t' A' V (.slice (some ⟨w.heap.size + 1, 0, none⟩) xs.length (grownCap (w.alloc (.cells #[] 64)) xs.length 0 64)) xs := by
      rw [hW]
      refine ⟨_, hEV, ?_⟩
      rw [← hsz]
      exact b1
    clear hEV b1 he hge hnews hcurW hsz hbw hV hW hi hz0 hz1 hz2 zc hcur hcells hcap hm
    go_enter Try.func33, Try.ntmps33
    go_wp2
    go_ret
    obtain ⟨A', h1, h2⟩ := hfin
    exact ⟨_, A', rfl, h1, h2⟩
end Go.Proofs.Ytfmigkmkdhciiaa.K
