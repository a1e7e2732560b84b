/-
  Disks: reading, fuses.
-/
import Derived.Test.YtfmigkmkdhciiaaKO
import Derived.Lib.ConvBytes
namespace Go.Proofs.Ytfmigkmkdhciiaa.K
set_option linter.unusedVariables false
set_option linter.unusedSimpArgs false
set_option maxRecDepth 100000
open Go Go.RowKit Go.Maps Go.MapKept Go.ChangeMaps

theorem disk_Fuse {A : Gh} {w : World} {p : Nat} {s : St} (hd : DiskAt A w p s) (k : Int) (hk : k ≤ 9223372036854775807) (hk0 : -9223372036854775808 ≤ k) :
    Calls Try.prog 18 #[.pointer (some ⟨p, 0, none⟩), .int .i64 k] w fun e w' => e = .returned (.int .i64 ((s.fuse k).2 : Int)) ∧ Done A w p (s.fuse k).1 w' := by
  obtain ⟨d, hd⟩ := hd
  have h1 : w.cell? ⟨p, 1, none⟩ = some (.map (some d.ms)) := cell_row hd.cells 1
  have h6 : w.cell? ⟨p, 6, none⟩ = some (.bool s.down) := cell_row hd.cells 6
  have h5 : w.cell? ⟨p, 5, none⟩ = some (.int .i64 (s.left : Int)) := cell_row hd.cells 5
  have hf5 : w.frozen? ⟨p, 5, none⟩ = false := by simp [World.frozen?, hd.cells]
  by_cases hneg : k < 0
  · have e1 : s.fuse k = (s, 2) := by unfold St.fuse; rw [if_pos hneg]
    rw [e1]
    have hfin : Done A w p s w := ⟨A, Ext.refl _ _ _ _, d, hd⟩
    clear e1 hd
    go_enter Try.func18, Try.ntmps18
    go_wp2_with (go_at_call 28; refine (none_some p _ _ h1).mono ?_; rintro e w' ⟨rfl, rfl⟩)
    go_ret
    exact ⟨rfl, hfin⟩
  · cases hdn : s.down with
    | true =>
      have e1 : s.fuse k = (s, 70) := by unfold St.fuse; rw [if_neg hneg, if_pos hdn]
      rw [e1]
      have hfin : Done A w p s w := ⟨A, Ext.refl _ _ _ _, d, hd⟩
      rw [hdn] at h6
      clear e1 hd
      go_enter Try.func18, Try.ntmps18
      go_wp2_with (go_at_call 28; refine (none_some p _ _ h1).mono ?_; rintro e w' ⟨rfl, rfl⟩)
      go_ret
      exact ⟨rfl, hfin⟩
    | false =>
      have e1 : s.fuse k = ({ s with left := k.toNat }, 0) := by unfold St.fuse; rw [if_neg hneg, hdn]; rfl
      rw [e1]
      have hkn : ((k.toNat : Nat) : Int) = k := Int.toNat_of_nonneg (by omega)
      have hfin : Done A w p { s with left := k.toNat } (w.setCell ⟨p, 5, none⟩ (.int .i64 k)) := by
        obtain ⟨hE, hD⟩ := hd.set (w' := w.setCell ⟨p, 5, none⟩ (.int .i64 k)) (s' := { s with left := k.toNat }) rfl rfl rfl (set_size _ _ _) (fun b hb => Below.heap_setCell _ _ _ _ (by simpa using hb)) (by rw [set_row hd.cells _, ← hkn]; rfl) rfl rfl rfl
          ⟨hd.ok.sorted, hd.ok.seen, hd.ok.units, hd.ok.up⟩ (by unfold noFuse; show k.toNat ≤ _; omega) hd.room hd.units
        exact ⟨A, hE.mono0 (fun t h => .inr h), d, hD⟩
      rw [hdn] at h6
      clear e1 hd hkn
      go_enter Try.func18, Try.ntmps18
      go_wp2_with (go_at_call 28; refine (none_some p _ _ h1).mono ?_; rintro e w' ⟨rfl, rfl⟩)
      go_ret
      exact ⟨rfl, hfin⟩
end Go.Proofs.Ytfmigkmkdhciiaa.K
