/-
  Disks: made; files read.
-/
import Derived.Test.YtfmigkmkdhciiaaKT
import Derived.Test.YtfmigkmkdhciiaaKY
namespace Go.Proofs.Ytfmigkmkdhciiaa.K
set_option linter.unusedVariables false
set_option linter.unusedSimpArgs false
set_option maxRecDepth 100000
open Go Go.RowKit Go.Maps Go.MapKept Go.ChangeMaps

/-- A disk is made: its ghost. -/
theorem made_disk {A : Gh} {w : World} (room : Nat) (hr : room ≤ 16777216) :
    ∃ A', Ext none_ noX A w A' (((w.alloc (.map #[] 0)).alloc (.map #[] 0)).alloc (.cells (dcells room (.map (some w.heap.size)) (.map (some (w.heap.size + 1))) (.slice none 0 0) 0 noFuse false) 46)) ∧
      DiskAt A' (((w.alloc (.map #[] 0)).alloc (.map #[] 0)).alloc (.cells (dcells room (.map (some w.heap.size)) (.map (some (w.heap.size + 1))) (.slice none 0 0) 0 noFuse false) 46)) (w.heap.size + 2) (new room) := by
  obtain ⟨W, hW⟩ : ∃ W, ((w.alloc (.map #[] 0)).alloc (.map #[] 0)).alloc (.cells (dcells room (.map (some w.heap.size)) (.map (some (w.heap.size + 1))) (.slice none 0 0) 0 noFuse false) 46) = W := ⟨_, rfl⟩
  have e1 : (w.alloc (.map #[] 0)).heap.size = w.heap.size + 1 := by simp
  have e2 : ((w.alloc (.map #[] 0)).alloc (.map #[] 0)).heap.size = w.heap.size + 2 := by simp
  have e3 : W.heap.size = w.heap.size + 3 := by rw [← hW]; simp
  have hB : Below w.heap.size w W := by rw [← hW]; exact (((Below.refl _ w).alloc (Nat.le_refl _) _).alloc (by omega) _).alloc (by omega) _
  have m1 : MapAt W w.heap.size 0 (fun _ => none) := by
    rw [← hW]
    exact ((map_made w).keep (w' := (w.alloc (.map #[] 0)).alloc (.map #[] 0)) (Below.heap_alloc _ _ _ (by omega))).keep (Below.heap_alloc _ _ _ (by omega))
  have m2 : MapAt W (w.heap.size + 1) 0 (fun _ => none) := by
    have := map_made (w.alloc (.map #[] 0))
    rw [e1] at this
    rw [← hW]
    exact this.keep (Below.heap_alloc _ _ _ (by omega))
  have hc : W.heap[w.heap.size + 2]? = some (.cells (dcells room (.map (some w.heap.size)) (.map (some (w.heap.size + 1))) (.slice none 0 0) 0 noFuse false) 46 (0, 0)) := by
    have := heap_last ((w.alloc (.map #[] 0)).alloc (.map #[] 0)) (.cells (dcells room (.map (some w.heap.size)) (.map (some (w.heap.size + 1))) (.slice none 0 0) 0 noFuse false) 46)
    rw [e2, hW] at this
    exact this
  rw [hW]
  obtain ⟨A', hA⟩ : ∃ A' : Gh, A' = fun b => if b = w.heap.size then .fixed else if b = w.heap.size + 1 then .own (2 * (w.heap.size + 2)) 0 else if b = w.heap.size + 2 then .own (2 * (w.heap.size + 2) + 1) 0 else A b := ⟨_, rfl⟩
  have a0 : A' w.heap.size = .fixed := by rw [hA]; simp
  have a1 : A' (w.heap.size + 1) = .own (2 * (w.heap.size + 2)) 0 := by rw [hA]; simp
  have a2 : A' (w.heap.size + 2) = .own (2 * (w.heap.size + 2) + 1) 0 := by rw [hA]; simp
  have ao : ∀ b, b < w.heap.size → A' b = A b := fun b hb => by rw [hA]; dsimp only; rw [if_neg (by omega), if_neg (by omega), if_neg (by omega)]
  have ah : ∀ b, w.heap.size + 3 ≤ b → A' b = A b := fun b hb => by rw [hA]; dsimp only; rw [if_neg (by omega), if_neg (by omega), if_neg (by omega)]
  have hE : Ext none_ noX A w A' W := by
    refine Ext.new hB ao (fun b hb hf => ?_) (fun b t g hb he => ?_)
    · by_cases h3 : w.heap.size + 3 ≤ b
      · rw [ah b h3] at hf; exact .inl hf
      · right; omega
    · by_cases h3 : w.heap.size + 3 ≤ b
      · rw [ah b h3] at he; exact .inl he
      · right
        have : b = w.heap.size ∨ b = w.heap.size + 1 ∨ b = w.heap.size + 2 := by omega
        rcases this with rfl | rfl | rfl
        · rw [a0] at he; cases he
        · rw [a1] at he; cases he; omega
        · rw [a2] at he; cases he; omega
  have hF : ∀ m, MapAt W m 0 (fun _ => none) → Files (2 * (w.heap.size + 2)) A' W m [] (fun _ => none) := fun m hm =>
    ⟨List.Pairwise.nil, hm, ⟨fun p hp => by simp at hp, fun s hs => rfl⟩, fun s c hc => by simp [get] at hc, fun s v _ h => by simp at h, fun s s' g n cap n' cap' _ _ h => by simp at h⟩
  refine ⟨A', hE, ⟨w.heap.size, w.heap.size + 1, .slice none 0 0, [], fun _ => none, fun _ => none⟩, hc, ⟨a2, a0, ⟨0, a1⟩, fun s v h => by simp at h, hF _ m1, hF _ m2, .inl ⟨rfl, rfl⟩, rfl, fun i x us hx => by simp at hx⟩, new_ok room, Nat.le_refl _, hr, Nat.zero_le _⟩

theorem disk_New {A : Gh} {w : World} (room : Nat) (hr : room ≤ 16777216) :
    Calls Try.prog 5 #[.int .i64 (room : Int)] w fun e w' => ∃ p, e = .returned (.tuple #[.pointer (some ⟨p, 0, none⟩), .int .i64 0]) ∧ w.heap.size ≤ p ∧ ∃ A', Ext none_ noX A w A' w' ∧ DiskAt A' w' p (new room) := by
  have hfin := made_disk (A := A) (w := w) room hr
  have h0 : ¬ (room : Int) < 0 := by omega
  have hmm : ∀ W : World, (Instr.makeMap 43 none).run Try.prog W = .ok (.map (some W.heap.size)) (W.alloc (.map #[] 0)) := fun W => by
    simp [Instr.makeMap, run_underlying Try.underlying43, asInt, asIntOf]
  go_enter Try.func5, Try.ntmps5
  go_wp2
  go_ret2
  obtain ⟨A', h1, h2⟩ := hfin
  exact ⟨w.heap.size + 2, by rfl, by omega, A', h1, h2⟩
end Go.Proofs.Ytfmigkmkdhciiaa.K
