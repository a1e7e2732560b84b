/-
  Disks: the steps' functions are made.
-/
import Derived.Test.YtcioomlhdaihkaaGreatDoorKO
namespace Go.Proofs.YtcioomlhdaihkaaGreatDoor.K
set_option linter.unusedVariables false
set_option linter.unusedSimpArgs false
set_option maxRecDepth 100000
open Go Go.RowKit Go.Maps Go.MapKept Go.ChangeMaps

set_option maxRecDepth 100000
set_option linter.unusedVariables false
set_option linter.unusedSimpArgs false
def fixG (A : Gh) (lo hi : Nat) : Gh := fun b => if lo ≤ b ∧ b < hi then .fixed else A b
theorem fixG_in (A : Gh) {lo hi b : Nat} (h1 : lo ≤ b) (h2 : b < hi) : fixG A lo hi b = .fixed := by unfold fixG; rw [if_pos ⟨h1, h2⟩]
theorem fixG_out (A : Gh) {lo hi b : Nat} (h1 : b < lo) : fixG A lo hi b = A b := by unfold fixG; rw [if_neg (by omega)]
/-- New blocks stay as they are from now on. -/
theorem Ext.fix {T X : Nat → Prop} {A : Gh} {w w' : World} (h : Below w.heap.size w w') : Ext T X A w (fixG A w.heap.size w'.heap.size) w' :=
  Ext.new h (fun b hb => fixG_out A hb) (fun b hb hf => by
    by_cases hlt : b < w'.heap.size
    · exact .inr hlt
    · unfold fixG at hf; rw [if_neg (by omega)] at hf; exact .inl hf) (fun b t g hb he => by
    by_cases hlt : b < w'.heap.size
    · rw [fixG_in A hb hlt] at he; cases he
    · unfold fixG at he; rw [if_neg (by omega)] at he; exact .inl he)

/-- A step's function is made. -/
abbrev Made (A : Gh) (w : World) (us : List U) (e : Ending) (w' : World) : Prop := ∃ ff fa fb A', e = .returned (.func ff fa fb) ∧ Ext none_ noX A w A' w' ∧ StepAt A' w' (.func ff fa fb) us

theorem box3 (w : World) (a b c : Value) (ta tb tc : TypeId) : ∀ W, ((w.alloc (.cells #[a] ta)).alloc (.cells #[b] tb)).alloc (.cells #[c] tc) = W →
    Below w.heap.size w W ∧ W.heap.size = w.heap.size + 3 ∧ W.cell? ⟨w.heap.size, 0, none⟩ = some a ∧ W.cell? ⟨w.heap.size + 1, 0, none⟩ = some b ∧ W.cell? ⟨w.heap.size + 2, 0, none⟩ = some c := by
  rintro W rfl
  have e1 : (w.alloc (.cells #[a] ta)).heap.size = w.heap.size + 1 := by simp
  have e2 : ((w.alloc (.cells #[a] ta)).alloc (.cells #[b] tb)).heap.size = w.heap.size + 2 := by simp
  refine ⟨(((Below.refl _ w).alloc (Nat.le_refl _) _).alloc (by omega) _).alloc (by omega) _, by simp, ?_, ?_, ?_⟩
  · exact (World.cell?_of_block (a := ⟨w.heap.size, 0, none⟩) (Below.heap_alloc _ _ _ (by show w.heap.size < _; omega))).trans ((World.cell?_of_block (a := ⟨w.heap.size, 0, none⟩) (Below.heap_alloc _ _ _ (by show w.heap.size < _; omega))).trans (cell_new w _ _ 0))
  · have := cell_new (w.alloc (.cells #[a] ta)) #[b] tb 0
    rw [e1] at this
    exact (World.cell?_of_block (a := ⟨w.heap.size + 1, 0, none⟩) (Below.heap_alloc _ _ _ (by show w.heap.size + 1 < _; omega))).trans this
  · have := cell_new ((w.alloc (.cells #[a] ta)).alloc (.cells #[b] tb)) #[c] tc 0
    rwa [e2] at this
theorem box1 (w : World) (a : Value) (ta : TypeId) : ∀ W, w.alloc (.cells #[a] ta) = W → Below w.heap.size w W ∧ W.heap.size = w.heap.size + 1 ∧ W.cell? ⟨w.heap.size, 0, none⟩ = some a := by
  rintro W rfl
  exact ⟨(Below.refl _ w).alloc (Nat.le_refl _) _, by simp, cell_new w _ _ 0⟩

theorem made_appending (A : Gh) (w : World) (n c : Str) (ex : Bool) (hn : n.length ≤ 1099511627776) (hc : c.length ≤ 1099511627776) : Calls Tryz.prog 55 #[strV n, strV c, .bool ex] w (Made A w (appendUs n c ex)) := by
  obtain ⟨W, hW⟩ : ∃ W, ((w.alloc (.cells #[strV n] 9)).alloc (.cells #[strV c] 9)).alloc (.cells #[.bool ex] 4) = W := ⟨_, rfl⟩
  obtain ⟨hB, hs, h1, h2, h3⟩ := box3 w _ _ _ _ _ _ W hW
  have hfin : Made A w (appendUs n c ex) (.returned (.func (.func 81) #[] #[.pointer (some ⟨w.heap.size + 2, 0, none⟩), .pointer (some ⟨w.heap.size, 0, none⟩), .pointer (some ⟨w.heap.size + 1, 0, none⟩)])) W :=
    ⟨_, _, _, _, rfl, Ext.fix hB, .inl ⟨_, ex, _, _, n, c, rfl, h3, fixG_in A (by omega) (by omega), ⟨hn, _, rfl, h1, fixG_in A (by omega) (by omega)⟩, ⟨hc, _, rfl, h2, fixG_in A (by omega) (by omega)⟩, rfl⟩⟩
  clear hB hs h1 h2 h3 hn hc
  subst hW
  go_enter Tryz.func55, Tryz.ntmps55
  go_wp2
  go_ret
  exact hfin

theorem made_single (A : Gh) (w : World) (ff : Fn) (fa fb : Array Value) (u : U) (hu : UnitFix A w (.func ff fa fb) u) : Calls Tryz.prog 89 #[.func ff fa fb] w (Made A w [u]) := by
  obtain ⟨W, hW⟩ : ∃ W, w.alloc (.cells #[.func ff fa fb] 92) = W := ⟨_, rfl⟩
  obtain ⟨hB, hs, h1⟩ := box1 w _ _ W hW
  have hE : Ext none_ noX A w (fixG A w.heap.size W.heap.size) W := Ext.fix hB
  have hfin : Made A w [u] (.returned (.func (.func 117) #[] #[.pointer (some ⟨w.heap.size, 0, none⟩)])) W :=
    ⟨_, _, _, _, rfl, hE, .inr ⟨_, _, u, rfl, h1, fixG_in A (by omega) (by omega), hu.ext hE, rfl⟩⟩
  clear hB hs h1 hu hE
  subst hW
  go_enter Tryz.func89, Tryz.ntmps89
  go_wp2
  go_ret
  exact hfin
theorem Made.after {A B : Gh} {w w1 : World} (hE : Ext none_ noX A w B w1) {us : List U} {e : Ending} {w' : World} (h : Made B w1 us e w') : Made A w us e w' := by
  obtain ⟨ff, fa, fb, A', e, h1, h2⟩ := h
  exact ⟨ff, fa, fb, A', e, hE.trans h1, h2⟩
theorem made_removing (A : Gh) (w : World) (n : Str) (hn : n.length ≤ 1099511627776) : Calls Tryz.prog 88 #[strV n] w (Made A w [.del n]) := by
  obtain ⟨W, hW⟩ : ∃ W, w.alloc (.cells #[strV n] 9) = W := ⟨_, rfl⟩
  obtain ⟨hB, hs, h1⟩ := box1 w _ _ W hW
  have hE : Ext none_ noX A w (fixG A w.heap.size W.heap.size) W := Ext.fix hB
  have hu : UnitFix (fixG A w.heap.size W.heap.size) W (.func (.func 116) #[] #[.pointer (some ⟨w.heap.size, 0, none⟩)]) (.del n) := ⟨_, rfl, hn, _, rfl, h1, fixG_in A (by omega) (by omega)⟩
  have hs1 := made_single _ W _ _ _ _ hu
  have haf : ∀ (e : Ending) (w' : World), Made (fixG A w.heap.size W.heap.size) W [.del n] e w' → Made A w [.del n] e w' := fun e w' h => Made.after hE h
  clear hB hs h1 hu hE
  subst hW
  go_enter Tryz.func88, Tryz.ntmps88
  go_wp2_with (go_at_call 89; refine hs1.mono ?_; rintro e w' h; obtain ⟨ff, fa, fb, A', rfl, h1, h2⟩ := haf e w' h)
  go_ret
  exact ⟨ff, fa, fb, A', by rfl, h1, h2⟩
theorem made_renaming (A : Gh) (w : World) (n k : Str) (hn : n.length ≤ 1099511627776) (hk : k.length ≤ 1099511627776) : Calls Tryz.prog 61 #[strV n, strV k] w (Made A w [.ren n k]) := by
  obtain ⟨V, hV⟩ : ∃ V, w.alloc (.cells #[strV n] 9) = V := ⟨_, rfl⟩
  obtain ⟨hB, hs, h1⟩ := box1 w _ _ V hV
  obtain ⟨W, hW⟩ : ∃ W, V.alloc (.cells #[strV k] 9) = W := ⟨_, rfl⟩
  obtain ⟨hB2, hs2, h2⟩ := box1 V _ _ W hW
  have h3 : W.cell? ⟨w.heap.size, 0, none⟩ = some (strV n) := (World.cell?_of_block (a := ⟨w.heap.size, 0, none⟩) (hB2.block _ (by show w.heap.size < _; omega))).trans h1
  have hB3 : Below w.heap.size w W := hB.trans (hB2.mono (by omega))
  have hE : Ext none_ noX A w (fixG A w.heap.size W.heap.size) W := Ext.fix hB3
  have hu : UnitFix (fixG A w.heap.size W.heap.size) W (.func (.func 90) #[] #[.pointer (some ⟨w.heap.size, 0, none⟩), .pointer (some ⟨w.heap.size + 1, 0, none⟩)]) (.ren n k) :=
    ⟨_, _, rfl, ⟨hn, _, rfl, h3, fixG_in A (by omega) (by omega)⟩, ⟨hk, _, rfl, by rw [← hs]; exact h2, fixG_in A (by omega) (by omega)⟩⟩
  have hs1 := made_single _ W _ _ _ _ hu
  have haf : ∀ (e : Ending) (w' : World), Made (fixG A w.heap.size W.heap.size) W [.ren n k] e w' → Made A w [.ren n k] e w' := fun e w' h => Made.after hE h
  clear hB hB2 hB3 hs hs2 h1 h2 h3 hu hE
  subst hW
  subst hV
  go_enter Tryz.func61, Tryz.ntmps61
  go_wp2_with (go_at_call 89; refine hs1.mono ?_; rintro e w' h; obtain ⟨ff, fa, fb, A', rfl, h1, h2⟩ := haf e w' h)
  go_ret
  exact ⟨ff, fa, fb, A', by rfl, h1, h2⟩
end Go.Proofs.YtcioomlhdaihkaaGreatDoor.K
