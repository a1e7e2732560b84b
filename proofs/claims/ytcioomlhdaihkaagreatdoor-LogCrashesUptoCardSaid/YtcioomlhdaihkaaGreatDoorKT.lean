/-
  Disks: files removed, renamed.
-/
import Derived.Test.YtcioomlhdaihkaaGreatDoorKN
import Derived.Great.BuildSlice
namespace Go.Proofs.YtcioomlhdaihkaaGreatDoor.K
set_option linter.unusedVariables false
set_option linter.unusedSimpArgs false
set_option maxRecDepth 100000
open Go Go.RowKit Go.Maps Go.MapKept Go.ChangeMaps

set_option maxRecDepth 100000
set_option linter.unusedVariables false
set_option linter.unusedSimpArgs false
theorem strs1 (w : World) (n : Str) (W : World) (hW : w.alloc (.cells #[strV n] 9) = W) : Below w.heap.size w W ∧ StrsAt W (.slice (some ⟨w.heap.size, 0, none⟩) 1 1) [n] := by
  subst hW
  refine ⟨(Below.refl _ w).alloc (Nat.le_refl _) _, .inr ⟨w.heap.size, 1, rfl, by simp, fun i s hi => ?_⟩⟩
  cases i with
  | zero => simp at hi; subst hi; exact cell_new w _ _ 0
  | succ i => simp at hi
theorem strs2 (w : World) (n k : Str) (W : World) (hW : w.alloc (.cells #[strV n, strV k] 9) = W) : Below w.heap.size w W ∧ StrsAt W (.slice (some ⟨w.heap.size, 0, none⟩) 2 2) [n, k] := by
  subst hW
  refine ⟨(Below.refl _ w).alloc (Nat.le_refl _) _, .inr ⟨w.heap.size, 2, rfl, by simp, fun i s hi => ?_⟩⟩
  match i with
  | 0 => simp at hi; subst hi; exact cell_new w _ _ 0
  | 1 => simp at hi; subst hi; exact cell_new w _ _ 1
  | i + 2 => simp at hi
/-- Only the state, not the world before, counts. -/
theorem Done.after {A : Gh} {w w1 : World} {p : Nat} {s : St} {w' : World} (hB : Below w.heap.size w w1) (h : Done A w1 p s w') : Done A w p s w' := by
  obtain ⟨A', hE, hD⟩ := h
  exact ⟨A', (Ext.of_below hB).trans hE, hD⟩
theorem Done.afterE {A B : Gh} {w w1 : World} {p : Nat} {s : St} {w' : World} (hB : Ext none_ noX A w B w1) (h : Done B w1 p s w') : Done A w p s w' := by
  obtain ⟨A', hE, hD⟩ := h
  exact ⟨A', (hB.mono0 (fun t h => h.elim)).trans hE, hD⟩
theorem seen_isSome {A : Gh} {w : World} {p : Nat} {s : St} {k : Dk} (hd : DiskIn A w p s k) {n : Str} (hn : n.length ≤ 1099511627776) : (k.fV n).isSome = (K.get s.seen n).isSome := hd.parts.seen.same.2 n (by unfold maxLen; omega)

set_option maxHeartbeats 2000000 in
theorem disk_Remove {A : Gh} {w : World} {p : Nat} {s : St} (hd : DiskAt A w p s) (hdom : Dom A w) (n : Str) (hn : n.length ≤ 1099511627776) (hlim : s.lim + 2 ≤ 549755813888) (hst : s.steps.length ≤ 549755813888) :
    Calls Tryz.prog 60 #[.pointer (some ⟨p, 0, none⟩), strV n] w fun e w' => e = .returned (.int .i64 ((s.remove n).2 : Int)) ∧ Done A w p (s.remove n).1 w' := by
  obtain ⟨W, hW⟩ : ∃ W, w.alloc (.cells #[strV n] 9) = W := ⟨_, rfl⟩
  obtain ⟨hB, hS⟩ := strs1 w n W hW
  obtain ⟨k, hd⟩ := hd
  have hdW := hd.below hB
  have hdomW : Dom A W := (Ext.of_below (T := none_) (X := noX) hB).dom hdom
  have hR := disk_refuses hdW hS (by simp) (fun x hx => by simp at hx; subst hx; exact hn)
  have hself : Done A w p s W := ⟨A, Ext.of_below hB, k, hdW⟩
  have h2 : W.cell? ⟨p, 2, none⟩ = some (.map (some k.mv)) := cell_row hdW.cells 2
  have hlook := hdW.parts.seen.map.look_ok (s := n) (by unfold maxLen; omega)
  have hsome := seen_isSome hdW hn
  clear hd hS
  by_cases hr : s.refuse [n] = 0
  · have hdn : s.down = false := St.refuse_down (by simpa using hr)
    rw [hr] at hR
    cases hg : (K.get s.seen n).isSome with
    | false =>
      have e1 : s.remove n = (s, 7) := by unfold St.remove; rw [if_neg (by simpa using hr), if_pos hg]
      rw [e1]
      rw [hsome, hg] at hlook
      clear e1 hdomW hdW hsome
      subst hW
      go_enter Tryz.func60, Tryz.ntmps60
      go_wp2_with (go_at_call 52; refine hR.mono ?_; rintro e w' ⟨rfl, rfl⟩)
      go_ret
      exact ⟨rfl, hself⟩
    | true =>
      have e1 : s.remove n = (s.act [.del n], s.actE [.del n]) := by unfold St.remove; rw [if_neg (by simpa using hr), if_neg (by rw [hg]; decide)]
      rw [e1]
      rw [hsome, hg] at hlook
      have hclone := clone_str n hn W
      have hfin : ∀ w1 : World, Below W.heap.size W w1 → ∀ (ff : Fn) (fa fb : Array Value) (A' : Gh) (w2 : World), Ext none_ noX A w1 A' w2 → StepAt A' w2 (.func ff fa fb) [.del n] →
          Calls Tryz.prog 54 #[.pointer (some ⟨p, 0, none⟩), .int .i64 1, .func ff fa fb] w2 fun e w' => e = .returned (.int .i64 (s.actE [.del n] : Int)) ∧ Done A w p (s.act [.del n]) w' := by
        intro w1 hB1 ff fa fb A' w2 hE hx
        have hE1 : Ext none_ noX A W A' w2 := (Ext.of_below hB1).trans hE
        have hdo := disk_do (us := [U.del n]) (hdW.ext hE1 (fun h => h) (fun h => h) |> fun h => (⟨k, h⟩ : DiskAt A' w2 p s)) (hE1.dom hdomW) hdn hx (by simpa using hlim) hst
        refine hdo.mono ?_
        rintro e w' ⟨rfl, hD⟩
        exact ⟨rfl, (hD.afterE hE1).after hB⟩
      have HF := Lib.hid hfin
      clear e1 hdomW hdW hsome hfin hB
      subst hW
      go_enter Tryz.func60, Tryz.ntmps60
      go_wp2_with (first
        | (go_at_call 52; refine hR.mono ?_; rintro e w' ⟨rfl, rfl⟩)
        | (go_at_call 31; refine hclone.mono ?_; rintro e w1 ⟨rfl, hB1⟩; have HB1 := Lib.hid hB1; clear hB1)
        | (go_at_call 88; refine (made_removing A _ n hn).mono ?_; rintro e w2 ⟨ff, fa, fb, A', rfl, hE, hx⟩; have hdo := HF.out _ HB1.out ff fa fb A' w2 hE hx; clear hE hx)
        | (go_at_call 54; refine hdo.mono ?_; rintro e w' ⟨rfl, hD⟩))
      go_ret
      exact ⟨rfl, hD⟩
  · have e1 : s.remove n = (s, s.refuse [n]) := by unfold St.remove; rw [if_pos hr]
    rw [e1]
    have hr2 : ((s.refuse [n] : Nat) : Int) = 2 ∨ ((s.refuse [n] : Nat) : Int) = 70 := by unfold St.refuse at hr ⊢; split <;> (try split) <;> simp_all
    clear e1 hdomW hdW hsome hlook h2
    subst hW
    rcases hr2 with hr2 | hr2
    · have HR2 := Lib.hid hr2
      rw [hr2] at hR
      clear hr2 hr
      go_enter Tryz.func60, Tryz.ntmps60
      go_wp2_with (go_at_call 52; refine hR.mono ?_; rintro e w' ⟨rfl, rfl⟩)
      go_ret
      exact ⟨by rw [HR2.out]; rfl, hself⟩
    · have HR2 := Lib.hid hr2
      rw [hr2] at hR
      clear hr2 hr
      go_enter Tryz.func60, Tryz.ntmps60
      go_wp2_with (go_at_call 52; refine hR.mono ?_; rintro e w' ⟨rfl, rfl⟩)
      go_ret
      exact ⟨by rw [HR2.out]; rfl, hself⟩
set_option maxHeartbeats 2000000 in
theorem disk_Rename {A : Gh} {w : World} {p : Nat} {s : St} (hd : DiskAt A w p s) (hdom : Dom A w) (n m : Str) (hn : n.length ≤ 1099511627776) (hm : m.length ≤ 1099511627776) (hlim : s.lim + 2 ≤ 549755813888) (hst : s.steps.length ≤ 549755813888) :
    Calls Tryz.prog 38 #[.pointer (some ⟨p, 0, none⟩), strV n, strV m] w fun e w' => e = .returned (.int .i64 ((s.rename n m).2 : Int)) ∧ Done A w p (s.rename n m).1 w' := by
  obtain ⟨W, hW⟩ : ∃ W, w.alloc (.cells #[strV n, strV m] 9) = W := ⟨_, rfl⟩
  obtain ⟨hB, hS⟩ := strs2 w n m W hW
  obtain ⟨k, hd⟩ := hd
  have hdW := hd.below hB
  have hdomW : Dom A W := (Ext.of_below (T := none_) (X := noX) hB).dom hdom
  have hR := disk_refuses hdW hS (by simp) (fun x hx => by simp at hx; rcases hx with rfl | rfl; exact hn; exact hm)
  have hself : Done A w p s W := ⟨A, Ext.of_below hB, k, hdW⟩
  have h2 : W.cell? ⟨p, 2, none⟩ = some (.map (some k.mv)) := cell_row hdW.cells 2
  have hlook := hdW.parts.seen.map.look_ok (s := n) (by unfold maxLen; omega)
  have hsome := seen_isSome hdW hn
  clear hd hS
  by_cases hr : s.refuse [n, m] = 0
  · have hdn : s.down = false := St.refuse_down (by simpa using hr)
    rw [hr] at hR
    cases hg : (K.get s.seen n).isSome with
    | false =>
      have e1 : s.rename n m = (s, 7) := by unfold St.rename; rw [if_neg (by simpa using hr), if_pos hg]
      rw [e1]
      rw [hsome, hg] at hlook
      clear e1 hdomW hdW hsome
      subst hW
      go_enter Tryz.func38, Tryz.ntmps38
      go_wp2_with (go_at_call 52; refine hR.mono ?_; rintro e w' ⟨rfl, rfl⟩)
      go_ret
      exact ⟨rfl, hself⟩
    | true =>
      have e1 : s.rename n m = (s.act [.ren n m], s.actE [.ren n m]) := by unfold St.rename; rw [if_neg (by simpa using hr), if_neg (by rw [hg]; decide)]
      rw [e1]
      rw [hsome, hg] at hlook
      have hclone := clone_str n hn W
      have hclone2 : ∀ w1, Calls Tryz.prog 31 #[strV m] w1 fun e w' => e = .returned (strV m) ∧ Below w1.heap.size w1 w' := fun w1 => clone_str m hm w1
      have hfin : ∀ w1 : World, Below W.heap.size W w1 → ∀ (ff : Fn) (fa fb : Array Value) (A' : Gh) (w2 : World), Ext none_ noX A w1 A' w2 → StepAt A' w2 (.func ff fa fb) [.ren n m] →
          Calls Tryz.prog 54 #[.pointer (some ⟨p, 0, none⟩), .int .i64 1, .func ff fa fb] w2 fun e w' => e = .returned (.int .i64 (s.actE [.ren n m] : Int)) ∧ Done A w p (s.act [.ren n m]) w' := by
        intro w1 hB1 ff fa fb A' w2 hE hx
        have hE1 : Ext none_ noX A W A' w2 := (Ext.of_below hB1).trans hE
        have hdo := disk_do (us := [U.ren n m]) (hdW.ext hE1 (fun h => h) (fun h => h) |> fun h => (⟨k, h⟩ : DiskAt A' w2 p s)) (hE1.dom hdomW) hdn hx (by simpa using hlim) hst
        refine hdo.mono ?_
        rintro e w' ⟨rfl, hD⟩
        exact ⟨rfl, (hD.afterE hE1).after hB⟩
      have HF := Lib.hid hfin
      clear e1 hdomW hdW hsome hfin hB
      subst hW
      go_enter Tryz.func38, Tryz.ntmps38
      go_wp2_with (first
        | (go_at_call 52; refine hR.mono ?_; rintro e w' ⟨rfl, rfl⟩)
        | (go_at_call 31; refine hclone.mono ?_; rintro e w1 ⟨rfl, hB1⟩; have HB0 := Lib.hid hB1; clear hB1 hclone)
        | (go_at_call 31; refine (hclone2 _).mono ?_; rintro e w2 ⟨rfl, hB1⟩; have HB1 := Lib.hid (HB0.out.trans (hB1.mono HB0.out.size)); clear hB1)
        | (go_at_call 61; refine (made_renaming A _ n m hn hm).mono ?_; rintro e w2 ⟨ff, fa, fb, A', rfl, hE, hx⟩; have hdo := HF.out _ HB1.out ff fa fb A' w2 hE hx; clear hE hx)
        | (go_at_call 54; refine hdo.mono ?_; rintro e w' ⟨rfl, hD⟩))
      go_ret
      exact ⟨rfl, hD⟩
  · have e1 : s.rename n m = (s, s.refuse [n, m]) := by unfold St.rename; rw [if_pos hr]
    rw [e1]
    have hr2 : ((s.refuse [n, m] : Nat) : Int) = 2 ∨ ((s.refuse [n, m] : Nat) : Int) = 70 := by unfold St.refuse at hr ⊢; split <;> (try split) <;> simp_all
    clear e1 hdomW hdW hsome hlook h2
    subst hW
    rcases hr2 with hr2 | hr2
    · have HR2 := Lib.hid hr2
      rw [hr2] at hR
      clear hr2 hr
      go_enter Tryz.func38, Tryz.ntmps38
      go_wp2_with (go_at_call 52; refine hR.mono ?_; rintro e w' ⟨rfl, rfl⟩)
      go_ret
      exact ⟨by rw [HR2.out]; rfl, hself⟩
    · have HR2 := Lib.hid hr2
      rw [hr2] at hR
      clear hr2 hr
      go_enter Tryz.func38, Tryz.ntmps38
      go_wp2_with (go_at_call 52; refine hR.mono ?_; rintro e w' ⟨rfl, rfl⟩)
      go_ret
      exact ⟨by rw [HR2.out]; rfl, hself⟩
end Go.Proofs.YtcioomlhdaihkaaGreatDoor.K
