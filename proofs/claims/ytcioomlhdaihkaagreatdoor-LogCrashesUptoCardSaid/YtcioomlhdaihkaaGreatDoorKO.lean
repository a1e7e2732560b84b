/-
  Disks: a step is done, as far as the fuse goes.
-/
import Derived.Test.YtcioomlhdaihkaaGreatDoorWK3
namespace Go.Proofs.YtcioomlhdaihkaaGreatDoor.K
set_option linter.unusedVariables false
set_option linter.unusedSimpArgs false
set_option maxRecDepth 100000
open Go Go.RowKit Go.Maps Go.MapKept Go.ChangeMaps

set_option maxRecDepth 100000
set_option linter.unusedVariables false
set_option linter.unusedSimpArgs false
theorem RowAt.isSlice {t : Nat} {A : Gh} {w : World} {vs : Value} {xs : List Value} (h : RowAt t A w vs xs) : ∃ ad n c, vs = .slice ad n c := by
  rcases h with ⟨rfl, _⟩ | ⟨r, cap, cur, rfl, _⟩ <;> exact ⟨_, _, _, rfl⟩
abbrev none_ : Nat → Prop := fun _ => False
abbrev Done (A : Gh) (w : World) (p : Nat) (s : St) (w' : World) : Prop := ∃ A', Ext (Tp p) noX A w A' w' ∧ DiskAt A' w' p s
theorem act_none {s : St} {us : List U} (h : min us.length s.left = 0) : s.act us = s.burn us.length := by
  unfold St.act
  rw [if_neg (by omega)]
theorem act_some {s : St} {us : List U} (h : 0 < min us.length s.left) : s.act us = { s.burn us.length with seen := runs (us.take (min us.length s.left)) s.seen, steps := s.steps ++ [us], units := s.units + min us.length s.left } := by
  unfold St.act
  rw [if_pos h]

attribute [-go_sem] Go.Builtin.append_
set_option maxHeartbeats 2000000 in
theorem disk_do {A : Gh} {w : World} {p : Nat} {s : St} {ff : Fn} {fa fb : Array Value} {us : List U} (hd : DiskAt A w p s) (hdom : Dom A w) (hdn : s.down = false) (hx : StepAt A w (.func ff fa fb) us) (hlim : s.lim + 2 * us.length ≤ 549755813888) (hst : s.steps.length ≤ 549755813888) :
    Calls Tryz.prog 54 #[.pointer (some ⟨p, 0, none⟩), .int .i64 (us.length : Int), .func ff fa fb] w fun e w' => e = .returned (.int .i64 (s.actE us : Int)) ∧ Done A w p (s.act us) w' := by
  obtain ⟨k, hd⟩ := hd
  obtain ⟨hE1, hd1⟩ := burn_ext hd us.length hdn
  have hB := disk_burn hd us.length (by omega)
  have hwt := hd.ok.wtSeen
  have hactok := St.act_ok hd.ok us hdn
  have hactlim := s.act_lim us
  have hE : (s.actE us : Int) = if min us.length s.left < us.length then 70 else 0 := by unfold St.actE; split <;> rfl
  have hup := hactok.units
  have hun : (s.act us).units ≤ 1099511627776 := by unfold St.lim at hactlim hlim; omega
  obtain ⟨w1, hw1⟩ : ∃ w1, (w.setCell ⟨p, 5, none⟩ (.int .i64 ((s.left - min us.length s.left : Nat) : Int))).setCell ⟨p, 6, none⟩ (.bool (decide (min us.length s.left < us.length))) = w1 := ⟨_, rfl⟩
  rw [hw1] at hE1 hd1 hB
  have hxs : k.xs.length ≤ 549755813888 := by rw [hd.parts.len]; exact hst
  have hroom := hd.room
  clear hw1 hd
  obtain ⟨n, hn⟩ : ∃ n, min us.length s.left = n := ⟨_, rfl⟩
  have hn2 : n ≤ us.length := by omega
  have hun2 : us.length ≤ 549755813888 := by omega
  by_cases h0 : n = 0
  · have he := act_none (hn.trans h0)
    rw [he]
    have h6 : w1.cell? ⟨p, 6, none⟩ = some (.bool (decide (n < us.length))) := by rw [← hn]; exact cell_row hd1.cells 6
    have hfin : Done A w p (s.burn us.length) w1 := ⟨A, hE1.mono0 (fun t h => .inr h), k, hd1⟩
    rw [hn] at hE hB
    subst h0
    clear he hd1 hE1 hdom hx hactok hup hun hactlim hwt hn
    by_cases hlt : 0 < us.length
    · rw [if_pos hlt] at hE
      rw [decide_eq_true hlt] at h6
      go_enter Tryz.func54, Tryz.ntmps54
      go_wp2_with (go_at_call 80; refine hB.mono ?_; rintro e w' ⟨rfl, rfl⟩)
      go_ret
      exact ⟨by rw [hE]; rfl, hfin⟩
    · rw [if_neg hlt] at hE
      rw [decide_eq_false hlt] at h6
      go_enter Tryz.func54, Tryz.ntmps54
      go_wp2_with (go_at_call 80; refine hB.mono ?_; rintro e w' ⟨rfl, rfl⟩)
      go_ret
      exact ⟨by rw [hE]; rfl, hfin⟩
  · have hpos : 0 < n := by omega
    have he := act_some (s := s) (us := us) (by omega)
    rw [hn] at he
    have hp1 := (Array.getElem?_eq_some_iff.1 hd1.cells).1
    have h2 : w1.cell? ⟨p, 2, none⟩ = some (.map (some k.mv)) := cell_row hd1.cells 2
    have hx1 := hx.ext hE1
    have hdom1 := hE1.dom hdom
    have hap := disk_apply (t := 2 * p) (count := n) (us := us) hd1.parts.seen hd1.parts.mv hdom1 (fun T _ => hx1.seq T) (show wt s.seen + _ ≤ _ by omega) (by omega)
    rw [hn] at hE hB
    have hfun := hx1.func
    have hfinal : ∀ (A2 : Gh) (w2 : World) (f2 : Str → Option Value), Ext (· = 2 * p) noX A w1 A2 w2 → Files (2 * p) A2 w2 k.mv (runs (us.take n) s.seen) f2 →
        ∃ (v' : Value) (w3 : World), (∃ ad n c, v' = .slice ad n c) ∧ w2.cell? ⟨p, 3, none⟩ = some k.vs ∧ (Builtin.append_ #[51, 51] 51 #[k.vs, .slice (some ⟨w2.heap.size, 0, none⟩) 1 1]).run Tryz.prog (w2.alloc (.cells #[.func ff fa fb] 70)) = .ok v' w3 ∧
          w3.heap[p]? = some (.cells (dcells s.room (.map (some k.ms)) (.map (some k.mv)) k.vs s.units (s.left - n) (decide (n < us.length))) 53 (0, 0)) ∧
          Done A w p (s.act us) ((w3.setCell ⟨p, 3, none⟩ v').setCell ⟨p, 4, none⟩ (.int .i64 ((s.units : Int) + (n : Int)))) := by
      intro A2 w2 f2 hE2 hF2
      have hP2 := hd1.parts.turn hp1 hE2 hF2
      have hx2 := hx1.ext hE2
      have hc1 := hd1.cells
      have hc2 : w2.heap[p]? = some (.cells (dcells s.room (.map (some k.ms)) (.map (some k.mv)) k.vs s.units (s.left - n) (decide (n < us.length))) 53 (0, 0)) := by
        rw [(own_keep hE2 hp1 hd1.parts.own (by omega)).1, hc1, ← hn]
        rfl
      obtain ⟨W, hW⟩ : ∃ W, w2.alloc (.cells #[.func ff fa fb] 70) = W := ⟨_, rfl⟩
      have hbw : Below w2.heap.size w2 W := by rw [← hW]; exact (Below.refl _ w2).alloc (Nat.le_refl _) _
      have hEb : Ext (fun _ => False) noX A2 w2 A2 W := Ext.of_below hbw
      have hp2 := (Array.getElem?_eq_some_iff.1 hc2).1
      have hcW : W.heap[p]? = some (.cells (dcells s.room (.map (some k.ms)) (.map (some k.mv)) k.vs s.units (s.left - n) (decide (n < us.length))) 53 (0, 0)) := (hbw.block p hp2).trans hc2
      have hPW := hP2.ext hEb hp2 (fun h => h) (fun h => h)
      have hxW := hx2.ext hEb
      have hpW := (Array.getElem?_eq_some_iff.1 hcW).1
      obtain ⟨v', w3, A3, hr, hE3, hR3, hG3, hK3⟩ := append_step (t := 2 * p + 1) hPW.row (by show k.xs.length ≤ _; omega) (by omega) (.func ff fa fb) hfun w2.heap.size (by rw [← hW]; exact cell_new w2 _ _ 0)
      have hP3 := hPW.push hpW hE3 hxW hR3 hG3
      have hc3 := hK3 p _ _ _ hcW (by decide)
      rw [← hW] at hr
      obtain ⟨w4, hw4⟩ : ∃ w4, (w3.setCell ⟨p, 3, none⟩ v').setCell ⟨p, 4, none⟩ (.int .i64 ((s.units : Int) + (n : Int))) = w4 := ⟨_, rfl⟩
      have hc4 : w4.heap[p]? = some (.cells (dcells s.room (.map (some k.ms)) (.map (some k.mv)) v' (s.units + n) (s.left - n) (decide (n < us.length))) 53 (0, 0)) := by
        rw [← hw4, set_row (set_row hc3 _) _]
        rfl
      obtain ⟨hE4, hP4⟩ := hP3.set (w' := w4) hc3 (by rw [← hw4]; rfl) (by rw [← hw4]; rfl) (by rw [← hw4]; rfl) (by rw [← hw4, set_size, set_size]) (fun b hb => by rw [← hw4, Below.heap_setCell _ _ _ _ (by simpa using hb), Below.heap_setCell _ _ _ _ (by simpa using hb)])
      refine ⟨v', w3, hR3.isSlice, (cell_row hc2 3).trans rfl, hr, hc3, A3, ?_, ⟨k.ms, k.mv, v', k.xs ++ [.func ff fa fb], k.fS, f2⟩, ?_⟩
      · rw [hw4]
        exact ((((hE1.mono0 (fun t h => .inr h)).trans (hE2.mono0 (fun t h => .inl h))).trans (hEb.mono0 (fun t h => h.elim))).trans (hE3.mono0 (fun t h => .inr h))).trans (hE4.mono0 (fun t h => .inr h))
      · rw [hw4]
        rw [he] at hactok hun ⊢
        refine ⟨?_, hP4, hactok, ?_, hroom, hun⟩
        · show w4.heap[p]? = some (.cells (dcells s.room (.map (some k.ms)) (.map (some k.mv)) v' (s.units + n) (s.left - min us.length s.left) (decide (min us.length s.left < us.length))) 53 (0, 0))
          rw [hn]; exact hc4
        · have := hd1.left
          exact this
    have hap2 := hap
    have hunits : s.units + n ≤ 1099511627776 := by rw [he] at hun; exact hun
    obtain ⟨va, vn, vc, hvs⟩ := hd1.parts.row.isSlice
    rw [hvs] at hfinal
    have HF := Lib.hid hfinal
    clear hfinal he hd1 hE1 hdom hdom1 hx hx1 hactok hup hun hactlim hwt hn hap hfun
    by_cases hlt : n < us.length
    · rw [if_pos hlt] at hE
      go_enter Tryz.func54, Tryz.ntmps54
      go_wp2_with (first
        | (go_at_call 80; refine hB.mono ?_; rintro e w' ⟨rfl, rfl⟩)
        | (go_at_call 43; refine hap2.mono ?_; rintro e w2 ⟨⟨v, rfl⟩, A2, f2, hE2, hF2⟩; obtain ⟨v', w3, ⟨sa, sn, sc, rfl⟩, h3, hrun, hc3, hdone⟩ := HF.out A2 w2 f2 hE2 hF2; clear hE2 hF2; rw [decide_eq_true hlt] at hc3; have h4 : w3.cell? ⟨p, 4, none⟩ = some (.int .i64 (s.units : Int)) := cell_row hc3 4; have h6 : w3.cell? ⟨p, 6, none⟩ = some (.bool true) := cell_row hc3 6; have h33 : w3.cell? ⟨p, 3, none⟩ = some (.slice va vn vc) := cell_row hc3 3; have hf3 : w3.frozen? ⟨p, 3, none⟩ = false := (by simp [World.frozen?, hc3]); have hf4 : w3.frozen? ⟨p, 4, none⟩ = false := (by simp [World.frozen?, hc3]); clear hc3))
      go_ret
      exact ⟨by rw [hE]; rfl, hdone⟩
    · rw [if_neg hlt] at hE
      go_enter Tryz.func54, Tryz.ntmps54
      go_wp2_with (first
        | (go_at_call 80; refine hB.mono ?_; rintro e w' ⟨rfl, rfl⟩)
        | (go_at_call 43; refine hap2.mono ?_; rintro e w2 ⟨⟨v, rfl⟩, A2, f2, hE2, hF2⟩; obtain ⟨v', w3, ⟨sa, sn, sc, rfl⟩, h3, hrun, hc3, hdone⟩ := HF.out A2 w2 f2 hE2 hF2; clear hE2 hF2; rw [decide_eq_false hlt] at hc3; have h4 : w3.cell? ⟨p, 4, none⟩ = some (.int .i64 (s.units : Int)) := cell_row hc3 4; have h6 : w3.cell? ⟨p, 6, none⟩ = some (.bool false) := cell_row hc3 6; have h33 : w3.cell? ⟨p, 3, none⟩ = some (.slice va vn vc) := cell_row hc3 3; have hf3 : w3.frozen? ⟨p, 3, none⟩ = false := (by simp [World.frozen?, hc3]); have hf4 : w3.frozen? ⟨p, 4, none⟩ = false := (by simp [World.frozen?, hc3]); clear hc3))
      go_ret
      exact ⟨by rw [hE]; rfl, hdone⟩
end Go.Proofs.YtcioomlhdaihkaaGreatDoor.K
