/-
  Disks: crashes.
-/
import Derived.Test.YtcioomlhdaihkaaGreatDoorKZ
import Derived.Test.YtcioomlhdaihkaaGreatDoorWK5
namespace Go.Proofs.YtcioomlhdaihkaaGreatDoor.K
set_option linter.unusedVariables false
set_option linter.unusedSimpArgs false
set_option maxRecDepth 100000
open Go Go.RowKit Go.Maps Go.MapKept Go.ChangeMaps

set_option maxRecDepth 100000
set_option linter.unusedVariables false
set_option linter.unusedSimpArgs false
/-- What was synced is seen: a new map. -/
theorem crash_seen {A : Gh} {w w1 : World} {p : Nat} {s : St} {k : Dk} (hd : DiskIn A w p s k) (hB : Below w.heap.size w w1) (hma : MapAt w1 w.heap.size s.synced.length (clipF k.fS)) :
    ∃ A1, Ext (Tp p) noX A w A1 (w1.setCell ⟨p, 2, none⟩ (.map (some w.heap.size))) ∧ (w1.setCell ⟨p, 2, none⟩ (.map (some w.heap.size))).heap[p]? = some (.cells (dcells s.room (.map (some k.ms)) (.map (some w.heap.size)) k.vs s.units s.left s.down) 53 (0, 0)) ∧
      Parts A1 (w1.setCell ⟨p, 2, none⟩ (.map (some w.heap.size))) p s.synced s.synced s.steps ⟨k.ms, w.heap.size, k.vs, k.xs, k.fS, clipF k.fS⟩ := by
  have hp := (Array.getElem?_eq_some_iff.1 hd.cells).1
  have hsz := hB.size
  obtain ⟨hE, hF⟩ := files_copied (t' := 2 * p) hd.parts.synced hB hma (.own (2 * p) 0) (fun t g e => by cases e; omega)
  have hc1 := (hB.block p hp).trans hd.cells
  have hd2 := hd.parts.ext hE hp (fun h => h) (fun h => h)
  have hP1 : Parts (setG A w.heap.size (.own (2 * p) 0)) w1 p s.synced s.synced s.steps ⟨k.ms, w.heap.size, k.vs, k.xs, k.fS, clipF k.fS⟩ :=
    ⟨hd2.own, hd2.ms, ⟨0, setG_same ..⟩, hd2.clip, hd2.synced, hF, hd2.row, hd2.len, hd2.steps⟩
  obtain ⟨hE4, hP4⟩ := hP1.set (w' := w1.setCell ⟨p, 2, none⟩ (.map (some w.heap.size))) hc1 rfl rfl rfl (set_size _ _ _) (fun b hb => Below.heap_setCell _ _ _ _ (by simpa using hb))
  exact ⟨_, (hE.mono0 (fun t h => h.elim)).trans (hE4.mono0 (fun t h => .inr h)), by rw [set_row hc1 _]; rfl, hP4⟩

theorem disk_pending (p : Nat) (w : World) : Calls Tryz.prog 44 #[.pointer (some ⟨p, 0, none⟩)] w fun e w' => e = .returned (.func (.func 63) #[] #[.pointer (some ⟨w.heap.size, 0, none⟩)]) ∧ w.alloc (.cells #[.pointer (some ⟨p, 0, none⟩)] 27) = w' := by
  go_enter Tryz.func44, Tryz.ntmps44
  go_wp2
  go_ret
  exact ⟨rfl, rfl⟩

theorem crash_apply {A : Gh} {w : World} {p : Nat} {fs fv : Fs} {ss : List (List U)} {k : Dk} {room units left : Nat} {down : Bool} (hc : w.heap[p]? = some (.cells (dcells room (.map (some k.ms)) (.map (some k.mv)) k.vs units left down) 53 (0, 0))) (hP : Parts A w p fs fv ss k) (hdom : Dom A w) (n : Nat) (hn : n ≤ 9223372036854775807)
    (hlim : wt fv + 2 * ss.flatten.length ≤ 1099511627776) (hst : ss.length ≤ 1099511627776) :
    Calls Tryz.prog 43 #[.map (some k.mv), .func (.func 63) #[] #[.pointer (some ⟨w.heap.size, 0, none⟩)], .int .i64 (n : Int)] (w.alloc (.cells #[.pointer (some ⟨p, 0, none⟩)] 27))
      fun e w' => (∃ v, e = .returned v) ∧ ∃ A' k', Ext (Tp p) noX A w A' w' ∧ w'.heap[p]? = some (.cells (dcells room (.map (some k'.ms)) (.map (some k'.mv)) k'.vs units left down) 53 (0, 0)) ∧ Parts A' w' p fs (runs (ss.flatten.take n) fv) ss k' := by
  have hp := (Array.getElem?_eq_some_iff.1 hc).1
  obtain ⟨W, hW⟩ : ∃ W, w.alloc (.cells #[.pointer (some ⟨p, 0, none⟩)] 27) = W := ⟨_, rfl⟩
  rw [hW]
  have hB : Below w.heap.size w W := by rw [← hW]; exact (Below.refl _ w).alloc (Nat.le_refl _) _
  have hsz : W.heap.size = w.heap.size + 1 := by rw [← hW]; simp
  have hE : Ext none_ noX A w A W := Ext.of_below hB
  have hPW := hP.ext hE hp (fun h => h) (fun h => h)
  have hcW := (hB.block p hp).trans hc
  have hdW := hE.dom hdom
  have hbox : W.cell? ⟨w.heap.size, 0, none⟩ = some (.pointer (some ⟨p, 0, none⟩)) := by rw [← hW]; exact cell_new w _ _ 0
  have hfree : A w.heap.size = .free := hdom.free (Nat.le_refl _)
  have hseq : ∀ T : Nat → Prop, (∀ x, T x → x = 2 * p ∨ 2 * W.heap.size ≤ x) → SeqU T A W (.func (.func 63) #[] #[.pointer (some ⟨w.heap.size, 0, none⟩)]) ss.flatten := by
    intro T hT
    have hT1 : ¬ T (2 * p + 1) := fun h => by rcases hT _ h with h | h <;> omega
    refine seq_pending hbox (fun t g e => by rw [hfree] at e; cases e) ((cell_row hcW 3).trans rfl) (fun t g e => by rw [hPW.own] at e; cases e; exact hT1) ?_ hPW.len (fun i x us hx hus => (hPW.steps i x us hx hus).seq T)
    rcases hPW.row with ⟨h1, h2⟩ | ⟨r, cap, cur, h1, h2, h3, h4, h5, h6, h7⟩
    · exact ⟨none, 0, by rw [h1, h2]; rfl, by rw [h2]; simp, fun i x hx => by rw [h2] at hx; simp at hx⟩
    · exact ⟨_, cap, h1, by rw [hPW.len]; exact hst, fun i x hx => ⟨r, rfl, (cell_row h2 i).trans (h7 i x hx), by rw [h6]; simp, fun t g e => by rw [h6] at e; cases e; exact hT1⟩⟩
  refine (disk_apply hPW.seen hPW.mv hdW hseq hlim hn).mono ?_
  rintro e w' ⟨he, A', f', hE', hF'⟩
  exact ⟨he, A', ⟨k.ms, k.mv, k.vs, k.xs, k.fS, f'⟩, (hE.mono0 (fun t h => h.elim)).trans (hE'.mono0 (fun t h => .inl h)), (own_keep hE' (by omega) hPW.own (by omega)).1.trans hcW, hPW.turn (by omega) hE' hF'⟩

def CrashPost (A : Gh) (w : World) (p : Nat) (s : St) (keep : Int) (V : World) : Prop := Calls Tryz.prog 45 #[.pointer (some ⟨p, 0, none⟩)] V fun e w5 => (∃ v, e = .returned v) ∧ w5.cell? ⟨p, 5, none⟩ = some (.int .i64 (s.left : Int)) ∧ w5.cell? ⟨p, 6, none⟩ = some (.bool s.down) ∧ w5.frozen? ⟨p, 5, none⟩ = false ∧ w5.frozen? ⟨p, 6, none⟩ = false ∧
              Done A w p (s.crashed keep.toNat) ((w5.setCell ⟨p, 5, none⟩ (.int .i64 9223372036854775807)).setCell ⟨p, 6, none⟩ (.bool false))

set_option maxHeartbeats 2000000 in
theorem disk_Crash {A : Gh} {w : World} {p : Nat} {s : St} (hd : DiskAt A w p s) (hdom : Dom A w) (keep : Int) (hk : keep ≤ 9223372036854775807) (hk0 : -9223372036854775808 ≤ keep) (hlim : s.lim ≤ 549755813888) (hst : s.steps.length ≤ 549755813888) :
    Calls Tryz.prog 19 #[.pointer (some ⟨p, 0, none⟩), .int .i64 keep] w fun e w' => e = .returned (.int .i64 ((s.crash keep).2 : Int)) ∧ Done A w p (s.crash keep).1 w' := by
  obtain ⟨k, hd⟩ := hd
  have h1 : w.cell? ⟨p, 1, none⟩ = some (.map (some k.ms)) := cell_row hd.cells 1
  by_cases hneg : keep < 0
  · have e1 : s.crash keep = (s, 2) := by unfold St.crash; rw [if_pos hneg]
    rw [e1]
    have hfin : Done A w p s w := ⟨A, Ext.refl _ _ _ _, k, hd⟩
    clear e1 hd
    go_enter Tryz.func19, Tryz.ntmps19
    go_wp2_with (go_at_call 25; refine (none_some p _ _ h1).mono ?_; rintro e w' ⟨rfl, rfl⟩)
    go_ret
    exact ⟨rfl, hfin⟩
  · have e1 : s.crash keep = (s.crashed keep.toNat, 0) := by unfold St.crash; rw [if_neg hneg]
    have E1 := Lib.hid e1
    have hcp := disk_copied hd.parts.synced.map (by have := len_le_wt s.synced; unfold St.lim at hlim; unfold maxLen; omega) (files_form hd.parts.synced)
    have hfin : ∀ w1 : World, MapAt w1 w.heap.size s.synced.length (clipF k.fS) → Below w.heap.size w w1 → w1.cell? ⟨p, 2, none⟩ = some (.map (some k.mv)) ∧ w1.frozen? ⟨p, 2, none⟩ = false ∧
        ∃ W, (w1.setCell ⟨p, 2, none⟩ (.map (some w.heap.size))) = W ∧ W.cell? ⟨p, 2, none⟩ = some (.map (some w.heap.size)) ∧ W.cell? ⟨p, 4, none⟩ = some (.int .i64 (s.units : Int)) ∧ p < W.heap.size ∧
          Calls Tryz.prog 43 #[.map (some w.heap.size), .func (.func 63) #[] #[.pointer (some ⟨W.heap.size, 0, none⟩)], .int .i64 ((min keep.toNat s.units : Nat) : Int)] (W.drew.alloc (.cells #[.pointer (some ⟨p, 0, none⟩)] 27)) fun e w4 => (∃ v, e = .returned v) ∧
            Calls Tryz.prog 45 #[.pointer (some ⟨p, 0, none⟩)] w4 fun e w5 => (∃ v, e = .returned v) ∧ w5.cell? ⟨p, 5, none⟩ = some (.int .i64 (s.left : Int)) ∧ w5.cell? ⟨p, 6, none⟩ = some (.bool s.down) ∧ w5.frozen? ⟨p, 5, none⟩ = false ∧ w5.frozen? ⟨p, 6, none⟩ = false ∧
              Done A w p (s.crashed keep.toNat) ((w5.setCell ⟨p, 5, none⟩ (.int .i64 9223372036854775807)).setCell ⟨p, 6, none⟩ (.bool false)) := by
      intro w1 hma hB
      have hc1 := (hB.block p (Array.getElem?_eq_some_iff.1 hd.cells).1).trans hd.cells
      obtain ⟨A1, hE1, hcW, hPW⟩ := crash_seen hd hB hma
      refine ⟨(cell_row hc1 2).trans rfl, by simp [World.frozen?, hc1], _, rfl, ?_⟩
      generalize (w1.setCell ⟨p, 2, none⟩ (.map (some w.heap.size))) = W at hE1 hcW hPW ⊢
      have hp := (Array.getElem?_eq_some_iff.1 hcW).1
      have hBd : Below W.heap.size W W.drew := (Below.refl _ W).drew
      have hEd : Ext none_ noX A1 W A1 W.drew := Ext.of_below hBd
      have hPd := hPW.ext hEd hp (fun h => h) (fun h => h)
      have hlim2 : wt s.synced + 2 * s.steps.flatten.length ≤ 549755813888 := hlim
      have hap := crash_apply (w := W.drew) hcW hPd ((hE1.trans (hEd.mono0 (fun t h => h.elim))).dom hdom) (min keep.toNat s.units) (by have := hd.units; omega) (by omega) (by omega)
      refine ⟨(cell_row hcW 2).trans rfl, (cell_row hcW 4).trans rfl, hp, hap.mono ?_⟩
      rintro e w4 ⟨he, A4, k4, hE4, hc4, hP4⟩
      have hsr := runs_wt (s.pend.take (min keep.toNat s.units)) hd.ok.sorted
      have htl : (s.pend.take (min keep.toNat s.units)).length ≤ s.pend.length := List.length_take_le' _ _
      refine ⟨he, (disk_settle hc4 hP4 (by show wt (runs (s.pend.take (min keep.toNat s.units)) s.synced) ≤ _; unfold St.lim at hlim; omega)).mono ?_⟩
      rintro e5 w5 ⟨he5, A5, k5, hE5, hc5, hP5⟩
      refine ⟨he5, (cell_row hc5 5).trans rfl, (cell_row hc5 6).trans rfl, by simp [World.frozen?, hc5], by simp [World.frozen?, hc5], ?_⟩
      obtain ⟨hE6, hP6⟩ := hP5.set (w' := (w5.setCell ⟨p, 5, none⟩ (.int .i64 9223372036854775807)).setCell ⟨p, 6, none⟩ (.bool false)) hc5 rfl rfl rfl (by rw [set_size, set_size]) (fun b hb => by rw [Below.heap_setCell _ _ _ _ (by simpa using hb), Below.heap_setCell _ _ _ _ (by simpa using hb)])
      refine ⟨A5, (((hE1.trans (hEd.mono0 (fun t h => h.elim))).trans hE4).trans hE5).trans (hE6.mono0 (fun t h => .inr h)), k5, ?_, hP6, St.crashed_ok hd.ok _, Nat.le_refl _, hd.room, Nat.zero_le _⟩
      rw [set_row (set_row hc5 _) _]
      rfl
    have HF := Lib.hid hfin
    have hkn : ((keep.toNat : Nat) : Int) = keep := Int.toNat_of_nonneg (by omega)
    have hmin : min keep (s.units : Int) = ((min keep.toNat s.units : Nat) : Int) := by omega
    have HMIN := Lib.hid hmin
    clear hfin hd e1 hdom hlim hst hkn hmin
    go_enter Tryz.func19, Tryz.ntmps19
    go_wp2_with (first
      | (go_at_call 25; refine (none_some p _ _ h1).mono ?_; rintro e w' ⟨rfl, rfl⟩)
      | (go_at_call 42; refine hcp.mono ?_; rintro e w1 ⟨rfl, hma, hB⟩; obtain ⟨g2, hf2, W, hW, hW2, hW4, hpW, hap⟩ := HF.out w1 hma hB; clear hma hB))
    refine R.wp_chain [5, 12] (fun q _ V => match q with | 0 => V = W.drew | 1 => V = W.drew.alloc (.cells #[.pointer (some ⟨p, 0, none⟩)] 27) | _ => CrashPost A w p s keep V)
      (fun i u => [.pointer (some ⟨p, 0, none⟩), .pointer (some ⟨p, 0, none⟩), .pointer (some ⟨p, 2, none⟩), .map (some w.heap.size), .pointer (some ⟨p, 0, none⟩), .func (.func 63) #[] #[.pointer (some ⟨W.heap.size, 0, none⟩)], .int .i64 keep, .pointer (some ⟨p, 0, none⟩), .pointer (some ⟨p, 0, none⟩), .pointer (some ⟨p, 4, none⟩), .int .i64 (s.units : Int), .int .i64 ((min keep.toNat s.units : Nat) : Int), u 1].getD i undef) (fun _ => undef) 38 (by kernel_rfl) (by kernel_rfl) rfl (by kernel_rfl) (by kernel_rfl) ?_ ?_ rfl ?_
    · simp only [R.HVs, R.HV]
      repeat' (first | trivial | refine And.intro ?_ ?_ | exact fun _ _ _ => rfl | (refine fun h => absurd (h.symm.trans (b := _) (c := false) ?_) (by decide); kernel_rfl))
    · refine ⟨?_, ?_, ?_, ?_, ?_, ?_, ?_, ?_, ?_, ?_, ?_, ?_, ?_, trivial⟩
      · exact R.l_move _ (.inl rfl) (by kernel_rfl) rfl rfl (R.ev_base (by kernel_rfl) rfl)
      · refine R.l_read (by kernel_rfl) rfl rfl (fun q u a V _ _ hb hv hP => ?_)
        have e1 : a.eval (.tmp 17) = .pointer (some ⟨p, 0, none⟩) := (R.eval_at (i := 0) rfl).trans (hv 0 (by kernel_rfl))
        unfold execOp
        simp only [e1]
        first | rfl | simp [go_sem]
      · refine R.l_read (by kernel_rfl) rfl rfl (fun q u a V _ _ hb hv hP => ?_)
        have e1 : a.eval (.tmp 18) = .pointer (some ⟨p, 0, none⟩) := (R.eval_at (i := 1) rfl).trans (hv 1 (by kernel_rfl))
        unfold execOp
        simp only [e1]
        first | rfl | simp [go_sem]
      · refine R.l_load _ _ (fun _ => ⟨p, 2, none⟩) rfl (by kernel_rfl) rfl rfl Tryz.underlying50 rfl (R.ev_at (i := 2) rfl (by kernel_rfl)) (fun q u V _ hhi hP => ?_)
        have hh : q ≤ 1 := hhi
        match q, hh, hP with
        | 0, _, hP => obtain rfl : V = W.drew := hP; exact hW2
        | 1, _, hP => obtain rfl : V = W.drew.alloc _ := hP; exact (World.cell?_of_block (a := ⟨p, 2, none⟩) (Below.heap_alloc W.drew _ p hpW)).trans hW2
      · exact R.l_move _ (.inl rfl) (by kernel_rfl) rfl rfl (R.ev_base (by kernel_rfl) rfl)
      · refine R.l_call (p := 0) (by kernel_rfl) rfl (fun u a V hb hv hP => ?_)
        obtain rfl : V = W.drew := hP
        have e1 : a.eval (.tmp 21) = .pointer (some ⟨p, 0, none⟩) := (R.eval_at (i := 4) rfl).trans (hv 4 (by kernel_rfl))
        refine ⟨_, _, by unfold execOp; simp only [resolve, invoke, Sem.run_bind, Sem.run_pure, Result.andThen_ok, List.map_toArray, List.map_cons, List.map_nil, e1]; rfl, ?_⟩
        refine (disk_pending p _).mono ?_
        rintro e w' ⟨rfl, rfl⟩
        exact ⟨_, rfl, rfl, rfl⟩
      · exact R.l_move _ (.inl rfl) (by kernel_rfl) rfl rfl (R.ev_base (by kernel_rfl) rfl)
      · exact R.l_move _ (.inl rfl) (by kernel_rfl) rfl rfl (R.ev_base (by kernel_rfl) rfl)
      · refine R.l_read (by kernel_rfl) rfl rfl (fun q u a V _ _ hb hv hP => ?_)
        have e1 : a.eval (.tmp 24) = .pointer (some ⟨p, 0, none⟩) := (R.eval_at (i := 7) rfl).trans (hv 7 (by kernel_rfl))
        unfold execOp
        simp only [e1]
        first | rfl | simp [go_sem]
      · refine R.l_read (by kernel_rfl) rfl rfl (fun q u a V _ _ hb hv hP => ?_)
        have e1 : a.eval (.tmp 25) = .pointer (some ⟨p, 0, none⟩) := (R.eval_at (i := 8) rfl).trans (hv 8 (by kernel_rfl))
        unfold execOp
        simp only [e1]
        first | rfl | simp [go_sem]
      · refine R.l_load _ _ (fun _ => ⟨p, 4, none⟩) rfl (by kernel_rfl) rfl rfl Tryz.underlying3 rfl (R.ev_at (i := 9) rfl (by kernel_rfl)) (fun q u V _ hhi hP => ?_)
        have hh : q ≤ 1 := hhi
        match q, hh, hP with
        | 0, _, hP => obtain rfl : V = W.drew := hP; exact hW4
        | 1, _, hP => obtain rfl : V = W.drew.alloc _ := hP; exact (World.cell?_of_block (a := ⟨p, 4, none⟩) (Below.heap_alloc W.drew _ p hpW)).trans hW4
      · refine R.l_read (by kernel_rfl) rfl rfl (fun q u a V _ _ hb hv hP => ?_)
        have e1 : a.eval (.tmp 23) = .int .i64 keep := (R.eval_at (i := 6) rfl).trans (hv 6 (by kernel_rfl))
        have e2 : a.eval (.tmp 27) = .int .i64 (s.units : Int) := (R.eval_at (i := 10) rfl).trans (hv 10 (by kernel_rfl))
        unfold execOp
        simp only [resolve, invoke, builtin, Sem.run_bind, Sem.run_pure, Result.andThen_ok, List.map_toArray, List.map_cons, List.map_nil, e1, e2]
        simp [go_sem, HMIN.out]
      · refine R.l_call (p := 1) (by kernel_rfl) rfl (fun u a V hb hv hP => ?_)
        obtain rfl : V = W.drew.alloc _ := hP
        have e1 : a.eval (.tmp 20) = .map (some w.heap.size) := (R.eval_at (i := 3) rfl).trans (hv 3 (by kernel_rfl))
        have e2 : a.eval (.tmp 22) = .func (.func 63) #[] #[.pointer (some ⟨W.heap.size, 0, none⟩)] := (R.eval_at (i := 5) rfl).trans (hv 5 (by kernel_rfl))
        have e3 : a.eval (.tmp 28) = .int .i64 ((min keep.toNat s.units : Nat) : Int) := (R.eval_at (i := 11) rfl).trans (hv 11 (by kernel_rfl))
        refine ⟨_, _, by unfold execOp; simp only [resolve, invoke, Sem.run_bind, Sem.run_pure, Result.andThen_ok, List.map_toArray, List.map_cons, List.map_nil, e1, e2, e3]; rfl, ?_⟩
        refine hap.mono ?_
        rintro e w' ⟨⟨v, rfl⟩, hset⟩
        exact ⟨_, rfl, hset, rfl⟩
    · rintro u W4 hW4'
      have hset : CrashPost A w p s keep W4 := hW4'
      clear hW4' hap hW hW2 hW4 g2 hf2
      simp only [R.fill, List.getD_cons_zero, List.getD_cons_succ, List.setIfInBounds_toArray, List.set_cons_zero, List.set_cons_succ]
      simp only [Exit.then]
      go_at_K
      go_wp2_with (go_at_call 45; refine Calls.mono hset ?_; rintro e w5 ⟨⟨v, rfl⟩, i1, i2, i3, i4, hD⟩)
      go_ret
      rw [E1.out]
      exact ⟨rfl, hD⟩
end Go.Proofs.YtcioomlhdaihkaaGreatDoor.K
