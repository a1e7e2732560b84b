/-
  Disks: bytes appended.
-/
import Derived.Test.YtcioomlhdaihkaaGreatDoorKT
import Derived.Great.BuildSlice
namespace Go.Proofs.YtcioomlhdaihkaaGreatDoor.K
set_option linter.unusedVariables false
set_option linter.unusedSimpArgs false
set_option maxRecDepth 100000
open Go Go.RowKit Go.Maps Go.MapKept Go.ChangeMaps


set_option maxRecDepth 100000
set_option linter.unusedVariables false
set_option linter.unusedSimpArgs false
set_option maxHeartbeats 2000000 in
theorem disk_Append {A : Gh} {w : World} {p : Nat} {s : St} (hd : DiskAt A w p s) (hdom : Dom A w) (n c : Str) (hn : n.length ≤ 1099511627776) (hcl : c.length ≤ 1099511627776) (hlim : s.lim + 2 * (1 + c.length) ≤ 549755813888) (hst : s.steps.length ≤ 549755813888) :
    Calls Tryz.prog 30 #[.pointer (some ⟨p, 0, none⟩), strV n, strV c] w fun e w' => e = .returned (.int .i64 ((s.append n c).2 : Int)) ∧ Done A w p (s.append n c).1 w' := by
  obtain ⟨W, hW⟩ : ∃ W, w.alloc (.cells #[strV n] 9) = W := ⟨_, rfl⟩
  obtain ⟨hB, hS⟩ := strs1 w n W hW
  obtain ⟨k, hd⟩ := hd
  have hdW := hd.below hB
  have hdomW : Dom A W := (Ext.of_below (T := none_) (X := noX) hB).dom hdom
  have hR := disk_refuses hdW hS (by simp) (fun x hx => by simp at hx; subst hx; exact hn)
  have hself : Done A w p s W := ⟨A, Ext.of_below hB, k, hdW⟩
  clear hd hS
  by_cases hr : s.refuse [n] = 0
  · have hdn : s.down = false := St.refuse_down (by simpa using hr)
    rw [hr] at hR
    have hroomc : W.cell? ⟨p, 0, none⟩ = some (.int .i64 (s.room : Int)) := cell_row hdW.cells 0
    have hwt := hdW.ok.wtSeen
    have huse : used s.seen ≤ 1099511627776 := by have := used_le_wt s.seen; omega
    have hused : ∀ V : World, DiskIn A V p s k → Calls Tryz.prog 53 #[.pointer (some ⟨p, 0, none⟩)] V fun e w' => e = .returned (.int .i64 (used s.seen : Int)) ∧ Below V.heap.size V w' := fun V hV =>
      disk_Used (cell_row hV.cells 1) (cell_row hV.cells 2) hV.parts.seen.map hV.parts.seen.sorted hV.parts.seen.same hV.parts.seen.lens huse
    have HW := Lib.hid hdW
    have HD := Lib.hid hdomW
    clear hdW hdomW hwt
    have hcl2 : (⟨c.toArray⟩ : ByteArray).size = c.length := size_str c
    have h1f : ((s.room : Nat) : Int) ≤ 16777216 := by have := HW.out.room; omega
    have h2f : ((used s.seen : Nat) : Int) ≤ 1099511627776 := by omega
    subst hW
    go_enter Tryz.func30, Tryz.ntmps30
    go_wp2_with (go_at_call 52; refine hR.mono ?_; rintro e w' ⟨rfl, rfl⟩)
    refine R.wp_chain [7] (fun q _ V => match q with | 0 => V = (w.alloc (.cells #[strV n] 9)).drew | _ => Below (w.alloc (.cells #[strV n] 9)).heap.size (w.alloc (.cells #[strV n] 9)) V)
      (fun i _ => [strV c, .int .i64 (c.length : Int), .pointer (some ⟨p, 0, none⟩), .pointer (some ⟨p, 0, none⟩), .pointer (some ⟨p, 0, none⟩), .int .i64 (s.room : Int), .pointer (some ⟨p, 0, none⟩), .int .i64 (used s.seen : Int), .int .i64 ((s.room : Int) - (used s.seen : Int)), .bool (decide ((s.room : Int) - (used s.seen : Int) < (c.length : Int)))].getD i undef) (fun _ => undef) 54 (by kernel_rfl) (by kernel_rfl) rfl (by kernel_rfl) (by kernel_rfl) ?_ ?_ rfl ?_
    · simp only [R.HVs, R.HV]
      repeat' (first | trivial | refine And.intro ?_ ?_ | exact fun _ _ _ => rfl)
    · refine ⟨?_, ?_, ?_, ?_, ?_, ?_, ?_, ?_, ?_, ?_, trivial⟩
      · exact R.l_move _ (.inl rfl) (by kernel_rfl) rfl rfl (R.ev_base (by kernel_rfl) rfl)
      · refine R.l_read (by kernel_rfl) rfl rfl (fun q u a V _ _ hb hv hP => ?_)
        have e1 : a.eval (.tmp 18) = strV c := (R.eval_at (i := 0) rfl).trans (hv 0 (by kernel_rfl))
        unfold execOp
        simp only [resolve, invoke, builtin, Sem.run_bind, Sem.run_pure, Result.andThen_ok, List.map_toArray, List.map_cons, List.map_nil, e1]
        simp [Builtin.len_, run_underlying Tryz.underlying9, goInt, strV, hcl2]
      · exact R.l_move _ (.inl rfl) (by kernel_rfl) rfl rfl (R.ev_base (by kernel_rfl) rfl)
      · refine R.l_read (by kernel_rfl) rfl rfl (fun q u a V _ _ hb hv hP => ?_)
        have e1 : a.eval (.tmp 20) = .pointer (some ⟨p, 0, none⟩) := (R.eval_at (i := 2) rfl).trans (hv 2 (by kernel_rfl))
        unfold execOp
        simp only [e1]
        first | rfl | simp [go_sem]
      · refine R.l_read (by kernel_rfl) rfl rfl (fun q u a V _ _ hb hv hP => ?_)
        have e1 : a.eval (.tmp 21) = .pointer (some ⟨p, 0, none⟩) := (R.eval_at (i := 3) rfl).trans (hv 3 (by kernel_rfl))
        unfold execOp
        simp only [e1]
        first | rfl | simp [go_sem]
      · refine R.l_load _ _ (fun _ => ⟨p, 0, none⟩) rfl (by kernel_rfl) rfl rfl Tryz.underlying3 rfl (R.ev_at (i := 4) rfl (by kernel_rfl)) (fun q u V _ hhi hP => ?_)
        have hh : q ≤ 1 := hhi
        match q, hh, hP with
        | 0, _, hP => obtain rfl : V = (w.alloc (.cells #[strV n] 9)).drew := hP; exact hroomc
        | 1, _, hP => exact (hP.cell (p := ⟨p, 0, none⟩) (World.block_lt_of_cell? _ _ hroomc)).trans hroomc
      · exact R.l_move _ (.inl rfl) (by kernel_rfl) rfl rfl (R.ev_base (by kernel_rfl) rfl)
      · refine R.l_call (p := 0) (by kernel_rfl) rfl (fun u a V hb hv hP => ?_)
        obtain rfl : V = (w.alloc (.cells #[strV n] 9)).drew := hP
        have e1 : a.eval (.tmp 24) = .pointer (some ⟨p, 0, none⟩) := (R.eval_at (i := 6) rfl).trans (hv 6 (by kernel_rfl))
        refine ⟨_, _, by unfold execOp; simp only [resolve, invoke, Sem.run_bind, Sem.run_pure, Result.andThen_ok, List.map_toArray, List.map_cons, List.map_nil, e1]; rfl, ?_⟩
        refine (hused _ (HW.out.below ((Below.refl _ _).drew))).mono ?_
        rintro e w' ⟨rfl, hb'⟩
        have hb2 : Below (w.alloc (.cells #[strV n] 9)).heap.size (w.alloc (.cells #[strV n] 9)) w' := ((Below.refl _ _).drew).trans hb'
        exact ⟨_, rfl, hb2, rfl⟩
      · refine R.l_read (by kernel_rfl) rfl rfl (fun q u a V _ _ hb hv hP => ?_)
        have e1 : a.eval (.tmp 23) = .int .i64 (s.room : Int) := (R.eval_at (i := 5) rfl).trans (hv 5 (by kernel_rfl))
        have e2 : a.eval (.tmp 25) = .int .i64 (used s.seen : Int) := (R.eval_at (i := 7) rfl).trans (hv 7 (by kernel_rfl))
        unfold execOp
        simp only [e1, e2]
        simp [go_sem]
        exact IntWalk.i64_in _ ⟨by omega, by omega⟩
      · refine R.l_read (by kernel_rfl) rfl rfl (fun q u a V _ _ hb hv hP => ?_)
        have e1 : a.eval (.tmp 19) = .int .i64 (c.length : Int) := (R.eval_at (i := 1) rfl).trans (hv 1 (by kernel_rfl))
        have e2 : a.eval (.tmp 26) = .int .i64 ((s.room : Int) - (used s.seen : Int)) := (R.eval_at (i := 8) rfl).trans (hv 8 (by kernel_rfl))
        unfold execOp
        simp only [e1, e2]
        simp [go_sem]
    · rintro u W1 hW1
      have hB1 : Below (w.alloc (.cells #[strV n] 9)).heap.size (w.alloc (.cells #[strV n] 9)) W1 := hW1
      clear hW1
      simp only [R.fill, List.getD_cons_zero, List.getD_cons_succ, List.setIfInBounds_toArray, List.set_cons_zero, List.set_cons_succ]
      simp only [Exit.then]
      go_at_K
      cases hfull : decide ((s.room : Int) - (used s.seen : Int) < (c.length : Int)) with
      | true =>
        have e1 : s.append n c = (s, 6) := by unfold St.append; rw [if_neg (by simpa using hr), if_pos (by have := of_decide_eq_true hfull; omega)]
        have E1 := Lib.hid e1
        have hself2 : Done A w p s W1 := by
          obtain ⟨A', hE, hD⟩ := hself
          exact ⟨A', hE.trans (Ext.of_below hB1), hD.below hB1⟩
        clear e1 hused
        go_wp2
        go_ret
        rw [E1.out]
        exact ⟨rfl, hself2⟩
      | false =>
        have e1 : s.append n c = (s.act (appendUs n c (K.get s.seen n).isSome), s.actE (appendUs n c (K.get s.seen n).isSome)) := by unfold St.append; rw [if_neg (by simpa using hr), if_neg (by have := of_decide_eq_false hfull; omega)]
        have E1 := Lib.hid e1
        clear hused hroomc hself
        have hc1 := clone_str n hn W1
        have hc2 : ∀ V, Calls Tryz.prog 31 #[strV c] V fun e w' => e = .returned (strV c) ∧ Below V.heap.size V w' := fun V => clone_str c hcl V
        have hfin : ∀ V : World, Below W1.heap.size W1 V → V.cell? ⟨p, 2, none⟩ = some (.map (some k.mv)) ∧ (Instr.lookup 50 (.map (some k.mv)) (strV n) true).run Tryz.prog V = .ok (.tuple #[(k.fV n).getD (.slice none 0 0), .bool (K.get s.seen n).isSome]) V ∧
            ∀ (ff : Fn) (fa fb : Array Value) (A' : Gh) (w2 : World), Ext none_ noX A V A' w2 → StepAt A' w2 (.func ff fa fb) (appendUs n c (K.get s.seen n).isSome) →
              Calls Tryz.prog 54 #[.pointer (some ⟨p, 0, none⟩), .int .i64 ((appendUs n c (K.get s.seen n).isSome).length : Int), .func ff fa fb] w2 fun e w' => e = .returned (.int .i64 (s.actE (appendUs n c (K.get s.seen n).isSome) : Int)) ∧ Done A w p (s.act (appendUs n c (K.get s.seen n).isSome)) w' := by
          intro V hV
          have hBV := hB1.trans (hV.mono hB1.size)
          have hdV := HW.out.below hBV
          refine ⟨cell_row hdV.cells 2, ?_, ?_⟩
          · rw [← seen_isSome hdV hn]
            exact hdV.parts.seen.map.look_ok (s := n) (by unfold maxLen; omega)
          · intro ff fa fb A' w2 hE hx
            have hE1 : Ext none_ noX A (w.alloc (.cells #[strV n] 9)) A' w2 := (Ext.of_below hBV).trans hE
            have hdo := disk_do (us := appendUs n c (K.get s.seen n).isSome) (⟨k, HW.out.ext hE1 (fun h => h) (fun h => h)⟩ : DiskAt A' w2 p s) (hE1.dom HD.out) hdn hx (by
              have : (appendUs n c (K.get s.seen n).isSome).length ≤ 1 + c.length := by unfold appendUs; split <;> simp <;> omega
              omega) hst
            refine hdo.mono ?_
            rintro e w' ⟨rfl, hD⟩
            exact ⟨rfl, (hD.afterE hE1).after hB⟩
        have HF := Lib.hid hfin
        have hlen : ((appendUs n c (K.get s.seen n).isSome).length : Int) = if (K.get s.seen n).isSome then (c.length : Int) else (c.length : Int) + 1 := by
          unfold appendUs
          split <;> simp <;> omega
        clear e1 hfin HW HD
        cases hg : (K.get s.seen n).isSome with
        | true =>
          rw [hg] at hlen HF
          have hlen1 : ((appendUs n c true).length : Int) = (c.length : Int) := hlen
          rw [hlen1] at HF
          have HG := Lib.hid hg
          clear hlen hlen1 hg
          go_wp2_with (first
            | (go_at_call 31; refine hc1.mono ?_; rintro e w1 ⟨rfl, hB0⟩; have HB0 := Lib.hid hB0; clear hB0 hc1)
            | (go_at_call 31; refine (hc2 _).mono ?_; rintro e w2 ⟨rfl, hb⟩; obtain ⟨h2, hlook, hdo⟩ := HF.out _ (HB0.out.trans (hb.mono HB0.out.size)); clear hb HF)
            | (go_at_call 55; refine (made_appending A _ n c true hn hcl).mono ?_; rintro e w3 ⟨ff, fa, fb, A', rfl, hE, hx⟩; have hdo2 := hdo ff fa fb A' w3 hE hx; clear hE hx hdo)
            | (go_at_call 54; refine hdo2.mono ?_; rintro e w' ⟨rfl, hD⟩))
          go_ret
          rw [E1.out, HG.out]
          exact ⟨rfl, hD⟩
        | false =>
          rw [hg] at hlen HF
          have hlen1 : ((appendUs n c false).length : Int) = (c.length : Int) + 1 := hlen
          rw [hlen1] at HF
          have HG := Lib.hid hg
          clear hlen hlen1 hg
          go_wp2_with (first
            | (go_at_call 31; refine hc1.mono ?_; rintro e w1 ⟨rfl, hB0⟩; have HB0 := Lib.hid hB0; clear hB0 hc1)
            | (go_at_call 31; refine (hc2 _).mono ?_; rintro e w2 ⟨rfl, hb⟩; obtain ⟨h2, hlook, hdo⟩ := HF.out _ (HB0.out.trans (hb.mono HB0.out.size)); clear hb HF)
            | (go_at_call 55; refine (made_appending A _ n c false hn hcl).mono ?_; rintro e w3 ⟨ff, fa, fb, A', rfl, hE, hx⟩; have hdo2 := hdo ff fa fb A' w3 hE hx; clear hE hx hdo)
            | (go_at_call 54; refine hdo2.mono ?_; rintro e w' ⟨rfl, hD⟩))
          go_ret
          rw [E1.out, HG.out]
          exact ⟨rfl, hD⟩
  · have e1 : s.append n c = (s, s.refuse [n]) := by unfold St.append; rw [if_pos hr]
    rw [e1]
    have hr2 : ((s.refuse [n] : Nat) : Int) = 2 ∨ ((s.refuse [n] : Nat) : Int) = 70 := by unfold St.refuse at hr ⊢; split <;> (try split) <;> simp_all
    clear e1 hdomW hdW
    subst hW
    rcases hr2 with hr2 | hr2
    · have HR2 := Lib.hid hr2
      rw [hr2] at hR
      clear hr2 hr
      go_enter Tryz.func30, Tryz.ntmps30
      go_wp2_with (go_at_call 52; refine hR.mono ?_; rintro e w' ⟨rfl, rfl⟩)
      go_ret
      exact ⟨by rw [HR2.out]; rfl, hself⟩
    · have HR2 := Lib.hid hr2
      rw [hr2] at hR
      clear hr2 hr
      go_enter Tryz.func30, Tryz.ntmps30
      go_wp2_with (go_at_call 52; refine hR.mono ?_; rintro e w' ⟨rfl, rfl⟩)
      go_ret
      exact ⟨by rw [HR2.out]; rfl, hself⟩
end Go.Proofs.YtcioomlhdaihkaaGreatDoor.K
