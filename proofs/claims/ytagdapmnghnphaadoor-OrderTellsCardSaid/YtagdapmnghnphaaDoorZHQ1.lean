/-
  The law OrderBefore.
-/
import Derived.Test.YtagdapmnghnphaaDoorZHP5
namespace Go.Proofs.YtagdapmnghnphaaDoor.V
set_option linter.unusedVariables false
set_option linter.unusedSimpArgs false
set_option maxRecDepth 100000
open Go Go.RowKit Go.Maps Wire

theorem IsOps.opIn {w : World} {ad : Addr} {n cp : Nat} {l : List OC} (h : IsOps w (some ad) n cp l) {k : Nat} {x : OC} (hx : l[k]? = some x) : OpIn w (ad.add (k * 29)) x.1 := by
  have hk : k < n := by rw [← h.1]; exact (List.getElem?_eq_some_iff.1 hx).1
  obtain ⟨o, cl', hx', _, _, hin⟩ := h.at k hk
  rw [hx] at hx'
  cases hx'
  exact hin
set_option maxHeartbeats 4000000 in
theorem law_OrderBefore (v : Value) (l : List OC) (nr : Int) (W0 : World) (hv : OpsV W0 v l) (hT : Tab W0) (hsz : ∀ x ∈ l, x.2.length ≤ 8796093022208) :
    Calls Tryd.prog 4 #[v, .int .i64 nr] W0 fun e w' => e = .returned (.bool true) ∧ Below W0.heap.size W0 w' := by
  have hgr := ref_Great v l W0 hv hsz
  have hhead := fun W (hb : Below W0.heap.size W0 W) => law_head W (hT.keep hb)
  obtain ⟨a, n, cp, rfl, hI⟩ := hv
  have HN := hid (show n = l.length from hI.1.symm)
  have hm' : n ≤ 9223372036854775807 := Nat.le_trans hI.2.1 hI.2.2.1
  have HI := hid hI
  have HH := hid hhead
  have HT := hid hT
  clear hI hhead hT hsz
  cases hgb : greatM l
  · obtain ⟨h80, h300⟩ := great_not hgb
    have hhi := order_History (.slice a n cp) l nr W0 ⟨a, n, cp, rfl, HI.out⟩ HT.out (by omega)
    rw [hgb] at hgr
    by_cases hm : histM nr l = 0
    · have HP := hid (histM_zero.1 hm)
      rw [hm] at hhi
      clear hgb h80 h300 hm
      go_enter Tryd.func4, Tryd.ntmps4
      go_wp2_with (first
        | (go_at_call 8; refine hgr.mono ?_; rintro e w1 ⟨rfl, hw⟩; have hw2 := hw.symm; clear hw; subst hw2)
        | (go_at_call 25; refine hhi.mono ?_; rintro e w2 ⟨rfl, hb⟩; have HB0 := hid hb; clear hb))
      clear hgr hhi
      go_loopw [5] (fun i wr => ∃ k : Nat, k ≤ n ∧ i = .int .i64 (k : Nat) ∧ Hid (Below W0.heap.size W0 wr)) (fun i _ => n - (intOf i).toNat)
      case atStart => exact ⟨0, by omega, rfl, HB0⟩
      case round =>
        obtain ⟨k, hk, rfl, HB1⟩ := hrel
        by_cases hlt : k < n
        · cases a with
          | none => have := HI.out.none_len; omega
          | some ad =>
            obtain ⟨x, hx⟩ : ∃ x, l[k]? = some x := ⟨_, List.getElem?_eq_getElem (by have := HN.out; omega)⟩
            have HX := hid hx
            clear hx
            go_wp2
            go_loopw [6] (fun i wr => ∃ j : Nat, j ≤ n ∧ i = .int .i64 (j : Nat) ∧ Hid (Below W0.heap.size W0 wr)) (fun i _ => n - (intOf i).toNat)
            case atStart => exact ⟨0, by omega, rfl, HB1⟩
            case round =>
              obtain ⟨j, hj, rfl, HB2⟩ := hrel
              clear HB1
              by_cases hlj : j < n
              · obtain ⟨y, hy⟩ : ∃ y, l[j]? = some y := ⟨_, List.getElem?_eq_getElem (by have := HN.out; omega)⟩
                have HY := hid hy
                clear hy
                have HXI := hid ((HI.out.keep HB2.out).opIn HX.out)
                have HYI := hid ((HI.out.keep HB2.out).opIn HY.out)
                go_upto_region 9 with (fail)
                refine wp_flow (fun _ => none) (Fa.eq (.slice (some ad) n cp) :: Fa.eq (.int .i64 ((k : Nat))) :: Fa.eq (.pointer (some (ad.add (k * 29)))) :: Fa.eq (.agg (oc x.1)) :: Fa.eq (.slice (some ad) n cp) :: Fa.eq (.int .i64 ((j : Nat))) :: Fa.eq (.pointer (some (ad.add (j * 29)))) :: Fa.eq (.agg (oc y.1)) :: Fa.eq (.bool (befB x y)) :: Fa.eq (.bool (!(befB x y))) :: []) 88 (by kernel_rfl) rfl (by kernel_rfl) rfl (by kernel_rfl) ?_ ?_ ?_
                · exact fits_plain _ _ rfl
                · refine ⟨?_, ?_, ?_, ?_, ?_, ?_, ?_, ?_, ?_, ?_, trivial⟩
                  · exact v_move (.inl rfl) rfl (by kernel_rfl) True.intro (Ev.out (by kernel_rfl) rfl)
                  · exact v_move (.inl rfl) rfl (by kernel_rfl) True.intro (Ev.out (by kernel_rfl) rfl)
                  · exact v_iaddr (u := .slice (some ad) n cp) (v := .int .i64 ((k : Nat))) (c := .pointer (some (ad.add (k * 29)))) rfl (fun w => idx_op ad n cp k hlt w) rfl (by kernel_rfl) True.intro (Ev.at (i := 0) (by kernel_rfl) (by kernel_rfl) rfl) (Ev.at (i := 1) (by kernel_rfl) (by kernel_rfl) rfl)
                  · exact v_load (u := .pointer (some (ad.add (k * 29)))) (c := .agg (oc x.1)) rfl (fun w hB => ldp_op (OpIn.keep (OpIn.dr HXI.out) hB)) rfl (by kernel_rfl) True.intro (Ev.at (i := 2) (by kernel_rfl) (by kernel_rfl) rfl)
                  · exact v_move (.inl rfl) rfl (by kernel_rfl) True.intro (Ev.out (by kernel_rfl) rfl)
                  · exact v_move (.inl rfl) rfl (by kernel_rfl) True.intro (Ev.out (by kernel_rfl) rfl)
                  · exact v_iaddr (u := .slice (some ad) n cp) (v := .int .i64 ((j : Nat))) (c := .pointer (some (ad.add (j * 29)))) rfl (fun w => idx_op ad n cp j hlj w) rfl (by kernel_rfl) True.intro (Ev.at (i := 4) (by kernel_rfl) (by kernel_rfl) rfl) (Ev.at (i := 5) (by kernel_rfl) (by kernel_rfl) rfl)
                  · exact v_load (u := .pointer (some (ad.add (j * 29)))) (c := .agg (oc y.1)) rfl (fun w hB => ldp_op (OpIn.keep (OpIn.dr HYI.out) hB)) rfl (by kernel_rfl) True.intro (Ev.at (i := 6) (by kernel_rfl) (by kernel_rfl) rfl)
                  · exact v_call (vs := #[.agg (oc x.1), .agg (oc y.1)]) (c := .bool (befB x y)) rfl (fun args w => rfl) (fun w hB => order_Before x y w) rfl (by kernel_rfl) True.intro (ev2 (Ev.at (i := 3) (by kernel_rfl) (by kernel_rfl) rfl) (Ev.at (i := 7) (by kernel_rfl) (by kernel_rfl) rfl))
                  · exact v_not rfl rfl (by kernel_rfl) True.intro (Ev.at (i := 8) (by kernel_rfl) (by kernel_rfl) rfl)
                intro _ vs wu hBu hf
                have e0 : vs 0 = .slice (some ad) n cp := hf 0 (by decide)
                have e1 : vs 1 = .int .i64 ((k : Nat)) := hf 1 (by decide)
                have e2 : vs 2 = .pointer (some (ad.add (k * 29))) := hf 2 (by decide)
                have e3 : vs 3 = .agg (oc x.1) := hf 3 (by decide)
                have e4 : vs 4 = .slice (some ad) n cp := hf 4 (by decide)
                have e5 : vs 5 = .int .i64 ((j : Nat)) := hf 5 (by decide)
                have e6 : vs 6 = .pointer (some (ad.add (j * 29))) := hf 6 (by decide)
                have e7 : vs 7 = .agg (oc y.1) := hf 7 (by decide)
                have e8 : vs 8 = .bool (befB x y) := hf 8 (by decide)
                have e9 : vs 9 = .bool (!(befB x y)) := hf 9 (by decide)
                obtain ⟨z, hz⟩ : ∃ z : Bool, (!(befB x y)) = z := ⟨_, rfl⟩
                rw [hz] at e9
                have HZ := hid hz
                clear hz
                simp only [fill, List.setIfInBounds_toArray, List.set_cons_zero, List.set_cons_succ, e0, e1, e2, e3, e4, e5, e6, e7, e8, e9]
                clear e0 e1 e2 e3 e4 e5 e6 e7 e8 e9
                have HBa := hid (below_next HB2.out hBu)
                clear hBu hf HXI HYI HB2
                cases z
                · have hb : befB x y = true := by have := HZ.out; simpa using this
                  have hxm := List.mem_of_getElem? HX.out
                  have hym := List.mem_of_getElem? HY.out
                  have HC := hid (show ∀ w, Calls Tryd.prog 10 #[.agg (oc x.1), .agg (oc y.1)] w fun e w' => e = .returned (.int .i64 (-1)) ∧ Below w.heap.size w w' from fun w => cmpM_lt (HP.out.lt hym hxm hb) ▸ order_Compare x y w)
                  have HR := hid (show ∀ w, Calls Tryd.prog 12 #[.agg (oc y.1), .agg (oc x.1)] w fun e w' => e = .returned (.bool false) ∧ Below w.heap.size w w' from fun w => HP.out.irr hym hxm hb ▸ order_Before y x w)
                  have HXY := hid hb
                  clear hb hxm hym HZ
                  have HXI := hid ((HI.out.keep HBa.out).opIn HX.out)
                  have HYI := hid ((HI.out.keep HBa.out).opIn HY.out)
                  go_upto_region 10 with (fail)
                  refine wp_flow (fun _ => none) (Fa.eq (.slice (some ad) n cp) :: Fa.eq (.int .i64 ((k : Nat))) :: Fa.eq (.pointer (some (ad.add (k * 29)))) :: Fa.eq (.agg (oc x.1)) :: Fa.eq (.slice (some ad) n cp) :: Fa.eq (.int .i64 ((j : Nat))) :: Fa.eq (.pointer (some (ad.add (j * 29)))) :: Fa.eq (.agg (oc y.1)) :: Fa.eq (.int .i64 (-1)) :: Fa.eq (.bool ((-1) != (-1))) :: Fa.eq (.bool ((-1) != (-1))) :: Fa.eq (gd (!((-1) != (-1))) (.slice (some ad) n cp)) :: Fa.eq (gd (!((-1) != (-1))) (.int .i64 ((j : Nat)))) :: Fa.eq (gd (!((-1) != (-1))) (.pointer (some (ad.add (j * 29))))) :: Fa.eq (gd (!((-1) != (-1))) (.agg (oc y.1))) :: Fa.eq (gd (!((-1) != (-1))) (.slice (some ad) n cp)) :: Fa.eq (gd (!((-1) != (-1))) (.int .i64 ((k : Nat)))) :: Fa.eq (gd (!((-1) != (-1))) (.pointer (some (ad.add (k * 29))))) :: Fa.eq (gd (!((-1) != (-1))) (.agg (oc x.1))) :: Fa.eq (gd (!((-1) != (-1))) (.bool (false))) :: Fa.eq (.bool (((-1) != (-1)) || (false))) :: []) 88 (by kernel_rfl) rfl (by kernel_rfl) rfl (by kernel_rfl) ?_ ?_ ?_
                  · exact fits_plain _ _ rfl
                  · refine ⟨?_, ?_, ?_, ?_, ?_, ?_, ?_, ?_, ?_, ?_, ?_, ?_, ?_, ?_, ?_, ?_, ?_, ?_, ?_, ?_, ?_, trivial⟩
                    · exact v_move (.inl rfl) rfl (by kernel_rfl) True.intro (Ev.out (by kernel_rfl) rfl)
                    · exact v_move (.inl rfl) rfl (by kernel_rfl) True.intro (Ev.out (by kernel_rfl) rfl)
                    · exact v_iaddr (u := .slice (some ad) n cp) (v := .int .i64 ((k : Nat))) (c := .pointer (some (ad.add (k * 29)))) rfl (fun w => idx_op ad n cp k hlt w) rfl (by kernel_rfl) True.intro (Ev.at (i := 0) (by kernel_rfl) (by kernel_rfl) rfl) (Ev.at (i := 1) (by kernel_rfl) (by kernel_rfl) rfl)
                    · exact v_load (u := .pointer (some (ad.add (k * 29)))) (c := .agg (oc x.1)) rfl (fun w hB => ldp_op (OpIn.keep (OpIn.dr HXI.out) hB)) rfl (by kernel_rfl) True.intro (Ev.at (i := 2) (by kernel_rfl) (by kernel_rfl) rfl)
                    · exact v_move (.inl rfl) rfl (by kernel_rfl) True.intro (Ev.out (by kernel_rfl) rfl)
                    · exact v_move (.inl rfl) rfl (by kernel_rfl) True.intro (Ev.out (by kernel_rfl) rfl)
                    · exact v_iaddr (u := .slice (some ad) n cp) (v := .int .i64 ((j : Nat))) (c := .pointer (some (ad.add (j * 29)))) rfl (fun w => idx_op ad n cp j hlj w) rfl (by kernel_rfl) True.intro (Ev.at (i := 4) (by kernel_rfl) (by kernel_rfl) rfl) (Ev.at (i := 5) (by kernel_rfl) (by kernel_rfl) rfl)
                    · exact v_load (u := .pointer (some (ad.add (j * 29)))) (c := .agg (oc y.1)) rfl (fun w hB => ldp_op (OpIn.keep (OpIn.dr HYI.out) hB)) rfl (by kernel_rfl) True.intro (Ev.at (i := 6) (by kernel_rfl) (by kernel_rfl) rfl)
                    · exact v_call (vs := #[.agg (oc x.1), .agg (oc y.1)]) (c := .int .i64 (-1)) rfl (fun args w => rfl) (fun w hB => HC.out w) rfl (by kernel_rfl) True.intro (ev2 (Ev.at (i := 3) (by kernel_rfl) (by kernel_rfl) rfl) (Ev.at (i := 7) (by kernel_rfl) (by kernel_rfl) rfl))
                    · exact v_bin (u := .int .i64 (-1)) (v := .int .i64 (-1)) (c := .bool ((-1) != (-1))) rfl (fun w => (by go_simp)) rfl (by kernel_rfl) True.intro (Ev.at (i := 8) (by kernel_rfl) (by kernel_rfl) rfl) Ev.const
                    · exact v_move (.inl rfl) rfl (by kernel_rfl) True.intro (Ev.at (i := 9) (by kernel_rfl) (by kernel_rfl) rfl)
                    · exact flow_gd (!((-1) != (-1))) (.slice (some ad) n cp) 10 false (.bool ((-1) != (-1))) rfl (by kernel_rfl) rfl gu_f rfl (fun hg hF hj => v_move (.inl rfl) hF (by kernel_rfl) (guard_of rfl (by kernel_rfl) (by kernel_rfl) hj) (Ev.out (by kernel_rfl) rfl))
                    · exact flow_gd (!((-1) != (-1))) (.int .i64 ((j : Nat))) 10 false (.bool ((-1) != (-1))) rfl (by kernel_rfl) rfl gu_f rfl (fun hg hF hj => v_move (.inl rfl) hF (by kernel_rfl) (guard_of rfl (by kernel_rfl) (by kernel_rfl) hj) (Ev.out (by kernel_rfl) rfl))
                    · exact flow_gd (!((-1) != (-1))) (.pointer (some (ad.add (j * 29)))) 10 false (.bool ((-1) != (-1))) rfl (by kernel_rfl) rfl gu_f rfl (fun hg hF hj => v_iaddr (u := .slice (some ad) n cp) (v := .int .i64 ((j : Nat))) (c := .pointer (some (ad.add (j * 29)))) rfl (fun w => idx_op ad n cp j hlj w) hF (by kernel_rfl) (guard_of rfl (by kernel_rfl) (by kernel_rfl) hj) (Ev.at (i := 11) (by kernel_rfl) (by kernel_rfl) (fe rfl (gd_t hg))) (Ev.at (i := 12) (by kernel_rfl) (by kernel_rfl) (fe rfl (gd_t hg))))
                    · exact flow_gd (!((-1) != (-1))) (.agg (oc y.1)) 10 false (.bool ((-1) != (-1))) rfl (by kernel_rfl) rfl gu_f rfl (fun hg hF hj => v_load (u := .pointer (some (ad.add (j * 29)))) (c := .agg (oc y.1)) rfl (fun w hB => ldp_op (OpIn.keep (OpIn.dr HYI.out) hB)) hF (by kernel_rfl) (guard_of rfl (by kernel_rfl) (by kernel_rfl) hj) (Ev.at (i := 13) (by kernel_rfl) (by kernel_rfl) (fe rfl (gd_t hg))))
                    · exact flow_gd (!((-1) != (-1))) (.slice (some ad) n cp) 10 false (.bool ((-1) != (-1))) rfl (by kernel_rfl) rfl gu_f rfl (fun hg hF hj => v_move (.inl rfl) hF (by kernel_rfl) (guard_of rfl (by kernel_rfl) (by kernel_rfl) hj) (Ev.out (by kernel_rfl) rfl))
                    · exact flow_gd (!((-1) != (-1))) (.int .i64 ((k : Nat))) 10 false (.bool ((-1) != (-1))) rfl (by kernel_rfl) rfl gu_f rfl (fun hg hF hj => v_move (.inl rfl) hF (by kernel_rfl) (guard_of rfl (by kernel_rfl) (by kernel_rfl) hj) (Ev.out (by kernel_rfl) rfl))
                    · exact flow_gd (!((-1) != (-1))) (.pointer (some (ad.add (k * 29)))) 10 false (.bool ((-1) != (-1))) rfl (by kernel_rfl) rfl gu_f rfl (fun hg hF hj => v_iaddr (u := .slice (some ad) n cp) (v := .int .i64 ((k : Nat))) (c := .pointer (some (ad.add (k * 29)))) rfl (fun w => idx_op ad n cp k hlt w) hF (by kernel_rfl) (guard_of rfl (by kernel_rfl) (by kernel_rfl) hj) (Ev.at (i := 15) (by kernel_rfl) (by kernel_rfl) (fe rfl (gd_t hg))) (Ev.at (i := 16) (by kernel_rfl) (by kernel_rfl) (fe rfl (gd_t hg))))
                    · exact flow_gd (!((-1) != (-1))) (.agg (oc x.1)) 10 false (.bool ((-1) != (-1))) rfl (by kernel_rfl) rfl gu_f rfl (fun hg hF hj => v_load (u := .pointer (some (ad.add (k * 29)))) (c := .agg (oc x.1)) rfl (fun w hB => ldp_op (OpIn.keep (OpIn.dr HXI.out) hB)) hF (by kernel_rfl) (guard_of rfl (by kernel_rfl) (by kernel_rfl) hj) (Ev.at (i := 17) (by kernel_rfl) (by kernel_rfl) (fe rfl (gd_t hg))))
                    · exact flow_gd (!((-1) != (-1))) (.bool (false)) 10 false (.bool ((-1) != (-1))) rfl (by kernel_rfl) rfl gu_f rfl (fun hg hF hj => v_call (vs := #[.agg (oc y.1), .agg (oc x.1)]) (c := .bool (false)) rfl (fun args w => rfl) (fun w hB => HR.out w) hF (by kernel_rfl) (guard_of rfl (by kernel_rfl) (by kernel_rfl) hj) (ev2 (Ev.at (i := 14) (by kernel_rfl) (by kernel_rfl) (fe rfl (gd_t hg))) (Ev.at (i := 18) (by kernel_rfl) (by kernel_rfl) (fe rfl (gd_t hg)))))
                    · exact v_or (p := (-1) != (-1)) (q := false) rfl rfl (by kernel_rfl) True.intro (Ev.at (i := 10) (by kernel_rfl) (by kernel_rfl) rfl) (fun hp => (Ev.at (i := 19) (by kernel_rfl) (by kernel_rfl) (fe rfl (gd_t (not_t hp)))))
                  intro _ vs wv hBv hf
                  have e0 : vs 0 = .slice (some ad) n cp := hf 0 (by decide)
                  have e1 : vs 1 = .int .i64 ((k : Nat)) := hf 1 (by decide)
                  have e2 : vs 2 = .pointer (some (ad.add (k * 29))) := hf 2 (by decide)
                  have e3 : vs 3 = .agg (oc x.1) := hf 3 (by decide)
                  have e4 : vs 4 = .slice (some ad) n cp := hf 4 (by decide)
                  have e5 : vs 5 = .int .i64 ((j : Nat)) := hf 5 (by decide)
                  have e6 : vs 6 = .pointer (some (ad.add (j * 29))) := hf 6 (by decide)
                  have e7 : vs 7 = .agg (oc y.1) := hf 7 (by decide)
                  have e8 : vs 8 = .int .i64 (-1) := hf 8 (by decide)
                  have e9 : vs 9 = .bool ((-1) != (-1)) := hf 9 (by decide)
                  have e10 : vs 10 = .bool ((-1) != (-1)) := hf 10 (by decide)
                  have e11 : vs 11 = gd (!((-1) != (-1))) (.slice (some ad) n cp) := hf 11 (by decide)
                  have e12 : vs 12 = gd (!((-1) != (-1))) (.int .i64 ((j : Nat))) := hf 12 (by decide)
                  have e13 : vs 13 = gd (!((-1) != (-1))) (.pointer (some (ad.add (j * 29)))) := hf 13 (by decide)
                  have e14 : vs 14 = gd (!((-1) != (-1))) (.agg (oc y.1)) := hf 14 (by decide)
                  have e15 : vs 15 = gd (!((-1) != (-1))) (.slice (some ad) n cp) := hf 15 (by decide)
                  have e16 : vs 16 = gd (!((-1) != (-1))) (.int .i64 ((k : Nat))) := hf 16 (by decide)
                  have e17 : vs 17 = gd (!((-1) != (-1))) (.pointer (some (ad.add (k * 29)))) := hf 17 (by decide)
                  have e18 : vs 18 = gd (!((-1) != (-1))) (.agg (oc x.1)) := hf 18 (by decide)
                  have e19 : vs 19 = gd (!((-1) != (-1))) (.bool (false)) := hf 19 (by decide)
                  have e20 : vs 20 = .bool (((-1) != (-1)) || (false)) := hf 20 (by decide)
                  obtain ⟨z2, hz2⟩ : ∃ z : Bool, (((-1) != (-1)) || (false)) = z := ⟨_, rfl⟩
                  rw [hz2] at e20
                  have HZ2 := hid hz2
                  clear hz2
                  simp only [fill, List.setIfInBounds_toArray, List.set_cons_zero, List.set_cons_succ, e0, e1, e2, e3, e4, e5, e6, e7, e8, e9, e10, e11, e12, e13, e14, e15, e16, e17, e18, e19, e20]
                  clear e0 e1 e2 e3 e4 e5 e6 e7 e8 e9 e10 e11 e12 e13 e14 e15 e16 e17 e18 e19 e20
                  have HBb := hid (below_next HBa.out hBv)
                  clear hBv hf HXI HYI HC HR HBa
                  have hzf : z2 = false := HZ2.out.symm.trans (by decide)
                  subst hzf
                  clear HZ2
                  go_wp2
                  go_loopw [7] (fun i wr => ∃ t : Nat, t ≤ n ∧ i = .int .i64 (t : Nat) ∧ Hid (Below W0.heap.size W0 wr)) (fun i _ => n - (intOf i).toNat)
                  case atStart => exact ⟨0, by omega, rfl, HBb⟩
                  case round =>
                    obtain ⟨t, ht, rfl, HB3⟩ := hrel
                    clear HBb
                    by_cases hlt3 : t < n
                    · obtain ⟨u, hu⟩ : ∃ u, l[t]? = some u := ⟨_, List.getElem?_eq_getElem (by have := HN.out; omega)⟩
                      have HU := hid hu
                      clear hu
                      have HXI := hid ((HI.out.keep HB3.out).opIn HX.out)
                      have HYI := hid ((HI.out.keep HB3.out).opIn HY.out)
                      have HUI := hid ((HI.out.keep HB3.out).opIn HU.out)
                      go_upto_region 15 with (fail)
                      refine wp_flow (fun _ => none) (Fa.eq (.slice (some ad) n cp) :: Fa.eq (.int .i64 ((j : Nat))) :: Fa.eq (.pointer (some (ad.add (j * 29)))) :: Fa.eq (.agg (oc y.1)) :: Fa.eq (.slice (some ad) n cp) :: Fa.eq (.int .i64 ((t : Nat))) :: Fa.eq (.pointer (some (ad.add (t * 29)))) :: Fa.eq (.agg (oc u.1)) :: Fa.eq (.bool (befB y u)) :: Fa.eq (.bool (befB y u)) :: Fa.eq (gd (befB y u) (.slice (some ad) n cp)) :: Fa.eq (gd (befB y u) (.int .i64 ((k : Nat)))) :: Fa.eq (gd (befB y u) (.pointer (some (ad.add (k * 29))))) :: Fa.eq (gd (befB y u) (.agg (oc x.1))) :: Fa.eq (gd (befB y u) (.slice (some ad) n cp)) :: Fa.eq (gd (befB y u) (.int .i64 ((t : Nat)))) :: Fa.eq (gd (befB y u) (.pointer (some (ad.add (t * 29))))) :: Fa.eq (gd (befB y u) (.agg (oc u.1))) :: Fa.eq (gd (befB y u) (.bool (befB x u))) :: Fa.eq (gd (befB y u) (.bool (!(befB x u)))) :: Fa.eq (.bool ((befB y u) && (!(befB x u)))) :: []) 88 (by kernel_rfl) rfl (by kernel_rfl) rfl (by kernel_rfl) ?_ ?_ ?_
                      · exact fits_plain _ _ rfl
                      · refine ⟨?_, ?_, ?_, ?_, ?_, ?_, ?_, ?_, ?_, ?_, ?_, ?_, ?_, ?_, ?_, ?_, ?_, ?_, ?_, ?_, ?_, trivial⟩
                        · exact v_move (.inl rfl) rfl (by kernel_rfl) True.intro (Ev.out (by kernel_rfl) rfl)
                        · exact v_move (.inl rfl) rfl (by kernel_rfl) True.intro (Ev.out (by kernel_rfl) rfl)
                        · exact v_iaddr (u := .slice (some ad) n cp) (v := .int .i64 ((j : Nat))) (c := .pointer (some (ad.add (j * 29)))) rfl (fun w => idx_op ad n cp j hlj w) rfl (by kernel_rfl) True.intro (Ev.at (i := 0) (by kernel_rfl) (by kernel_rfl) rfl) (Ev.at (i := 1) (by kernel_rfl) (by kernel_rfl) rfl)
                        · exact v_load (u := .pointer (some (ad.add (j * 29)))) (c := .agg (oc y.1)) rfl (fun w hB => ldp_op (OpIn.keep (OpIn.dr HYI.out) hB)) rfl (by kernel_rfl) True.intro (Ev.at (i := 2) (by kernel_rfl) (by kernel_rfl) rfl)
                        · exact v_move (.inl rfl) rfl (by kernel_rfl) True.intro (Ev.out (by kernel_rfl) rfl)
                        · exact v_move (.inl rfl) rfl (by kernel_rfl) True.intro (Ev.out (by kernel_rfl) rfl)
                        · exact v_iaddr (u := .slice (some ad) n cp) (v := .int .i64 ((t : Nat))) (c := .pointer (some (ad.add (t * 29)))) rfl (fun w => idx_op ad n cp t hlt3 w) rfl (by kernel_rfl) True.intro (Ev.at (i := 4) (by kernel_rfl) (by kernel_rfl) rfl) (Ev.at (i := 5) (by kernel_rfl) (by kernel_rfl) rfl)
                        · exact v_load (u := .pointer (some (ad.add (t * 29)))) (c := .agg (oc u.1)) rfl (fun w hB => ldp_op (OpIn.keep (OpIn.dr HUI.out) hB)) rfl (by kernel_rfl) True.intro (Ev.at (i := 6) (by kernel_rfl) (by kernel_rfl) rfl)
                        · exact v_call (vs := #[.agg (oc y.1), .agg (oc u.1)]) (c := .bool (befB y u)) rfl (fun args w => rfl) (fun w hB => order_Before y u w) rfl (by kernel_rfl) True.intro (ev2 (Ev.at (i := 3) (by kernel_rfl) (by kernel_rfl) rfl) (Ev.at (i := 7) (by kernel_rfl) (by kernel_rfl) rfl))
                        · exact v_move (.inl rfl) rfl (by kernel_rfl) True.intro (Ev.at (i := 8) (by kernel_rfl) (by kernel_rfl) rfl)
                        · exact flow_gd (befB y u) (.slice (some ad) n cp) 9 true (.bool (befB y u)) rfl (by kernel_rfl) rfl gu_t rfl (fun hg hF hj => v_move (.inl rfl) hF (by kernel_rfl) (guard_of rfl (by kernel_rfl) (by kernel_rfl) hj) (Ev.out (by kernel_rfl) rfl))
                        · exact flow_gd (befB y u) (.int .i64 ((k : Nat))) 9 true (.bool (befB y u)) rfl (by kernel_rfl) rfl gu_t rfl (fun hg hF hj => v_move (.inl rfl) hF (by kernel_rfl) (guard_of rfl (by kernel_rfl) (by kernel_rfl) hj) (Ev.out (by kernel_rfl) rfl))
                        · exact flow_gd (befB y u) (.pointer (some (ad.add (k * 29)))) 9 true (.bool (befB y u)) rfl (by kernel_rfl) rfl gu_t rfl (fun hg hF hj => v_iaddr (u := .slice (some ad) n cp) (v := .int .i64 ((k : Nat))) (c := .pointer (some (ad.add (k * 29)))) rfl (fun w => idx_op ad n cp k hlt w) hF (by kernel_rfl) (guard_of rfl (by kernel_rfl) (by kernel_rfl) hj) (Ev.at (i := 10) (by kernel_rfl) (by kernel_rfl) (fe rfl (gd_t hg))) (Ev.at (i := 11) (by kernel_rfl) (by kernel_rfl) (fe rfl (gd_t hg))))
                        · exact flow_gd (befB y u) (.agg (oc x.1)) 9 true (.bool (befB y u)) rfl (by kernel_rfl) rfl gu_t rfl (fun hg hF hj => v_load (u := .pointer (some (ad.add (k * 29)))) (c := .agg (oc x.1)) rfl (fun w hB => ldp_op (OpIn.keep (OpIn.dr HXI.out) hB)) hF (by kernel_rfl) (guard_of rfl (by kernel_rfl) (by kernel_rfl) hj) (Ev.at (i := 12) (by kernel_rfl) (by kernel_rfl) (fe rfl (gd_t hg))))
                        · exact flow_gd (befB y u) (.slice (some ad) n cp) 9 true (.bool (befB y u)) rfl (by kernel_rfl) rfl gu_t rfl (fun hg hF hj => v_move (.inl rfl) hF (by kernel_rfl) (guard_of rfl (by kernel_rfl) (by kernel_rfl) hj) (Ev.out (by kernel_rfl) rfl))
                        · exact flow_gd (befB y u) (.int .i64 ((t : Nat))) 9 true (.bool (befB y u)) rfl (by kernel_rfl) rfl gu_t rfl (fun hg hF hj => v_move (.inl rfl) hF (by kernel_rfl) (guard_of rfl (by kernel_rfl) (by kernel_rfl) hj) (Ev.out (by kernel_rfl) rfl))
                        · exact flow_gd (befB y u) (.pointer (some (ad.add (t * 29)))) 9 true (.bool (befB y u)) rfl (by kernel_rfl) rfl gu_t rfl (fun hg hF hj => v_iaddr (u := .slice (some ad) n cp) (v := .int .i64 ((t : Nat))) (c := .pointer (some (ad.add (t * 29)))) rfl (fun w => idx_op ad n cp t hlt3 w) hF (by kernel_rfl) (guard_of rfl (by kernel_rfl) (by kernel_rfl) hj) (Ev.at (i := 14) (by kernel_rfl) (by kernel_rfl) (fe rfl (gd_t hg))) (Ev.at (i := 15) (by kernel_rfl) (by kernel_rfl) (fe rfl (gd_t hg))))
                        · exact flow_gd (befB y u) (.agg (oc u.1)) 9 true (.bool (befB y u)) rfl (by kernel_rfl) rfl gu_t rfl (fun hg hF hj => v_load (u := .pointer (some (ad.add (t * 29)))) (c := .agg (oc u.1)) rfl (fun w hB => ldp_op (OpIn.keep (OpIn.dr HUI.out) hB)) hF (by kernel_rfl) (guard_of rfl (by kernel_rfl) (by kernel_rfl) hj) (Ev.at (i := 16) (by kernel_rfl) (by kernel_rfl) (fe rfl (gd_t hg))))
                        · exact flow_gd (befB y u) (.bool (befB x u)) 9 true (.bool (befB y u)) rfl (by kernel_rfl) rfl gu_t rfl (fun hg hF hj => v_call (vs := #[.agg (oc x.1), .agg (oc u.1)]) (c := .bool (befB x u)) rfl (fun args w => rfl) (fun w hB => order_Before x u w) hF (by kernel_rfl) (guard_of rfl (by kernel_rfl) (by kernel_rfl) hj) (ev2 (Ev.at (i := 13) (by kernel_rfl) (by kernel_rfl) (fe rfl (gd_t hg))) (Ev.at (i := 17) (by kernel_rfl) (by kernel_rfl) (fe rfl (gd_t hg)))))
                        · exact flow_gd (befB y u) (.bool (!(befB x u))) 9 true (.bool (befB y u)) rfl (by kernel_rfl) rfl gu_t rfl (fun hg hF hj => v_not rfl hF (by kernel_rfl) (guard_of rfl (by kernel_rfl) (by kernel_rfl) hj) (Ev.at (i := 18) (by kernel_rfl) (by kernel_rfl) (fe rfl (gd_t hg))))
                        · exact v_and (p := befB y u) (q := !(befB x u)) rfl rfl (by kernel_rfl) True.intro (Ev.at (i := 9) (by kernel_rfl) (by kernel_rfl) rfl) (fun hp => (Ev.at (i := 19) (by kernel_rfl) (by kernel_rfl) (fe rfl (gd_t hp))))
                      intro _ vs wx hBx hf
                      have e0 : vs 0 = .slice (some ad) n cp := hf 0 (by decide)
                      have e1 : vs 1 = .int .i64 ((j : Nat)) := hf 1 (by decide)
                      have e2 : vs 2 = .pointer (some (ad.add (j * 29))) := hf 2 (by decide)
                      have e3 : vs 3 = .agg (oc y.1) := hf 3 (by decide)
                      have e4 : vs 4 = .slice (some ad) n cp := hf 4 (by decide)
                      have e5 : vs 5 = .int .i64 ((t : Nat)) := hf 5 (by decide)
                      have e6 : vs 6 = .pointer (some (ad.add (t * 29))) := hf 6 (by decide)
                      have e7 : vs 7 = .agg (oc u.1) := hf 7 (by decide)
                      have e8 : vs 8 = .bool (befB y u) := hf 8 (by decide)
                      have e9 : vs 9 = .bool (befB y u) := hf 9 (by decide)
                      have e10 : vs 10 = gd (befB y u) (.slice (some ad) n cp) := hf 10 (by decide)
                      have e11 : vs 11 = gd (befB y u) (.int .i64 ((k : Nat))) := hf 11 (by decide)
                      have e12 : vs 12 = gd (befB y u) (.pointer (some (ad.add (k * 29)))) := hf 12 (by decide)
                      have e13 : vs 13 = gd (befB y u) (.agg (oc x.1)) := hf 13 (by decide)
                      have e14 : vs 14 = gd (befB y u) (.slice (some ad) n cp) := hf 14 (by decide)
                      have e15 : vs 15 = gd (befB y u) (.int .i64 ((t : Nat))) := hf 15 (by decide)
                      have e16 : vs 16 = gd (befB y u) (.pointer (some (ad.add (t * 29)))) := hf 16 (by decide)
                      have e17 : vs 17 = gd (befB y u) (.agg (oc u.1)) := hf 17 (by decide)
                      have e18 : vs 18 = gd (befB y u) (.bool (befB x u)) := hf 18 (by decide)
                      have e19 : vs 19 = gd (befB y u) (.bool (!(befB x u))) := hf 19 (by decide)
                      have e20 : vs 20 = .bool ((befB y u) && (!(befB x u))) := hf 20 (by decide)
                      obtain ⟨z3, hz3⟩ : ∃ z : Bool, ((befB y u) && (!(befB x u))) = z := ⟨_, rfl⟩
                      rw [hz3] at e20
                      have HZ3 := hid hz3
                      clear hz3
                      simp only [fill, List.setIfInBounds_toArray, List.set_cons_zero, List.set_cons_succ, e0, e1, e2, e3, e4, e5, e6, e7, e8, e9, e10, e11, e12, e13, e14, e15, e16, e17, e18, e19, e20]
                      clear e0 e1 e2 e3 e4 e5 e6 e7 e8 e9 e10 e11 e12 e13 e14 e15 e16 e17 e18 e19 e20
                      have HBc := hid (below_next HB3.out hBx)
                      clear hBx hf HXI HYI HUI HB3
                      have hzf : z3 = false := by
                        have h3 := HZ3.out
                        cases h4 : befB y u
                        · rw [h4] at h3; exact h3.symm
                        · rw [HP.out.trans (List.mem_of_getElem? HX.out) (List.mem_of_getElem? HY.out) (List.mem_of_getElem? HU.out) HXY.out h4] at h3
                          rw [← h3]; simp
                      subst hzf
                      clear HZ3
                      go_wp2
                      go_roundw
                      case rel => exact ⟨t + 1, by omega, by go_num, HBc⟩
                      case measure => exact meas1 hlt3
                    · obtain rfl : t = n := by omega
                      go_wp2
                      go_roundw
                      case rel => exact ⟨j + 1, by omega, by go_num, HB3⟩
                      case measure => exact meas1 hlj
                · clear HZ
                  go_wp2
                  go_roundw
                  case rel => exact ⟨j + 1, by omega, by go_num, HBa⟩
                  case measure => exact meas1 hlj
              · obtain rfl : j = n := by omega
                go_wp2
                go_roundw
                case rel => exact ⟨k + 1, by omega, by go_num, HB2⟩
                case measure => exact meas1 hlt
        · obtain rfl : k = n := by omega
          have hhd := HH.out _ HB1.out
          go_wp2_with (go_at_call 9; refine hhd.mono ?_; rintro e w3 ⟨rfl, hb⟩; have HE := hid (below_next HB1.out hb); clear hb)
          go_ret
          exact ⟨rfl, HE.out⟩
    · obtain ⟨m, hmE⟩ : ∃ m, m = histM nr l := ⟨_, rfl⟩
      rw [← hmE] at hhi hm
      have k1 : (m == 0) = false := by simpa using hm
      have k2 : (m != 0) = true := by simpa using hm
      have HMM := hid hmE
      clear hmE hgb h80 h300
      go_enter Tryd.func4, Tryd.ntmps4
      go_wp2_with (first
        | (go_at_call 8; refine hgr.mono ?_; rintro e w1 ⟨rfl, hw⟩; have hw2 := hw.symm; clear hw; subst hw2)
        | (go_at_call 25; refine hhi.mono ?_; rintro e w2 ⟨rfl, hb⟩; have hhd := HH.out _ hb; have HB0 := hid hb; clear hb)
        | (go_at_call 9; refine hhd.mono ?_; rintro e w3 ⟨rfl, hb⟩; have HE := hid (below_next HB0.out hb); clear hb))
      go_ret
      exact ⟨rfl, HE.out⟩
  · rw [hgb] at hgr
    have hhd := HH.out _ (Below.refl _ _)
    clear hgb
    go_enter Tryd.func4, Tryd.ntmps4
    go_wp2_with (first
      | (go_at_call 8; refine hgr.mono ?_; rintro e w1 ⟨rfl, hw⟩; have hw2 := hw.symm; clear hw; subst hw2)
      | (go_at_call 9; refine hhd.mono ?_; rintro e w3 ⟨rfl, hb⟩; have HE := hid hb; clear hb))
    go_ret
    exact ⟨rfl, HE.out⟩
end Go.Proofs.YtagdapmnghnphaaDoor.V
