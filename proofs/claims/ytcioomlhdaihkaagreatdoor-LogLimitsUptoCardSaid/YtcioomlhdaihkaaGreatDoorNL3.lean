/-
  The law of limits, walked.
-/
import Derived.Test.YtcioomlhdaihkaaGreatDoorNL2
namespace Go.Proofs.YtcioomlhdaihkaaGreatDoor.L
set_option linter.unusedVariables false
set_option linter.unusedSimpArgs false
set_option maxRecDepth 100000
open Go Go.RowKit Go.Maps Go.MapKept Go.ChangeMaps Go.Shelf Wire
open K (Gh Ext Dom noX Jd Steady)
attribute [-go_sem] Go.Builtin.append_

set_option maxHeartbeats 4000000 in
theorem law_Limits (v : Value) (xs : List ActM) (la lb : Int) (w : World) (htab : Tab w) (hv : ActsV w v xs) (hla : (Lit.int .i64 la).wf = true) (hlb : (Lit.int .i64 lb).wf = true) :
    Calls Tryz.prog 4 #[v, .int .i64 la, .int .i64 lb] w fun e w' => e = .returned (.bool true) ∧ Below w.heap.size w w' := by
  have hbla := int64 hla
  have hblb := int64 hlb
  have hgr := law_great w v xs hv
  obtain ⟨⟨a, len, cap, rfl, hA⟩, hsum⟩ := hv
  have hlen := hA.1
  have hlm : xs.length ≤ 1048576 := acts_len hsum
  have HA := hid hA
  clear hA hla hlb hsum
  by_cases c1 : la < 1
  · go_enter Tryz.func4, Tryz.ntmps4
    go_wp2_with (first
      | (go_at_call 8; refine hgr.mono ?_; clear hgr; rintro e W1 ⟨g, rfl, hb1, hg⟩; have HB1 := hid hb1; have hh := law_head W1 (htab.below hb1); clear hb1 hg; cases g)
      | (go_at_call 9; refine hh.mono ?_; clear hh; rintro e W2 ⟨rfl, hb2⟩))
    all_goals go_ret
    all_goals exact ⟨rfl, below_next HB1.out hb2⟩
  by_cases c2 : lb < 1
  · go_enter Tryz.func4, Tryz.ntmps4
    go_wp2_with (first
      | (go_at_call 8; refine hgr.mono ?_; clear hgr; rintro e W1 ⟨g, rfl, hb1, hg⟩; have HB1 := hid hb1; have hh := law_head W1 (htab.below hb1); clear hb1 hg; cases g)
      | (go_at_call 9; refine hh.mono ?_; clear hh; rintro e W2 ⟨rfl, hb2⟩))
    all_goals go_ret
    all_goals exact ⟨rfl, below_next HB1.out hb2⟩
  by_cases c3 : 1048576 < la
  · go_enter Tryz.func4, Tryz.ntmps4
    go_wp2_with (first
      | (go_at_call 8; refine hgr.mono ?_; clear hgr; rintro e W1 ⟨g, rfl, hb1, hg⟩; have HB1 := hid hb1; have hh := law_head W1 (htab.below hb1); clear hb1 hg; cases g)
      | (go_at_call 9; refine hh.mono ?_; clear hh; rintro e W2 ⟨rfl, hb2⟩))
    all_goals go_ret
    all_goals exact ⟨rfl, below_next HB1.out hb2⟩
  by_cases c4 : 1048576 < lb
  · go_enter Tryz.func4, Tryz.ntmps4
    go_wp2_with (first
      | (go_at_call 8; refine hgr.mono ?_; clear hgr; rintro e W1 ⟨g, rfl, hb1, hg⟩; have HB1 := hid hb1; have hh := law_head W1 (htab.below hb1); clear hb1 hg; cases g)
      | (go_at_call 9; refine hh.mono ?_; clear hh; rintro e W2 ⟨rfl, hb2⟩))
    all_goals go_ret
    all_goals exact ⟨rfl, below_next HB1.out hb2⟩
  obtain ⟨ma, rfl⟩ : ∃ m : Nat, la = m := ⟨la.toNat, by omega⟩
  obtain ⟨mb, rfl⟩ : ∃ m : Nat, lb = m := ⟨lb.toNat, by omega⟩
  have ha1 : 1 ≤ ma := by omega
  have ha2 : ma ≤ 1048576 := by omega
  have hb1 : 1 ≤ mb := by omega
  have hb2 : mb ≤ 1048576 := by omega
  clear c1 c2 c3 c4 hbla hblb
  go_enter Tryz.func4, Tryz.ntmps4
  go_wp2_with (go_at_call 8; refine hgr.mono ?_; clear hgr; rintro e W1 ⟨g, rfl, hbw, hg⟩; have HB1 := hid hbw; have htab1 := htab.below hbw; have hh := law_head W1 htab1; have hnw := K.sys_New (K.Sys.start W1) 1048576 (by omega); have HG := hid hg; have HA1 := hid (HA.out.keep hbw); clear hbw hg HA; cases g)
  rotate_left
  · go_wp2_with (go_at_call 9; refine hh.mono ?_; clear hh; rintro e W2 ⟨rfl, hb2⟩)
    go_ret
    exact ⟨rfl, below_next HB1.out hb2⟩
  obtain ⟨hl30, h800⟩ := HG.out (by first | rfl | trivial)
  clear hh
  go_wp2_with (go_at_call 7; refine hnw.mono ?_; clear hnw; rintro e W2 ⟨p, rfl, hS0⟩; have hnw2 := K.sys_New hS0 1048576 (by omega); clear hS0)
  go_wp2_with (first
    | (go_at_call 7; refine hnw2.mono ?_; clear hnw2; rintro e W3 ⟨p2, rfl, hS1⟩; have hop := two_open hS1 htab1 ma mb ha1 ha2 hb1 hb2; clear hS1)
    | (go_at_call 10; refine hop.mono ?_; clear hop; rintro e W4 ⟨q, rfl, hop2⟩))
  go_wp2_with (go_at_call 10; refine hop2.mono ?_; clear hop2; rintro e W5 ⟨q2, rfl, hz⟩; have HZ := hid hz; clear hz)
  have hl900 : len ≤ 30 := by omega
  have HX := hid (show ∀ j, wgt (allL (xs.take j)) ≤ 800 from fun j => Nat.le_trans (wgt_allL_take xs j) h800)
  clear HG h800 hl30 hlm
  go_loopw [15] (fun i wr => ∃ k : Nat, k ≤ len ∧ i = .int .i64 k ∧ Hid (∃ A dr z A2 dr2 z2, Two W1 wr p q p2 q2 z z2 [] ∧ Ok 1048576 (2 * k) (2 * k) A dr z ∧ Ok 1048576 k k A2 dr2 z2 ∧ z.2.texts = allL (xs.take k) ∧ z2.2.texts = allL (xs.take k) ∧ z.2.limit = ma ∧ z2.2.limit = mb)) (fun i _ => len - (intOf i).toNat)
  case atStart => exact ⟨0, Nat.zero_le _, rfl, hid ⟨[], none, _, [], none, _, HZ.out, new_ok' 1048576 p ma, new_ok' 1048576 p2 mb, by simp [allL, mOpen], by simp [allL, mOpen], rfl, rfl⟩⟩
  case round =>
    obtain ⟨k, hk, rfl, HW⟩ := hrel
    by_cases hlt : k < len
    · obtain ⟨x, hx⟩ : ∃ x, xs[k]? = some x := ⟨_, List.getElem?_eq_getElem (by omega)⟩
      obtain ⟨ad, B, O, sp, xv, rfl, hAd, hsv0, hcell⟩ := acts_sv HA1.out hx
      obtain ⟨A, dr, z, A2, dr2, z2, hz, hok, hok2, htx, htx2, hlim, hlim2⟩ := HW.out
      obtain ⟨c1, -, hsv⟩ := hcell wr hz.low
      have hwx : wgt (allL (xs.take k) ++ x.L) ≤ 900 := by rw [← allL_take hx]; exact Nat.le_trans (HX.out (k + 1)) (by omega)
      have hap := two_App hz hok htab1 (by omega) (by omega) (by rw [htx]; exact hwx) (by rw [hlim]; exact ha2) hsv0
      obtain ⟨xa, xl, xc, rfl, _⟩ := hsv
      have HC := hid hcell
      have HSV0 := hid hsv0
      have HK2 := hid hok2
      have HTX := hid (And.intro htx htx2)
      have HLM := hid (And.intro hlim hlim2)
      have HXX := hid hx
      have HWX := hid hwx
      clear hcell hsv0 hz hok hok2 htx htx2 hlim hlim2 hx hwx HW
      go_wp2_with (go_at_call 13; refine hap.mono ?_; clear hap; rintro e V1 ⟨rfl, A', z', k1, k2, k3, k4⟩; have c2 := (HC.out V1 k1.low).1; have hap2 := two_App k1.swap HK2.out htab1 (by omega) (by omega) (by rw [HTX.out.2]; exact HWX.out) (by rw [HLM.out.2]; exact hb2) HSV0.out; have K2 := hid k2; have HT3 := hid (k3.trans (by rw [HTX.out.1])); have HL4 := hid (k4.trans HLM.out.1); clear k1 k2 k3 k4)
      go_wp2_with (go_at_call 13; refine hap2.mono ?_; clear hap2; rintro e V2 ⟨rfl, A3, z3, j1, j2, j3, j4⟩; have c3 := (HC.out V2 j1.low).2.1; have J1 := hid j1.swap; have J2 := hid j2; have J3 := hid (j3.trans (by rw [HTX.out.2])); have J4 := hid (j4.trans HLM.out.2); clear j1 j2 j3 j4)
      · have hsn := two_Snap J1.out K2.out htab1 (by omega) (by omega)
        go_wp2_with (go_at_call 15; refine hsn.mono ?_; clear hsn; rintro e V3 ⟨rfl, A4, dr4, z4, m1, m2, m3, m4⟩; have M1 := hid m1; have M2 := hid m2; have M3 := hid (m3.trans HT3.out); have M4 := hid (m4.trans HL4.out); clear m1 m2 m3 m4)
        exact ⟨⟨k + 1, hlt, by go_num, hid ⟨A4, dr4, z4, A3, dr2, z3, M1.out, M2.out.mono (by omega) (by omega), J2.out, by rw [M3.out, allL_take HXX.out], by rw [J3.out, allL_take HXX.out], M4.out, J4.out⟩⟩, by simp [intOf]; omega⟩
      · exact ⟨⟨k + 1, hlt, by go_num, hid ⟨A', dr, z', A3, dr2, z3, J1.out, K2.out.mono (by omega) (by omega), J2.out, by rw [HT3.out, allL_take HXX.out], by rw [J3.out, allL_take HXX.out], HL4.out, J4.out⟩⟩, by simp [intOf]; omega⟩
    · obtain rfl : k = len := by omega
      obtain ⟨A, dr, z, A2, dr2, z2, hz, hok, hok2, htx, htx2, hlim, hlim2⟩ := HW.out
      have htl : xs.take k = xs := by rw [← hlen]; exact List.take_length
      rw [htl] at htx htx2
      have hsc := two_Sync hz hok (by omega)
      have hw8 : wgt (allL xs) ≤ 800 := by have := HX.out xs.length; rwa [List.take_length] at this
      generalize allL xs = T at *
      have HTX := hid (And.intro htx htx2)
      have HK2 := hid hok2
      clear htl hz hok hok2 htx htx2 hlim hlim2 HW
      go_wp2_with (go_at_call 14; refine hsc.mono ?_; clear hsc; rintro e V1 ⟨rfl, z', k1, k2, k3, k4, k5⟩; have hop := four_open k1 k2 HK2.out htab1 (by omega) (by omega) (by omega) (by omega) (k3.trans HTX.out.1) HTX.out.2 (k4.trans (by rw [HTX.out.1])) ma mb ha1 ha2 hb1 hb2; clear k1 k2 k3 k4 k5)
      go_wp2_with (go_at_call 10; refine hop.mono ?_; clear hop; rintro e V2 ⟨q3, rfl, hop2⟩)
      go_wp2_with (first
        | (go_at_call 10; refine hop2.mono ?_; clear hop2; rintro e V3 ⟨q4, rfl, h4⟩; have H4 := hid h4; have HB := hid (Below.refl V3.heap.size V3); have htx := h4.tx (Below.refl _ V3) (by omega) (Or.inl rfl); clear h4)
        | (go_at_call 17; refine htx.mono ?_; clear htx; rintro e V4 ⟨t4, rfl, ho4, hb4⟩; have hty := H4.out.tx hb4 (by omega) (Or.inr (Or.inl rfl)); have HO4 := hid ho4; have HB4 := hid hb4; clear ho4 hb4))
      go_wp2_with (first
        | (go_at_call 17; refine hty.mono ?_; clear hty; rintro e V5 ⟨t5, rfl, ho5, hb5⟩; have HB5 := hid (HB4.out.trans (hb5.mono HB4.out.size)); have hsm := same_rows (own_below HO4.out hb5) ho5; clear ho5 hb5)
        | (go_at_call 16; refine hsm.mono ?_; clear hsm; rintro e V6 ⟨rfl, hb6⟩; have HB6 := hid (HB5.out.trans (hb6.mono HB5.out.size)); have htu := H4.out.tx HB6.out (by omega) (Or.inr (Or.inr (Or.inl rfl))); clear hb6))
      go_wp2_with (go_at_call 17; refine htu.mono ?_; clear htu; rintro e V7 ⟨t7, rfl, ho7, hb7⟩; have HB7 := hid (HB6.out.trans (hb7.mono HB6.out.size)); have HO7 := hid ho7; have htx := H4.out.tx HB7.out (by omega) (Or.inl rfl); clear ho7 hb7)
      go_wp2_with (first
        | (go_at_call 17; refine htx.mono ?_; clear htx; rintro e V8 ⟨t8, rfl, ho8, hb8⟩; have HB8 := hid (HB7.out.trans (hb8.mono HB7.out.size)); have hsm := same_rows (own_below HO7.out hb8) ho8; clear ho8 hb8)
        | (go_at_call 16; refine hsm.mono ?_; clear hsm; rintro e V9 ⟨rfl, hb9⟩; have HB9 := hid (HB8.out.trans (hb9.mono HB8.out.size)); have htv := H4.out.tx HB9.out (by omega) (Or.inr (Or.inr (Or.inr rfl))); clear hb9))
      go_wp2_with (go_at_call 17; refine htv.mono ?_; clear htv; rintro e V10 ⟨t10, rfl, ho10, hb10⟩; have HB10 := hid (HB9.out.trans (hb10.mono HB9.out.size)); have HO10 := hid ho10; have htx := H4.out.tx HB10.out (by omega) (Or.inl rfl); clear ho10 hb10)
      go_wp2_with (first
        | (go_at_call 17; refine htx.mono ?_; clear htx; rintro e V11 ⟨t11, rfl, ho11, hb11⟩; have HB11 := hid (HB10.out.trans (hb11.mono HB10.out.size)); have hsm := same_rows (own_below HO10.out hb11) ho11; clear ho11 hb11)
        | (go_at_call 16; refine hsm.mono ?_; clear hsm; rintro e V12 ⟨rfl, hb12⟩; have HB12 := hid (HB11.out.trans (hb12.mono HB11.out.size)); have hsy := H4.out.sy HB12.out; clear hb12)
        | (go_at_call 11; refine hsy.mono ?_; clear hsy; rintro e w' ⟨rfl, rfl⟩; have htz := H4.out.tx HB12.out (by omega) (Or.inl rfl)))
      go_wp2_with (first
        | (go_at_call 17; refine htz.mono ?_; clear htz; rintro e V13 ⟨t13, rfl, ho13, hb13⟩; obtain ⟨ta, tc, rfl⟩ := Q.out_form ho13; have HB13 := hid (HB12.out.trans (hb13.mono HB12.out.size)); have hlow := H4.out.low.trans (HB13.out.mono H4.out.low.size); have HLOW := hid (below_next HB1.out hlow); have hh := law_head V13 (htab1.below hlow); clear ho13 hb13 hlow)
        | (go_at_call 9; refine hh.mono ?_; clear hh; rintro e V14 ⟨rfl, hb14⟩))
      go_ret
      exact ⟨rfl, below_next HLOW.out hb14⟩
end Go.Proofs.YtcioomlhdaihkaaGreatDoor.L
