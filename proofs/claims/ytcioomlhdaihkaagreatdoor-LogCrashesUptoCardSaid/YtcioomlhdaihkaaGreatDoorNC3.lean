/-
  The law of crashes, walked.
-/
import Derived.Test.YtcioomlhdaihkaaGreatDoorNC2
import Derived.Deep.Cut
import Derived.Deep.CutRange
import Derived.Deep.CutBlock
namespace Go.Proofs.YtcioomlhdaihkaaGreatDoor.L
set_option linter.unusedVariables false
set_option linter.unusedSimpArgs false
set_option maxRecDepth 100000
open Go Go.RowKit Go.Maps Go.MapKept Go.ChangeMaps Go.Shelf Wire
open K (Gh Ext Dom noX Jd Steady)
attribute [-go_sem] Go.Builtin.append_

theorem tmod_100 (n : Nat) (h : n < 65536) : 0 ≤ (wrap64 (n : Int)).tmod 100 ∧ (wrap64 (n : Int)).tmod 100 ≤ 1000000 := by
  rw [IntWalk.wrap64_in (n : Int) ⟨by omega, by omega⟩, Int.tmod_eq_emod_of_nonneg (by omega)]
  omega

set_option maxHeartbeats 8000000 in
theorem law_Crashes (ro li : Int) (v : Value) (xs : List ActM) (ta tb tc : Nat) (w : World) (htab : Tab w) (hro : -9223372036854775808 ≤ ro ∧ ro ≤ 9223372036854775807) (hli : -9223372036854775808 ≤ li ∧ li ≤ 9223372036854775807) (hv : ActsV w v xs) (hta : ta < 65536) (htb : tb < 65536) (htc : tc < 65536) :
    Calls Tryz.prog 3 #[.agg #[.int .i64 ro, .int .i64 li], v, .agg #[.int .u16 (ta : Int), .int .u16 (tb : Int), .int .u16 (tc : Int)]] w fun e w' => e = .returned (.bool true) ∧ Below w.heap.size w w' := by
  obtain ⟨⟨a, len, cap, rfl, hA⟩, hsum⟩ := hv
  have hlen := hA.1
  have hbb : Below w.heap.size w ((w.alloc (.cells #[.int .i64 ro, .int .i64 li] 23)).alloc (.cells #[.int .u16 (ta : Int), .int .u16 (tb : Int), .int .u16 (tc : Int)] 26)) := ((Below.refl _ w).alloc (Nat.le_refl _) _).alloc (by simp) _
  by_cases hbad : ro < 0 ∨ 16777216 < ro
  · have hnw := disk_New_bad ro hbad ((w.alloc (.cells #[.int .i64 ro, .int .i64 li] 23)).alloc (.cells #[.int .u16 (ta : Int), .int .u16 (tb : Int), .int .u16 (tc : Int)] 26))
    have hh := law_head _ (htab.below hbb)
    clear hbad
    go_enter Tryz.func3, Tryz.ntmps3
    go_wp2_with (first
      | (go_at_call 7; refine hnw.mono ?_; clear hnw; rintro e w' ⟨rfl, rfl⟩)
      | (go_at_call 9; refine hh.mono ?_; clear hh; rintro e W2 ⟨rfl, hb2⟩))
    go_ret
    exact ⟨rfl, below_next hbb hb2⟩
  obtain ⟨room, rfl⟩ : ∃ r : Nat, ro = r := ⟨ro.toNat, by omega⟩
  have hr2 : room ≤ 16777216 := by omega
  obtain ⟨Wb, hWb⟩ : ∃ Wb, Wb = ((w.alloc (.cells #[.int .i64 (room : Int), .int .i64 li] 23)).alloc (.cells #[.int .u16 (ta : Int), .int .u16 (tb : Int), .int .u16 (tc : Int)] 26)) := ⟨_, rfl⟩
  have hp1 : Wb.cell? ⟨w.heap.size, 1, none⟩ = some (.int .i64 li) := by
    rw [hWb]
    have h1 : ((w.alloc (.cells #[.int .i64 (room : Int), .int .i64 li] 23)).alloc (.cells #[.int .u16 (ta : Int), .int .u16 (tb : Int), .int .u16 (tc : Int)] 26)).heap[w.heap.size]? = some (.cells #[.int .i64 (room : Int), .int .i64 li] 23 (0, 0)) := (Below.heap_alloc _ _ _ (by simp)).trans (heap_alloc_last w _)
    exact (K.cell_row h1 1).trans rfl
  have hq : ∀ j, Wb.cell? ⟨w.heap.size + 1, j, none⟩ = (#[Value.int .u16 (ta : Int), .int .u16 (tb : Int), .int .u16 (tc : Int)])[j]? := fun j => by
    have h1 := heap_alloc_last (w.alloc (.cells #[.int .i64 (room : Int), .int .i64 li] 23)) (.cells #[.int .u16 (ta : Int), .int .u16 (tb : Int), .int .u16 (tc : Int)] 26)
    rw [World.size_alloc] at h1
    rw [hWb]
    exact K.cell_row h1 j
  rw [← hWb] at hbb
  have hnw := K.sys_New (K.Sys.start Wb) room hr2
  have htab1 := htab.below hbb
  have HA1 := hid (hA.keep hbb)
  have HB1 := hid hbb
  have HSUM := hid hsum
  have HP1 := hid hp1
  have HQ := hid hq
  have hlm : xs.length ≤ 1048576 := acts_len hsum
  have HWB := hid (show ((w.alloc (.cells #[.int .i64 (room : Int), .int .i64 li] 23)).alloc (.cells #[.int .u16 (ta : Int), .int .u16 (tb : Int), .int .u16 (tc : Int)] 26)) = Wb from hWb.symm)
  rw [hWb] at hnw
  have HSZ := hid (show w.heap.size + 2 ≤ Wb.heap.size by rw [hWb]; simp)
  clear hbad hA hsum hbb hp1 hq hWb
  go_enter Tryz.func3, Tryz.ntmps3
  go_wp2_with (go_at_call 7; refine hnw.mono ?_; clear hnw; rintro e W2 ⟨p, rfl, hS0⟩; rw [HWB.out] at hS0; have hlow := (show Below Wb.heap.size Wb W2 by obtain ⟨A, hS⟩ := hS0; exact hS.below); have hgr := law_great W2 _ xs ⟨⟨a, len, cap, rfl, HA1.out.keep hlow⟩, HSUM.out⟩; have HS0 := hid hS0; have HL := hid hlow; clear hS0 hlow)
  go_wp2_with (go_at_call 8; refine hgr.mono ?_; clear hgr; rintro e W3 ⟨g, rfl, hb3, hg⟩; have HS := hid (HS0.out.below hb3); have HL3 := hid (HL.out.trans (hb3.mono HL.out.size)); have HG := hid hg; have hp3 := (HL3.out.cell (p := ⟨w.heap.size, 1, none⟩) (show w.heap.size < Wb.heap.size by have := HSZ.out; omega)).trans HP1.out; clear hb3 hg; cases g)
  rotate_left
  · have hh := law_head W3 (htab1.below HL3.out)
    go_wp2_with (go_at_call 9; refine hh.mono ?_; clear hh; rintro e W4 ⟨rfl, hb4⟩)
    go_ret
    exact ⟨rfl, below_next (below_next HB1.out HL3.out) hb4⟩
  obtain ⟨hl30, h800⟩ := HG.out (by first | rfl | trivial)
  clear HG HSUM
  by_cases hlb : li < 1 ∨ 1048576 < li
  · have hop := log_Open_bad HS.out (by simp [K.St.lim, K.new, K.wt, K.St.pend]) li hlb
    have hh := law_head W3 (htab1.below HL3.out)
    clear hlb
    go_wp2_with (first
      | (go_at_call 10; refine hop.mono ?_; clear hop; rintro e w' ⟨rfl, rfl⟩)
      | (go_at_call 9; refine hh.mono ?_; clear hh; rintro e W4 ⟨rfl, hb4⟩))
    go_ret
    exact ⟨rfl, below_next (below_next HB1.out HL3.out) hb4⟩
  obtain ⟨lim, rfl⟩ : ∃ m : Nat, li = m := ⟨li.toNat, by omega⟩
  have hl1 : 1 ≤ lim := by omega
  have hl2 : lim ≤ 1048576 := by omega
  clear hlb
  have hop := call_Open HS.out List.nodup_nil htab1 (new_ok' room p lim).up.core ((new_ok' room p lim).rm (by omega)) (by omega) lim hl1 hl2
  have hl900 : len ≤ 30 := by omega
  have HX := hid h800
  have hq0 : ∀ V, Below Wb.heap.size Wb V → V.cell? ⟨w.heap.size + 1, 0, none⟩ = some (.int .u16 (ta : Int)) := fun V hV => (hV.cell (p := ⟨w.heap.size + 1, 0, none⟩) (show w.heap.size + 1 < Wb.heap.size by have := HSZ.out; omega)).trans (HQ.out 0)
  have HQ0 := hid hq0
  have hq1 : ∀ V, Below Wb.heap.size Wb V → V.cell? ⟨w.heap.size + 1, 1, none⟩ = some (.int .u16 (tb : Int)) := fun V hV => (hV.cell (p := ⟨w.heap.size + 1, 1, none⟩) (show w.heap.size + 1 < Wb.heap.size by have := HSZ.out; omega)).trans (HQ.out 1)
  have HQ1 := hid hq1
  have hq2 : ∀ V, Below Wb.heap.size Wb V → V.cell? ⟨w.heap.size + 1, 2, none⟩ = some (.int .u16 (tc : Int)) := fun V hV => (hV.cell (p := ⟨w.heap.size + 1, 2, none⟩) (show w.heap.size + 1 < Wb.heap.size by have := HSZ.out; omega)).trans (HQ.out 2)
  have HQ2 := hid hq2
  have hpl : ∀ V, Below Wb.heap.size Wb V → V.cell? ⟨w.heap.size, 1, none⟩ = some (.int .i64 (lim : Nat)) := fun V hV => (hV.cell (p := ⟨w.heap.size, 1, none⟩) (show w.heap.size < Wb.heap.size by have := HSZ.out; omega)).trans HP1.out
  have HPL := hid hpl
  clear hq0 hq1 hq2 hpl h800 hl30 HP1 HQ hp3
  go_upto_if 52 with (go_at_call 10; refine hop.mono ?_; clear hop; rintro e W4 ⟨q, rfl, hz⟩; have HZ := hid hz; have hc0 := HQ0.out W4 hz.1.low; clear hz)
  go_cut [12] from 50 to 58 (fun v wx => ∃ n0 : Int, v = .int .i64 n0 ∧ wx = W4)
  case first =>
    go_wp2_with fail
    all_goals go_meet
    all_goals exact ⟨_, rfl, rfl⟩
  case rest =>
  obtain ⟨n0, rfl, rfl⟩ := hcut
  clear hc0
  go_wp2_with fail
  go_loopw [9, 11, 13] (fun xv av i wr => ∃ k : Nat, k ≤ len ∧ i = .int .i64 k ∧ ∃ qq : Nat, xv = .pointer (some ⟨qq, 0, none⟩) ∧ Hid (Ahead Wb wr p qq lim k (wgt (allL (xs.take k))) av)) (fun _ _ i _ => len - (intOf i).toNat)
  case atStart => exact ⟨0, Nat.zero_le _, rfl, q, rfl, hid ⟨[], _, [], none, HZ.out, (new_ok' room p lim).up, ⟨by simp [K.St.lim, K.new, K.wt, K.St.pend], by simp [K.new]⟩, ⟨[], .inl ⟨rfl, rfl, rfl⟩, fun y hy => by cases hy⟩, rfl, by simp [allL, mOpen, wgt]⟩⟩
  case round =>
  obtain ⟨k, hk, rfl, q1, rfl, HW⟩ := hrel
  by_cases hlt : k < len
  rotate_left
  · obtain rfl : k = len := by omega
    obtain ⟨R, z, A, dr, hz, -⟩ := HW.out
    have hlow := hz.1.low
    have hh := law_head wr (htab1.below hlow)
    have HLOW := hid (below_next HB1.out hlow)
    clear HW hz hlow
    go_wp2_with (go_at_call 9; refine hh.mono ?_; clear hh; rintro e V11 ⟨rfl, hb11⟩)
    go_ret
    exact ⟨rfl, below_next HLOW.out hb11⟩
  obtain ⟨x, hx⟩ : ∃ x, xs[k]? = some x := ⟨_, List.getElem?_eq_getElem (by omega)⟩
  obtain ⟨ad, B, O, sp, xv, rfl, hAd, hsv0, hcell⟩ := acts_sv HA1.out hx
  obtain ⟨R, ⟨s0, L⟩, A, dr, hz, hu, hl, ha, hlim, hW⟩ := HW.out
  have hsy := call_Synced hz
  have HSX := hid (show wgt L.texts + wgt x.L ≤ wgt (allL (xs.take (k + 1))) by rw [allL_take hx, wgt_app]; have := hW; simp only at this; omega)
  have HW8 := hid (show wgt (allL (xs.take (k + 1))) ≤ 900 from Nat.le_trans (wgt_allL_take xs _) (by have := HX.out; omega))
  have HC := hid hcell
  have HSV0 := hid hsv0
  have HZ1 := hid hz
  have HU := hid hu
  have HL1 := hid hl
  have HA := hid ha
  have HLIM := hid hlim
  have HWK := hid hW
  clear hcell hsv0 hz hu hl ha hlim hW hx HW
  go_upto_if 69 with (first
    | (go_at_call 11; refine hsy.mono ?_; clear hsy; rintro e w' ⟨rfl, rfl⟩))
  have hcq := HQ1.out wr HZ1.out.1.low
  have hfu := call_Fuse HZ1.out HU.out HL1.out ((tb : Int) % 60) (by omega) (by omega)
  go_cut [] from 59 to 190 (fun wx => Hid (∃ s1, LZ Wb wx p q1 [] R (s1, L) ∧ Up k A dr (s1, L) ∧ Lms k s1))
  case first =>
    go_wp2_with (go_at_call 12; refine hfu.mono ?_; clear hfu; rintro e w' ⟨rfl, ⟨s1, L1⟩, hz', hu', hl', e2⟩; obtain rfl : L = L1 := e2.symm; have HN := hid (show ∃ s1, LZ Wb w' p q1 [] R (s1, L) ∧ Up k A dr (s1, L) ∧ Lms k s1 from ⟨s1, hz', hu', hl'⟩); clear hz' hu' hl')
    all_goals go_meet
    all_goals first | exact HN | exact hid ⟨s0, HZ1.out, HU.out, HL1.out⟩
  case rest =>
  obtain ⟨s1, hz, hu, hl⟩ := hcut.out
  have haO := HA.out.own hz
  obtain ⟨aa, ac, rfl⟩ := Q.out_form haO
  have hlt1 : L.texts.length ≤ 900 := by have := wgt_len L.texts; have := HSX.out; have := HW8.out; omega
  have hlx1 : x.L.length ≤ 900 := by have := wgt_len x.L; have := HSX.out; have := HW8.out; omega
  have hW1 : wgt L.texts ≤ wgt (allL (xs.take (k + 1))) := by have := HSX.out; omega
  have hW2 : wgt (L.texts ++ x.L) ≤ wgt (allL (xs.take (k + 1))) := by rw [wgt_app]; exact HSX.out
  obtain ⟨t1, c1, w1, hr1, ho1, hb1⟩ := app_copy wc (Q.OutV.sv haO) (by omega)
  have hlw1 := hz.1.low.trans (hb1.mono hz.1.low.size)
  obtain ⟨hcL1, hcA1, hsv1⟩ := HC.out w1 hlw1
  obtain ⟨v2, w2, hr2, ho2, hb2, t2, c2, rfl⟩ := app_one ho1 hb1.size hsv1 (by omega) (by omega)
  generalize (L.texts ++ x.L).length = n2 at *
  have hb12 := hb1.trans hb2
  obtain ⟨hcL2, -, -⟩ := HC.out w2 (hz.1.low.trans (hb12.mono hz.1.low.size))
  obtain ⟨xa, xl, xc, rfl, _⟩ := id HSV0.out
  obtain ⟨R1, hz1, ht1, hs1⟩ := keep_copy hz ho1 hb1
  obtain ⟨R2, hz2, ht2, hs2⟩ := keep_copy hz ho2 hb12
  have hap := mid_app (sy := L.synced) hz2 hu hl (HA.out.more hs2) ht2 HLIM.out hW2 HW8.out (Nat.le_refl _) htab1 (by omega) hl2 HSV0.out
  have hsc := mid_sync (sy := L.synced) hz1 hu hl (HA.out.more hs1) ht1 HLIM.out hW1 (Nat.le_refl _) (by omega)
  have hsn := mid_snap (sy := L.synced) hz1 hu hl (HA.out.more hs1) ht1 HLIM.out hW1 (Nat.le_refl _) htab1 (by omega)
  clear hcq hfu hcut hz hu hl haO ho1 hb1 hsv1 ho2 hb2 hb12 hz1 ht1 hs1 hz2 ht2 hs2 hW1 hW2 hlw1
  go_upto_block 2 with fail
  go_cut [11, 15] from 59 to 190 (fun av tv wx => Hid (Mid Wb wx p q1 lim (k + 1) (wgt (allL (xs.take (k + 1)))) L.synced av tv))
  case first =>
    as_aux_lemma =>
      go_wp2_with (first
        | (go_at_call 13; refine hap.mono ?_; clear hap; rintro e w' (⟨rfl, hm⟩ | ⟨rfl, hm⟩ | ⟨rfl, hm⟩) <;> (have HM := hid hm; clear hm))
        | (go_at_call 14; refine hsc.mono ?_; clear hsc; rintro e w' ⟨n1, rfl, hm⟩; have HM := hid hm; clear hm)
        | (go_at_call 15; refine hsn.mono ?_; clear hsn; rintro e w' ⟨n1, rfl, hm⟩; have HM := hid hm; clear hm))
      all_goals go_meet
      all_goals exact HM
  case rest =>
  obtain ⟨R3, z, P, hz, hA, hl, ha, ht, hlim, hpre, hW, hsy⟩ := hcut.out
  obtain ⟨a3, c3, rfl⟩ := Q.out_form (ha.own hz)
  obtain ⟨t3, d3, rfl⟩ := Q.out_form (ht.own hz)
  have hzt : wgt z.2.texts ≤ 900 := by obtain ⟨r, hr⟩ := hpre; have h9 := HW8.out; rw [← hr, wgt_app] at hW; omega
  have htx := call_Texts hz hzt
  have hsyn := hA.syn
  have HZ3 := hid hz
  have HA3 := hid hA
  have HL3' := hid hl
  have HK3 := hid ha
  have HT3 := hid ht
  have HLM3 := hid hlim
  have HP3 := hid hpre
  have HW3 := hid hW
  clear hcut hz hA hl ha ht hlim hpre hW hr1 hr2 hap hsc hsn hcL1 hcA1 hcL2
  go_upto_region 32 with (first
    | (go_at_call 17; refine htx.mono ?_; clear htx; rintro e V1 ⟨tv1, rfl, ho1, hb1⟩; have HV1 := hid hb1; have hsm := same_rows ho1 (HK3.out.own (HZ3.out.below hb1)); clear ho1 hb1)
    | (go_at_call 16; refine hsm.mono ?_; clear hsm; rintro e V2 ⟨rfl, hb2⟩; have HV2 := hid (HV1.out.trans (hb2.mono HV1.out.size)); have hcs := call_Synced (HZ3.out.below HV2.out); clear hb2)
    | (go_at_call 11; refine hcs.mono ?_; rintro e w' ⟨rfl, rfl⟩))
  have hz3 := HZ3.out.below HV2.out
  have hdn := call_Down hz3
  have HZV := hid hz3
  clear hz3
  by_cases hcont : (k : Int) ≠ n0 ∧ z.1.down = false
  · obtain ⟨hkn, hd0⟩ := hcont
    obtain ⟨A5, dr5, hu5⟩ := HA3.out.up hd0
    rw [hd0] at hdn
    have hkn1 : ((k : Int) == n0) = false := by simpa using hkn
    have HU5 := hid hu5
    clear hu5 hd0 hcs
    go_wp2_with (go_at_call 18; refine hdn.mono ?_; rintro e w' ⟨rfl, rfl⟩)
    exact ⟨⟨k + 1, hlt, by go_num, q1, rfl, hid ⟨R3, z, A5, dr5, HZV.out, HU5.out, HL3'.out, HK3.out, HLM3.out, by obtain ⟨r, hr⟩ := HP3.out; have h9 := HW3.out; rw [← hr, wgt_app] at h9; omega⟩⟩, by simp [intOf]; omega⟩
  have hcr := mid_crash HZV.out HA3.out HL3'.out HT3.out HLM3.out HW3.out HW8.out htab1 (by omega) hl1 hl2 ((wrap64 (tc : Int)).tmod 100) (tmod_100 tc htc).1 (tmod_100 tc htc).2
  have hcr2 := mid_crash HZV.out HA3.out HL3'.out HT3.out HLM3.out HW3.out HW8.out htab1 (by omega) hl1 hl2 ((tc : Int) % 100) (by omega) (by omega)
  have hq2 := HQ2.out V2 HZV.out.1.low
  have htl4 : P.length ≤ d3 := by
    obtain ⟨ad5, len5, cap5, e5, hI5⟩ := Q.OutV.sv (HT3.out.own HZV.out)
    cases e5
    exact hI5.hle
  as_aux_lemma =>
    go_cut [138] from 59 to 190 (fun b wx => b = .bool false ∧ wx = V2)
    case first =>
      by_cases hkn : (k : Int) = n0
      · subst hkn
        go_wp2_with fail
        all_goals go_meet
        all_goals exact ⟨rfl, rfl⟩
      · have hd1 : z.1.down = true := by
          cases h : z.1.down with
          | true => rfl
          | false => exact absurd ⟨hkn, h⟩ hcont
        rw [hd1] at hdn
        have hkn1 : ((k : Int) == n0) = false := by simpa using hkn
        go_wp2_with (go_at_call 18; refine hdn.mono ?_; rintro e w' ⟨rfl, rfl⟩)
        all_goals go_meet
        all_goals exact ⟨rfl, rfl⟩
    case rest =>
    obtain ⟨rfl, rfl⟩ := hcut
    clear hdn hcont hsyn
    go_upto_region 34 with (go_at_call 11; refine hcs.mono ?_; clear hcs; rintro e w' ⟨rfl, rfl⟩)
    go_upto_region 35 with (first
      | (go_at_call 19; (with_reducible refine hcr.mono ?_); clear hcr hcr2; rintro e V3 ⟨rfl, hlow3, hop⟩; have hpl3 := HPL.out V3 hlow3; clear hlow3)
      | (go_at_call 19; (with_reducible refine hcr2.mono ?_); clear hcr hcr2; rintro e V3 ⟨rfl, hlow3, hop⟩; have hpl3 := HPL.out V3 hlow3; clear hlow3))
    go_upto_region 38 with (go_at_call 10; refine hop.mono ?_; clear hop; rintro e V4 ⟨q4, rfl, hnw⟩; have HNW := hid hnw; clear hnw)
    obtain ⟨R4, z4, A4, dr4, hz4, hu4, hl4, hs4, hlm4, hp4, hsy4, ht4, hw4⟩ := HNW.out
    have htx4 := call_Texts hz4 (Nat.le_trans hw4 HW8.out)
    have hple := hp4.length_le
    have HZ4 := hid hz4
    have HU4 := hid hu4
    have HL4 := hid hl4
    have HS4 := hid hs4
    have HLM4 := hid hlm4
    have HP4 := hid hp4
    have HT4 := hid ht4
    have HW4 := hid hw4
    obtain ⟨T, hT⟩ : ∃ T, T = z4.2.texts := ⟨_, rfl⟩
    rw [← hT] at htx4 hple hsy4
    have HTT := hid hT
    clear hz4 hu4 hl4 hs4 hlm4 hp4 ht4 hw4 HNW hpl3 hq2 hT hsy
    go_upto_region 39 with (go_at_call 17; refine htx4.mono ?_; clear htx4; rintro e V5 ⟨tv5, rfl, ho5, hb5⟩; obtain ⟨a5, c5, rfl⟩ := Q.out_form ho5; obtain ⟨R5, hz5, hk5, hs5⟩ := keep_copy HZ4.out ho5 hb5; have hsm := Q.ref_Same T T (.slice a5 T.length c5) (.slice t3 T.length d3) V5 (Q.OutV.sv ho5) (sv_pre ((HT4.out.more hs5).own hz5) (by rw [HTT.out]; exact HP4.out)); rw [decide_eq_true (rfl : T = T)] at hsm; have HZ5 := hid hz5; have HK5 := hid hk5; clear hz5 hk5 ho5 hb5 hs5)
    go_wp2_with (first
      | (go_at_call 16; refine hsm.mono ?_; clear hsm; rintro e V6 ⟨rfl, hb6⟩; have HZ6 := hid (HZ5.out.below hb6); have hcs4 := call_Synced HZ6.out; rw [HS4.out, ← HTT.out] at hcs4; clear hb6)
      | (go_at_call 11; refine hcs4.mono ?_; clear hcs4; rintro e w' ⟨rfl, rfl⟩))
    exact ⟨⟨k + 1, hlt, by go_num, q4, rfl, hid ⟨R5, z4, A4, dr4, HZ6.out, HU4.out, HL4.out, by rw [← HTT.out]; exact HK5.out, HLM4.out, HW4.out⟩⟩, by simp [intOf]; omega⟩
end Go.Proofs.YtcioomlhdaihkaaGreatDoor.L
