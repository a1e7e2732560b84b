/-
  The law of snapshots.
-/
import Derived.Test.YtcioomlhdaihkaaGreatDoorNQ
namespace Go.Proofs.YtcioomlhdaihkaaGreatDoor.L
set_option linter.unusedVariables false
set_option linter.unusedSimpArgs false
set_option maxRecDepth 100000
open Go Go.RowKit Go.Maps Go.MapKept Go.ChangeMaps Go.Shelf Wire
open K (Gh Ext Dom noX Jd Steady)
attribute [-go_sem] Go.Builtin.append_

theorem same_rows {V : World} {v u : Value} {l : List Bs} {B B' : Nat} (hv : OwnS B V v l) (hu : OwnS B' V u l) :
    Calls Tryz.prog 16 #[v, u] V fun e w' => e = .returned (.bool true) ∧ Below V.heap.size V w' := by
  have h := Q.ref_Same l l v u V (Q.OutV.sv hv) (Q.OutV.sv hu)
  rw [decide_eq_true (rfl : l = l)] at h
  exact h
theorem call_Units {w0 w : World} {p q : Nat} {z : Z} {ds : List (Nat × K.St)} {Rb : Bxs} (hz : LZ w0 w p q ds Rb z) (hu : z.1.units = 0) : Calls Tryz.prog 21 #[.pointer (some ⟨p, 0, none⟩)] w fun e w' => e = .returned (.int .i64 0) ∧ w = w' := by
  obtain ⟨bs, hS⟩ := hz.1.sys
  have h := K.sys_Units hS
  rw [hu] at h
  exact h
/-- Strings are appended to a row of one's own. -/
theorem app_one {B : Nat} {V : World} {v u : Value} {l ys : List Bs} (hO : OwnS B V v l) (hB : B ≤ V.heap.size) (hu : Q.SV V u ys) (hl : l.length ≤ 1000) (hy : ys.length ≤ 1000) :
    ∃ v' w', (Builtin.append_ #[36, 36] 36 #[v, u]).run Tryz.prog V = .ok v' w' ∧ OwnS B w' v' (l ++ ys) ∧ Below B V w' ∧ ∃ a c, v' = .slice a (l ++ ys).length c := by
  obtain ⟨ad, len, cap, rfl, hI⟩ := hu
  obtain ⟨v', w', hr, ho, hg, _, _⟩ := strs_append hO hB hI (by omega) (by omega)
  refine ⟨v', w', hr, ho, (Below.refl B V).grown hg hB (fun k hk => (own_lt hO hk).2), Q.out_form ho⟩
/-- A copy of strings, with more of them. -/
theorem app_copy (V : World) {u : Value} {ys : List Bs} (hu : Q.SV V u ys) (hy : ys.length ≤ 1000) :
    ∃ a c w', (Builtin.append_ #[36, 36] 36 #[.slice (some ⟨V.heap.size, 0, none⟩) 0 0, u]).run Tryz.prog (V.alloc (.cells #[] 9)) = .ok (.slice a ys.length c) w' ∧ OwnS V.heap.size w' (.slice a ys.length c) ys ∧ Below V.heap.size V w' := by
  have h0 : OwnS V.heap.size (V.alloc (.cells #[] 9)) (.slice (some ⟨V.heap.size, 0, none⟩) 0 0) [] := World.ownsRow_made V #[] 0 (Nat.le_refl _) (Nat.zero_le _) rfl
  have hb : Below V.heap.size V (V.alloc (.cells #[] 9)) := (Below.refl _ V).alloc (Nat.le_refl _) _
  obtain ⟨v', w', hr, ho, hb2, a, c, rfl⟩ := app_one h0 (by simp) (hu.keep hb) (by simp) hy
  rw [List.nil_append] at hr ho
  exact ⟨a, c, w', hr, ho, hb.trans hb2⟩
/-- Strings that are written out are appended to a row of one's own. -/
theorem app_wrote {B : Nat} {V : World} {v : Value} {l m : List Bs} (hO : OwnS B V v l) (hB : B ≤ V.heap.size) (hl : l.length ≤ 1000) (hm : m.length ≤ 1000) :
    ∃ a n c w', (Builtin.append_ #[36, 36] 36 #[v, .slice (some ⟨V.heap.size, 0, none⟩) m.length m.length]).run Tryz.prog (V.alloc (.cells (Q.strCells m).toArray 9)) = .ok (.slice a n c) w' ∧ OwnS B w' (.slice a n c) (l ++ m) ∧ Below B V w' := by
  have hb : Below V.heap.size V (V.alloc (.cells (Q.strCells m).toArray 9)) := (Below.refl _ V).alloc (Nat.le_refl _) _
  obtain ⟨v', w', hr, ho, hb2, a, c, rfl⟩ := app_one (own_below hO hb) (by simp; omega) (sv_lit (heap_alloc_last V _) (by unfold maxLen; omega)) hl hm
  exact ⟨a, _, c, w', hr, ho, ((Below.refl B V).alloc hB _).trans hb2⟩
theorem conv_u8 (n : Int) (h0 : 0 ≤ n) (h1 : n ≤ 255) (W : World) : (convert 5 3 (.int .u8 n)).run Tryz.prog W = .ok (.int .i64 n) W := by
  have hw : IntKind.i64.wrap n = n := IntWalk.i64_in n ⟨by omega, by omega⟩
  simp [convert, run_underlying Tryz.underlying5, run_underlying Tryz.underlying3, go_sem, hw]
set_option maxHeartbeats 4000000 in
theorem law_Snaps (v : Value) (xs : List ActM) (lim : Int) (ti : Int) (w : World) (htab : Tab w) (hv : ActsV w v xs) (hl : (Lit.int .i64 lim).wf = true) (ht : (Lit.int .u8 ti).wf = true) :
    Calls Tryz.prog 6 #[v, .int .i64 lim, .int .u8 ti] w fun e w' => e = .returned (.bool true) ∧ Below w.heap.size w w' := by
  obtain ⟨tm, rfl, htm⟩ := nat8 ht
  have hlb := int64 hl
  have hgr := law_great w v xs hv
  obtain ⟨⟨a, len, cap, rfl, hA⟩, hsum⟩ := hv
  have hlen := hA.1
  have hlm : xs.length ≤ 1048576 := acts_len hsum
  have HA := hid hA
  clear hA hl ht hsum
  by_cases hbad : lim < 1 ∨ 1048576 < lim
  · by_cases h1 : lim < 1
    · clear hbad
      go_enter Tryz.func6, Tryz.ntmps6
      go_wp2_with (first
        | (go_at_call 8; refine hgr.mono ?_; clear hgr; rintro e W1 ⟨g, rfl, hb1, hg⟩; have HB1 := hid hb1; have hh := law_head W1 (htab.below hb1); clear hb1 hg; cases g)
        | (go_at_call 9; refine hh.mono ?_; clear hh; rintro e W2 ⟨rfl, hb2⟩))
      all_goals go_ret
      all_goals exact ⟨rfl, below_next HB1.out hb2⟩
    · have h2 : 1048576 < lim := hbad.resolve_left h1
      clear hbad
      go_enter Tryz.func6, Tryz.ntmps6
      go_wp2_with (first
        | (go_at_call 8; refine hgr.mono ?_; clear hgr; rintro e W1 ⟨g, rfl, hb1, hg⟩; have HB1 := hid hb1; have hh := law_head W1 (htab.below hb1); clear hb1 hg; cases g)
        | (go_at_call 9; refine hh.mono ?_; clear hh; rintro e W2 ⟨rfl, hb2⟩))
      all_goals go_ret
      all_goals exact ⟨rfl, below_next HB1.out hb2⟩
  obtain ⟨m, rfl⟩ : ∃ m : Nat, lim = m := ⟨lim.toNat, by omega⟩
  have hm1 : 1 ≤ m := by omega
  have hm2 : m ≤ 1048576 := by omega
  clear hbad hlb
  go_enter Tryz.func6, Tryz.ntmps6
  go_wp2_with (go_at_call 8; refine hgr.mono ?_; clear hgr; rintro e W1 ⟨g, rfl, hb1, hg⟩; have HB1 := hid hb1; have htab1 := htab.below hb1; have hh := law_head W1 htab1; have hnw := K.sys_New (K.Sys.start W1) 1048576 (by omega); have HG := hid hg; have HA1 := hid (HA.out.keep hb1); clear hb1 hg HA; cases g)
  rotate_left
  · go_wp2_with (go_at_call 9; refine hh.mono ?_; clear hh; rintro e W2 ⟨rfl, hb2⟩)
    go_ret
    exact ⟨rfl, below_next HB1.out hb2⟩
  obtain ⟨hl30, h800⟩ := HG.out (by first | rfl | trivial)
  clear hh
  go_wp2_with (first
    | (go_at_call 7; refine hnw.mono ?_; clear hnw; rintro e W2 ⟨p, rfl, hS0⟩; have hop := call_Open hS0 List.nodup_nil htab1 (new_ok' 1048576 p m).up.core ((new_ok' 1048576 p m).rm (by omega)) (by omega) m hm1 hm2; clear hS0)
    | (go_at_call 10; refine hop.mono ?_; clear hop; rintro e W3 ⟨q, rfl, hz⟩; have HZ := hid hz; clear hz))
  have hl900 : len ≤ 30 := by omega
  have HX := hid (show ∀ j, wgt (allL (xs.take j)) ≤ 800 from fun j => Nat.le_trans (wgt_allL_take xs j) h800)
  clear HG h800 hl30 hlm
  go_loopw [11] (fun i wr => ∃ k : Nat, k ≤ len ∧ i = .int .i64 k ∧ Hid (∃ A dr z, LZ W1 wr p q [] [] z ∧ Ok 1048576 k k A dr z ∧ z.2.texts = allL (xs.take k) ∧ z.2.limit = m)) (fun i _ => len - (intOf i).toNat)
  case atStart => exact ⟨0, Nat.zero_le _, rfl, hid ⟨[], none, _, HZ.out, new_ok' 1048576 p m, by simp [allL, mOpen], rfl⟩⟩
  case round =>
    obtain ⟨k, hk, rfl, HW⟩ := hrel
    by_cases hlt : k < len
    · obtain ⟨x, hx⟩ : ∃ x, xs[k]? = some x := ⟨_, List.getElem?_eq_getElem (by omega)⟩
      obtain ⟨ad, B, O, sp, xv, rfl, hAd, hsv0, hcell⟩ := acts_sv HA1.out hx
      obtain ⟨A, dr, z, hz, hok, htx, hlim⟩ := HW.out
      obtain ⟨c1, -, hsv⟩ := hcell wr hz.1.low
      have hap := call_App hz hok htab1 (by omega) (by omega) (by rw [htx, ← allL_take hx]; exact Nat.le_trans (HX.out (k + 1)) (by omega)) (by rw [hlim]; exact hm2) hsv0
      obtain ⟨xa, xl, xc, rfl, _⟩ := hsv
      have HTX := hid htx
      have HLM := hid hlim
      have HXX := hid hx
      clear hcell hsv0 hz hok htx hlim hx HW
      go_wp2_with (go_at_call 13; refine hap.mono ?_; clear hap; rintro e W4 ⟨rfl, hnew⟩; have HN := hid hnew; clear hnew)
      go_roundw
      case rel =>
        obtain ⟨A', z', h1, h2, h3, h4, h5, h6⟩ := HN.out
        exact ⟨k + 1, hlt, by go_num, hid ⟨A', dr, z', h1, h2, by rw [h3, HTX.out, allL_take HXX.out], by rw [h5, HLM.out]⟩⟩
      case measure => simp [intOf]; omega
    · obtain rfl : k = len := by omega
      obtain ⟨A, dr, z, hz, hok, htx, hlim⟩ := HW.out
      have htl : xs.take k = xs := by rw [← hlen]; exact List.take_length
      rw [htl] at htx
      have hw8 : wgt z.2.texts ≤ 800 := by rw [htx]; have := HX.out xs.length; rwa [List.take_length] at this
      have htc := call_Texts hz hok.up.core.wt
      obtain ⟨T, hT⟩ : ∃ T, T = z.2.texts := ⟨_, rfl⟩
      rw [← hT] at htc hw8
      have HTX := hid hT.symm
      clear hT
      have HK := hid hok
      have HZ1 := hid hz
      have HLM := hid hlim
      clear htl htx hz hok hlim HW
      go_wp2_with (go_at_call 17; refine htc.mono ?_; clear htc; rintro e W5 ⟨tv, rfl, ho, hb⟩; obtain ⟨rb, hz5, hrow⟩ := keep_row HZ1.out ho hb; obtain ⟨ta, tc, rfl⟩ := Q.out_form ho; have HZ5 := hid hz5; have HROW := hid hrow; clear ho hb hz5 hrow HZ1)
      go_loopw [13] (fun i wr => ∃ k : Nat, k ≤ 1 + tm % 4 ∧ i = .int .i64 k ∧ Hid (∃ A dr z, LZ W1 wr p q [] (rb ++ []) z ∧ Ok 1048576 (30 + k) (30 + k) A dr z ∧ z.2.texts = T ∧ z.2.limit = m ∧ (1 ≤ k → z.1.units = 0 ∧ A.length = 1 ∧ dr = none))) (fun i _ => 1 + tm % 4 - (intOf i).toNat)
      case atStart => exact ⟨0, Nat.zero_le _, rfl, hid ⟨A, dr, z, HZ5.out, HK.out.mono (by omega) (by omega), HTX.out, HLM.out, fun h => by omega⟩⟩
      case round =>
        obtain ⟨j, hj, rfl, HW⟩ := hrel
        by_cases hlt : j < 1 + tm % 4
        · obtain ⟨A2, dr2, z2, hz, hok, htx, hlim, -⟩ := HW.out
          have hjd : decide ((j : Int) < 1 + (tm : Int) % 4) = true := decide_eq_true (by omega)
          have hsn := call_Snap hz hok htab1 (by omega) (by omega)
          have HTX2 := hid htx
          have HLM2 := hid hlim
          clear HW hz hok htx hlim
          go_wp2_with (first
            | (go_at_call 15; refine hsn.mono ?_; clear hsn; rintro e V1 ⟨rfl, z3, hz3, ok3, tx3, sy3, ls3, un3, lm3, dk3⟩; have hnm := call_Names hz3 ok3.up (ok3.rm (by omega)) (by omega); rw [show (nums [snapSg A2 z2.2.texts]).length = 1 from rfl] at hnm; have HZ3 := hid hz3; have HK3 := hid ok3; have htx3 := tx3.trans HTX2.out; have hsy3 := sy3.trans (by rw [HTX2.out]); have HLM3 := hid (lm3.trans HLM2.out); have HUN3 := hid un3; clear hz3 ok3 tx3 sy3 ls3 lm3 dk3 un3)
            | (go_at_call 20; refine hnm.mono ?_; clear hnm; rintro e V2 ⟨nad, ncap, rfl, hF, hnw, hb2⟩; have HB2 := hid hb2; have hcs := call_Synced (HZ3.out.below hb2); rw [hsy3] at hcs; clear hF hnw hb2)
            | (go_at_call 11; refine hcs.mono ?_; clear hcs; rintro e w' ⟨rfl, rfl⟩; have htc := call_Texts (HZ3.out.below HB2.out) HK3.out.up.core.wt)
            | (go_at_call 17; refine htc.mono ?_; clear htc; rintro e V3 ⟨tv3, rfl, ho3, hb3⟩; have HB3 := hid (HB2.out.trans (hb3.mono HB2.out.size)); rw [htx3] at ho3; have hsm := same_rows ho3 (HROW.out V3 _ _ _ _ _ (fun y hy => List.mem_append_left _ hy) (HZ3.out.below HB3.out)); clear ho3 hb3)
            | (go_at_call 16; refine hsm.mono ?_; clear hsm; rintro e V4 ⟨rfl, hb4⟩; have HB4 := hid (HB3.out.trans (hb4.mono HB3.out.size)); have hcu := call_Units (HZ3.out.below HB4.out) HUN3.out; clear hb4)
            | (go_at_call 21; refine hcu.mono ?_; clear hcu; rintro e w' ⟨rfl, rfl⟩))
          exact ⟨⟨j + 1, by omega, by go_num, hid ⟨_, none, z3, HZ3.out.below HB4.out, HK3.out.mono (by omega) (by omega), htx3, HLM3.out, fun _ => ⟨HUN3.out, rfl, rfl⟩⟩⟩, by simp [intOf]; omega⟩
        · obtain rfl : j = 1 + tm % 4 := by omega
          obtain ⟨A2, dr2, z2, hz, hok, htx, hlim, hone⟩ := HW.out
          obtain ⟨hun, hA2, hdr⟩ := hone (by omega)
          subst hdr
          obtain ⟨lv, lb, hlrow, -, hS2, hN2⟩ := hz.boxes
          have hop := call_Open hS2 hN2 htab1 hok.up.core (hok.rm (by omega)) (by omega) m hm1 hm2
          have oky := open_ok hok p m
          rw [htx] at hop oky
          have hwT : wgt (T ++ [[109, 111, 114, 101]]) ≤ 900 := by rw [wgt_app]; have : wgt [[109, 111, 114, 101]] = 10 := rfl; omega
          obtain ⟨A3, z3, f3, ok3, tx3, -, -, -, hA3⟩ := app_any oky (by omega) (by omega) (S := [[109, 111, 114, 101]]) hwT
          have hA3' : A3.length = 2 := by rw [hA3 (by simp) rfl, hA2]
          have tx3' : z3.2.texts = T ++ [[109, 111, 114, 101]] := tx3
          have HTX3 := hid tx3'
          have HF3 := hid f3
          have HA3 := hid hA3'
          clear HW hz hok htx hlim hone hlrow hS2 hN2 hun hA2 hA3 hA3' tx3 tx3' f3
          go_wp2_with (go_at_call 10; refine hop.mono ?_; clear hop; rintro e V1 ⟨q2, rfl, hy⟩; have htc := call_Texts hy oky.up.core.wt; have HY := hid hy; clear hy)
          go_wp2_with (first
            | (go_at_call 17; refine htc.mono ?_; clear htc; rintro e V2 ⟨tv2, rfl, ho2, hb2⟩; have HY2 := hid (HY.out.below hb2); have hsm := same_rows ho2 (HROW.out V2 _ _ _ _ _ (fun y hy => by simp [hy]) HY2.out); clear ho2 hb2)
            | (go_at_call 16; refine hsm.mono ?_; clear hsm; rintro e V3 ⟨rfl, hb3⟩; have HY3 := hid (HY2.out.below hb3); have hap := app_lit HY3.out oky.up htab1 (oky.rm (by omega)) (by omega) hwT hm2 HF3.out; clear hb3)
            | (go_at_call 13; refine hap.mono ?_; clear hap; rintro e V4 ⟨rfl, hy4⟩; obtain ⟨lv2, lb2, -, -, hS4, hN4⟩ := hy4.boxes; have hop2 := call_Open hS4 hN4 htab1 ok3.up.core (ok3.rm (by omega)) (by omega) m hm1 hm2; rw [HTX3.out] at hop2; clear hS4 hN4 hy4))
          have hTl : T.length ≤ 200 := by have := wgt_len T; omega
          go_wp2_with (first
            | (go_at_call 10; refine hop2.mono ?_; clear hop2; rintro e V5 ⟨q3, rfl, hz5⟩; have okz := open_ok ok3 p m; rw [HTX3.out] at okz; have htc := call_Texts hz5 okz.up.core.wt; have HZ5 := hid hz5; have HKZ := hid okz; clear hz5 okz)
            | (go_at_call 17; refine htc.mono ?_; clear htc; rintro e V6 ⟨tv6, rfl, ho6, hb6⟩; have HZ6 := hid (HZ5.out.below hb6); have hrw := HROW.out V6 _ _ _ _ _ (fun y hy => by simp [hy]) HZ6.out; obtain ⟨a7, c7, V7, hr7, ho7, hb7⟩ := app_copy V6 (Q.OutV.sv hrw) (by omega); obtain ⟨a8, n8, c8, V8, hr8, ho8, hb8⟩ := app_wrote (m := [[109, 111, 114, 101]]) ho7 hb7.size (by omega) (by simp); have hr8' : (Builtin.append_ #[36, 36] 36 #[.slice a7 T.length c7, .slice (some ⟨V7.heap.size, 0, none⟩) 1 1]).run Tryz.prog (V7.alloc (.cells #[.string ⟨#[109, 111, 114, 101]⟩] 9)) = .ok (.slice a8 n8 c8) V8 := hr8; clear hr8; have hb68 := hb7.trans hb8; have HZ8 := hid (HZ6.out.below hb68); have hsm := same_rows (own_below ho6 hb68) ho8; clear ho6 hb6 hrw ho7 hb7 ho8 hb8 hb68)
            | (go_at_call 16; refine hsm.mono ?_; clear hsm; rintro e V9 ⟨rfl, hb9⟩; have HZ9 := hid (HZ8.out.below hb9); have hnm := call_Names HZ9.out HKZ.out.up (HKZ.out.rm (by omega)) (by omega); rw [show (nums A3).length = 2 from by unfold nums; rw [List.length_map]; exact HA3.out] at hnm; clear hb9)
            | (go_at_call 20; refine hnm.mono ?_; clear hnm; rintro e V10 ⟨nad, ncap, rfl, hF, hnw, hb10⟩; have hlow := (HZ9.out.below hb10).1.low; have hh := law_head V10 (htab1.below hlow); have HLOW := hid (below_next HB1.out hlow); clear hF hnw hb10 hlow)
            | (go_at_call 9; refine hh.mono ?_; clear hh; rintro e V11 ⟨rfl, hb11⟩))
          go_ret
          exact ⟨rfl, below_next HLOW.out hb11⟩
end Go.Proofs.YtcioomlhdaihkaaGreatDoor.L
