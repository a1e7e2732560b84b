/-
  The law BufferWhole.
-/
import Derived.Test.YtfnmekmgjcjglaaDoorYZRE
namespace Go.Proofs.YtfnmekmgjcjglaaDoor.V
set_option linter.unusedVariables false
set_option linter.unusedSimpArgs false
set_option maxRecDepth 100000
open Go Go.RowKit Go.Maps Wire
theorem gtr0 (n : Nat) (h : ¬ 0 < n) (x y : Operand) (w : World) : (do eqGuard .gtr 3 x y (.int .i64 (n : Int)) (.int .i64 0); binOp .gtr 3 (.int .i64 (n : Int)) (.int .i64 0) : Sem Value).run Tryd.prog w = .ok (.bool false) w := by
  have h9 : decide ((0 : Int) < (n : Int)) = false := decide_eq_false (by omega)
  obtain rfl : n = 0 := by omega
  go_simp
theorem gtrz (n : Nat) (z : Bool) (h : decide (0 < n) = z) (x y : Operand) (w : World) : (do eqGuard .gtr 3 x y (.int .i64 (n : Int)) (.int .i64 0); binOp .gtr 3 (.int .i64 (n : Int)) (.int .i64 0) : Sem Value).run Tryd.prog w = .ok (.bool z) w := by
  cases z
  · exact gtr0 n (of_decide_eq_false h) x y w
  · have h9 : (0 : Int) < (n : Int) := by have := of_decide_eq_true h; omega
    go_simp
set_option maxHeartbeats 4000000 in
theorem law_BufferWhole (nr : Int) (v : Value) (l : List OC) (pt : Int) (W0 : World) (hT : Tab W0) (hv : OpsV W0 v l) (hpt : (Lit.int .u8 pt).wf = true) :
    Calls Tryd.prog 5 #[.int .i64 nr, v, .int .u8 pt] W0 fun e w' => e = .returned (.bool true) ∧ Below W0.heap.size W0 w' := by
  have hpt2 : 0 ≤ pt ∧ pt ≤ 255 := by simpa [Lit.wf, IntKind.min, IntKind.max, IntKind.signed, IntKind.bits] using hpt
  obtain ⟨b, rfl⟩ : ∃ b : Nat, pt = b := ⟨pt.toNat, by omega⟩
  have hb256 : b < 256 := by omega
  clear hpt hpt2
  have hgr := law_great v l W0 hv
  by_cases hg : 80 < l.length
  · rw [decide_eq_true hg] at hgr
    have hhd := law_head W0 hT
    clear hT hv hg hb256
    go_enter Tryd.func5, Tryd.ntmps5
    go_wp2_with (first
      | (go_at_call 10; refine hgr.mono ?_; clear hgr; rintro e w1 ⟨rfl, rfl⟩)
      | (go_at_call 11; refine hhd.mono ?_; clear hhd; rintro e w2 ⟨rfl, hb⟩; have HB2 := hid hb; clear hb))
    go_ret
    exact ⟨rfl, HB2.out⟩
  · rw [decide_eq_false hg] at hgr
    have hhi := order_History v l nr W0 hv hT (by omega)
    by_cases hz : histM nr l = 0
    · have hP := histM_zero.1 hz
      rw [hz] at hhi
      obtain ⟨N, rfl⟩ : ∃ N : Nat, nr = N := ⟨nr.toNat, by have := hP.n1; omega⟩
      have HN := hid (show ¬ ((N : Int) < 1 ∨ 8 < (N : Int)) by have := hP.n1; have := hP.n8; omega)
      obtain ⟨a, n, cp, rfl, hI⟩ := hv
      have HLN := hid (show n = l.length ∧ l.length ≤ 80 from ⟨hI.1.symm, by omega⟩)
      have HP := hid hP
      have HT := hid hT
      have HI := hid hI
      have H32 := hid (show ∀ x ∈ l, x.1.n < 4294967296 from fun x hx => (hI.2.2.2.1 x hx).1.n)
      obtain ⟨k, hk⟩ : ∃ k, k = if 0 < n then b % n else 0 := ⟨_, rfl⟩
      have HK := hid (show k ≤ n from by
        rw [hk]
        split
        · exact Nat.le_of_lt (Nat.mod_lt _ (by omega))
        · omega)
      obtain ⟨q1, hsl, hso⟩ := sl_fromV hI HK.out
      have HSO := hid hso
      have HHI := hid (fun (w : World) (hb : Below W0.heap.size W0 w) (u : Value) (z : List OC) (hu : OpsV w u z) (hzz : z.length ≤ 100000) (e : histM N z = 0) => (e ▸ order_History u z N w hu (hT.keep hb) hzz))
      clear hT hI hP hz hg hso
      go_enter Tryd.func5, Tryd.ntmps5
      go_upto_region 7 with (first
        | (go_at_call 10; refine hgr.mono ?_; clear hgr; rintro e w1 ⟨rfl, rfl⟩)
        | (go_at_call 21; refine hhi.mono ?_; clear hhi; rintro e w2 ⟨rfl, hb⟩; have HB2 := hid hb; have hN1 := new_ok (N : Int) HN.out w1 w2 hb; clear hb)
        | (refine build_is rfl 30 #[] rfl (cs := vc z8) (by kernel_rfl) ?_)
        | (go_at_call 8; first
          | (refine hN1.mono ?_; clear hN1; rintro e w3 ⟨p1, mb1, rfl, hs, _, _, hb⟩; have HS1 := hid hs; have hN2 := new_ok (N : Int) HN.out w1 w3 hs.below; clear hs hb)
          | (refine hN2.mono ?_; clear hN2; rintro e w4 ⟨p2, mb2, rfl, hs, hp2, hm2, hb⟩; have HS2 := hid (And.intro (HS1.out.keep hb) (And.intro hs (show p2 ≠ p1 ∧ mb2 ≠ mb1 from (by have h9 := HS1.out.lt; omega)))); clear hs hb HS1 hp2 hm2)))
      rw [Int.toNat_natCast] at HS2
      have hput := put_two HS2.out.1 HS2.out.2.1 HS2.out.2.2.1 HS2.out.2.2.2 HT.out (.slice a n cp) l ⟨a, n, cp, rfl, HI.out.keep HS2.out.1.below⟩ HP.out.ok (by have := HLN.out; rw [List.length_nil]; omega)
      go_upto_region 8 with (first
        | (go_at_call 13; refine hput.mono ?_; clear hput; rintro e w5 ⟨v5, rfl, hr, hs2⟩; obtain ⟨x, z, rfl, hoz, hzz⟩ := hr.val; have HR5 := hid (And.intro hr.st (And.intro hs2 (And.intro hoz hzz))); clear hr hs2 hoz hzz))
      have HNE := hid (show p2 ≠ p1 ∧ mb2 ≠ mb1 from HS2.out.2.2)
      have HM1 := hid (whole_math HP.out (fun x hx => hx) HP.out.is.1 H32.out HR5.out.2.2.2)
      have hx5 := HR5.out.2.2.1
      obtain ⟨w1m, l1m, k1m⟩ := HM1.out.2.2.2 (fun x hx => hx)
      have HS5 := hid (show HS w1 p1 mb1 N (knownM l) [] w5 ∧ HS w1 p2 mb2 N z8 [] w5 from ⟨by have h9 := HR5.out.1; rwa [w1m, k1m] at h9, HR5.out.2.1⟩)
      obtain ⟨xa, xc, rfl⟩ := formN hx5
      have HX5 := hid hx5
      rw [show z.length = n by rw [l1m]; exact HLN.out.1.symm] at HX5 ⊢
      have HZ := hid (show histM N z = 0 ∧ z.length ≤ 80 from ⟨HM1.out.1, by rw [l1m]; exact HLN.out.2⟩)
      clear HM1 hx5 w1m l1m k1m HR5 HS2
      obtain ⟨z0, hz0⟩ : ∃ z0, decide (0 < n) = z0 := ⟨_, rfl⟩
      have hgt := fun x y w => gtrz n z0 hz0 x y w
      go_upto_if 59 with (refine wp_binW rfl _ _ .gtr 3 _ rfl rfl rfl (hgt _ _ _) ?_)
      clear hgt
      go_frame
      go_cut [13] from 60 to 64 (fun v wx => v = .int .i64 ((k : Nat) : Int) ∧ wx = w5)
      case first =>
        cases z0
        · rw [if_neg (of_decide_eq_false hz0)] at hk
          clear hz0 hb256
          go_wp2
          all_goals go_meet
          all_goals exact ⟨by rw [hk]; rfl, rfl⟩
        · have hpos := of_decide_eq_true hz0
          rw [if_pos hpos] at hk
          have hrem := fun x y w => rem_is b n hpos (by omega) x y w
          rw [← hk] at hrem
          have hcv := fun w => conv_b b hb256 w
          clear hk hb256 hpos hz0
          go_wp2_with (first
            | (refine wp_convW rfl _ 5 3 rfl rfl (hcv _) ?_)
            | (refine wp_binW rfl _ _ .rem 3 _ rfl rfl rfl (hrem _ _ _) ?_))
          all_goals go_meet
          all_goals exact ⟨rfl, rfl⟩
      case rest =>
      obtain ⟨rfl, hwc⟩ := hcut
      subst hwc
      clear hk hb256 hz0
      have hok2 : okAll N (l.drop k) := fun x hx => HP.out.ok x (List.mem_of_mem_drop hx)
      have hput := put_two HS5.out.2 HS5.out.1 (by have h9 := HNE.out; omega) (by have h9 := HNE.out; omega) HT.out _ (l.drop k) (HSO.out _ (HI.out.keep HS5.out.1.below)) hok2 (by have := HLN.out; rw [List.length_nil, List.length_drop]; omega)
      clear hok2
      go_upto_region 12 with (first
        | (refine wp_sliceW rfl _ _ 22 rfl rfl rfl (hsl _) ?_)
        | (go_at_call 13; refine hput.mono ?_; clear hput; rintro e w6 ⟨v6, rfl, hr, hs1⟩; obtain ⟨y, z2, rfl, hoz, hzz⟩ := hr.val; have HR6 := hid (And.intro hr.st (And.intro hs1 (And.intro hoz (And.intro hzz (hr.ops _ _ HX5.out))))); clear hr hs1 hoz hzz))
      obtain ⟨m1, m2, m3, _⟩ := whole_math (L := l.drop k) HP.out (fun x hx => List.mem_of_mem_drop hx) (HP.out.is.1.sublist ((List.drop_sublist k l).map dt)) H32.out HR6.out.2.2.2.1
      obtain ⟨wq, hwq⟩ : ∃ wq, wq = (putM z8 [] ((l.drop k).map core)).2.2 := ⟨_, rfl⟩
      have HS6 := hid (show HS w1 p1 mb1 N (knownM l) [] w6 ∧ HS w1 p2 mb2 N (knownM z2) wq w6 from ⟨HR6.out.2.1, by have h9 := HR6.out.1; rw [m2, ← hwq] at h9; exact h9⟩)
      rw [← hwq] at m3
      have HWN := hid (show (wq.map dt).Nodup ∧ wq.length ≤ 80 from ⟨HS6.out.2.ok.nodup, by rw [List.length_drop] at m3; have := HLN.out; omega⟩)
      obtain ⟨s, hs⟩ : ∃ s, s = n - k := ⟨_, rfl⟩
      have HSM := hid (show n = s + k ∧ z2.length + wq.length = s ∧ s ≤ 80 from by rw [List.length_drop] at m3; have := HLN.out; have := HK.out; omega)
      have hy6 := HR6.out.2.2.1
      obtain ⟨ya, yc, rfl⟩ := formN hy6
      have HY6 := hid (And.intro hy6 (And.intro HR6.out.2.2.2.2 (show histM N z2 = 0 ∧ z2.length ≤ 80 from ⟨m1, by have := HSM.out; omega⟩)))
      clear m1 m2 m3 hwq hs hy6 HR6 HS5 HX5 hsl
      have hadd := fun x y w => add_is z2.length wq.length s HSM.out.2.1 (by have := HSM.out.2.2; omega) x y w
      have hsub := fun x y w => sub_is n k s HSM.out.1 (by have := HLN.out; omega) x y w
      have HB0 := hid (Below.refl w6.heap.size w6)
      have hw1 := waits_ok HS6.out.1 (by rw [List.length_nil]; omega)
      go_wp2_with (first
        | (go_at_call 18; first
          | (refine hw1.mono ?_; clear hw1; rintro e w7 ⟨u1, t1, t2, rfl, ho, hso, hc, hb⟩; obtain rfl := none_of hso hc; obtain ⟨aa, ac, rfl⟩ := form0 ho; have HB7 := hid hb; have hh1 := HHI.out w7 (below_next HS6.out.1.below hb) _ z (HY6.out.2.1.keep hb) (by have := HZ.out.2; omega) HZ.out.1; clear ho hso hc hb)
          | (refine hw2.mono ?_; clear hw2; rintro e w14 ⟨u1, t1, t2, rfl, ho, hso, hc, hb⟩; have HTL := hid (show t2.length = wq.length from (by have h9 := congrArg List.length hc; rw [List.length_map, hso.length HWN.out.1] at h9; exact h9)); obtain ⟨ba, bc, rfl⟩ := formN ho; rw [HTL.out]; have HB14 := hid (below_next HB13.out hb); have hhd := law_head w14 (HT.out.keep (below_next HS6.out.1.below HB14.out)); clear ho hso hc hb HTL))
        | (go_at_call 21; first
          | (refine hh1.mono ?_; clear hh1; rintro e w8 ⟨rfl, hb⟩; have HB8 := hid (below_next HB7.out hb); have hs1 := has_ok (HS6.out.1.keep HB8.out); clear hb)
          | (refine hh2.mono ?_; clear hh2; rintro e w11 ⟨rfl, hb⟩; have HB11 := hid (below_next HB10.out hb); have hs2 := has_ok (HS6.out.2.keep HB11.out); clear hb))
        | (go_at_call 17; first
          | (refine hs1.mono ?_; clear hs1; rintro e w9 ⟨rfl, hb⟩; have HB9 := hid (below_next HB8.out hb); have hk1 := order_Known (.slice a n cp) l w9 ⟨a, n, cp, rfl, HI.out.keep (below_next HS6.out.1.below HB9.out)⟩; clear hb)
          | (refine hs2.mono ?_; clear hs2; rintro e w12 ⟨rfl, hb⟩; have HB12 := hid (below_next HB11.out hb); have hk2 := order_Known _ z2 w12 (HY6.out.1.keep HB12.out); clear hb))
        | (go_at_call 22; first
          | (refine hk1.mono ?_; clear hk1; rintro e w10 ⟨rfl, hb⟩; have HB10 := hid (below_next HB9.out hb); have hh2 := HHI.out w10 (below_next HS6.out.1.below HB10.out) _ z2 (HY6.out.1.keep HB10.out) (by have := HY6.out.2.2.2; omega) HY6.out.2.2.1; have heq1 := fun x y w => eql_vv (knownM l) x y w; clear hb)
          | (refine hk2.mono ?_; clear hk2; rintro e w13 ⟨rfl, hb⟩; have HB13 := hid (below_next HB12.out hb); have hw2 := waits_ok (HS6.out.2.keep HB13.out) (by have := HWN.out.2; omega); have heq2 := fun x y w => eql_vv (knownM z2) x y w; clear hb))
        | (refine wp_binW rfl _ _ .eql 30 _ rfl rfl rfl (heq1 _ _ _) ?_; clear heq1)
        | (refine wp_binW rfl _ _ .eql 30 _ rfl rfl rfl (heq2 _ _ _) ?_; clear heq2)
        | (refine wp_binW rfl _ _ .add 3 _ rfl rfl rfl (hadd _ _ _) ?_; clear hadd)
        | (refine wp_binW rfl _ _ .sub 3 _ rfl rfl rfl (hsub _ _ _) ?_; clear hsub)
        | (go_at_call 11; refine hhd.mono ?_; clear hhd; rintro e w15 ⟨rfl, hb⟩; have HB15 := hid (below_next HB14.out hb); clear hb))
      go_ret
      exact ⟨rfl, below_next HS6.out.1.below HB15.out⟩
    · have e1 : (histM nr l != 0) = true := by simpa using hz
      have HT := hid hT
      generalize histM nr l = z at hhi e1
      clear hz hT hv hg hb256
      go_enter Tryd.func5, Tryd.ntmps5
      go_wp2_with (first
        | (go_at_call 10; refine hgr.mono ?_; clear hgr; rintro e w1 ⟨rfl, rfl⟩)
        | (go_at_call 21; refine hhi.mono ?_; clear hhi; rintro e w2 ⟨rfl, hb⟩; have HB2 := hid hb; have hhd := law_head w2 (HT.out.keep hb); clear hb)
        | (go_at_call 11; refine hhd.mono ?_; clear hhd; rintro e w3 ⟨rfl, hb⟩; have HB3 := hid (below_next HB2.out hb); clear hb))
      go_ret
      exact ⟨rfl, HB3.out⟩
end Go.Proofs.YtfnmekmgjcjglaaDoor.V
