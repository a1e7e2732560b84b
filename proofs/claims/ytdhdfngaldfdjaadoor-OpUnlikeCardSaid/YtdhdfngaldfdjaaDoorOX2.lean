/-
  The law OpUnlike.
-/
import Derived.Test.YtdhdfngaldfdjaaDoorOX
namespace Go.Proofs.YtdhdfngaldfdjaaDoor.V
set_option linter.unusedVariables false
set_option linter.unusedSimpArgs false
set_option maxRecDepth 100000
open Go Go.RowKit Go.Maps Wire

theorem beq_ba (s t : List UInt8) : ((ba s).toList == (ba t).toList) = decide (s = t) := by
  rw [Bool.eq_iff_iff]
  simp [ByteArray.toList_eq, ba_list]

set_option maxHeartbeats 1000000 in
theorem law_OpUnlike (a : OpM) (ha : okO a) (la : List Claim) (b : OpM) (hb : okO b) (lb : List Claim) (c : Nat) (hc : c < 256) (w : World) (hva : ClaimsV w a.lv la) (hvb : ClaimsV w b.lv lb) (hT : Tab w) :
    Calls Tryd.prog 6 #[.agg (oc a), .agg (oc b), .int .u8 (c : Int)] w fun e w' => e = .returned (.bool true) ∧ Below w.heap.size w w' := by
  have HVA := hid hva
  have HVB := hid hvb
  have HT := hid hT
  have HOA := hid ha
  have HOB := hid hb
  obtain ⟨aa, na, ca, hlva, hIa⟩ := hva
  obtain ⟨ab, nb, cb, hlvb, hIb⟩ := hvb
  have hna := hIa.1
  have hnb := hIb.1
  have HCA := hid hIa.2.2.2.1
  have HCB := hid hIb.2.2.2.1
  have HLV := hid (And.intro hlva hlvb)
  have ga28 : (oc a)[28]? = some (.slice aa na ca) := by rw [← hlva]; rfl
  have gb28 : (oc b)[28]? = some (.slice ab nb cb) := by rw [← hlvb]; rfl
  have HE := hid (below_al2 w (.cells (oc a) 30) (.cells (oc b) 30))
  clear hIa hIb hlva hlvb hT ha hb
  by_cases h1 : 100 < na
  · have t1 : decide (100 < (na : Int)) = true := decide_eq_true (by omega)
    clear hna hnb
    go_enter Tryd.func6, Tryd.ntmps6
    go_wp2_with (go_at_call 11; (with_reducible refine (law_head _ (HT.out.keep HE.out)).mono ?_); rintro e wh ⟨rfl, hBh⟩; have HBh := hid (below_next HE.out hBh); clear hBh)
    go_ret
    exact ⟨rfl, HBh.out⟩
  · have t1 : decide (100 < (na : Int)) = false := decide_eq_false (by omega)
    by_cases h2 : 100 < nb
    · have t2 : decide (100 < (nb : Int)) = true := decide_eq_true (by omega)
      clear hna hnb
      go_enter Tryd.func6, Tryd.ntmps6
      go_wp2_with (go_at_call 11; (with_reducible refine (law_head _ (HT.out.keep HE.out)).mono ?_); rintro e wh ⟨rfl, hBh⟩; have HBh := hid (below_next HE.out hBh); clear hBh)
      go_ret
      exact ⟨rfl, HBh.out⟩
    · have t2 : decide (100 < (nb : Int)) = false := decide_eq_false (by omega)
      have HN := hid (And.intro hna hnb)
      clear hna hnb
      have s1 := fun W hA hB => op_Same a b la lb W hA hB
      have s2 := fun W hA hB => ref_Same a b la lb W hA hB
      have s3 := fun W hA hB => op_Same b a lb la W hB hA
      have s4 := fun W hA => op_Same a a la la W hA hA
      rw [sameM_self] at s4
      rw [← sameM_comm a b la lb] at s3
      obtain ⟨bb, hbb⟩ : ∃ v, sameM a b la lb = v := ⟨_, rfl⟩
      rw [hbb] at s1 s2 s3
      have HBB := hid hbb
      clear hbb
      have hq := show (bb != bb) = false by cases bb <;> rfl
      have hq2 := show (bb == bb) = true by cases bb <;> rfl
      go_enter Tryd.func6, Tryd.ntmps6
      go_upto_region 3 with (fail)
      clear ga28 gb28
      refine wp_region_later_n (by kernel_rfl) (by kernel_rfl) ?_
      intro wd hwd
      have hBd : Below w.heap.size w wd := by rw [hwd]; first | exact below_al2 _ _ _ | exact (below_al2 _ _ _).drew
      have hOA : OpAt wd w.heap.size a := by rw [hwd]; exact (opAt_new w a).al _
      have hOB : OpAt wd (w.heap.size + 1) b := by rw [hwd]; exact last2 _ _ _
      have fa : ∀ w', (∃ p : Later wd.heap.size wd, w' = p.val) → OpAt w' w.heap.size a := by rintro _ ⟨p, rfl⟩; exact hOA.keep p.ok
      have fb : ∀ w', (∃ p : Later wd.heap.size wd, w' = p.val) → OpAt w' (w.heap.size + 1) b := by rintro _ ⟨p, rfl⟩; exact hOB.keep p.ok
      have va := fun p : Later wd.heap.size wd => HVA.out.keep (below_next hBd p.ok)
      have vb := fun p : Later wd.heap.size wd => HVB.out.keep (below_next hBd p.ok)
      have FA := hid fa
      have FB := hid fb
      have HOAd := hid hOA
      have HOBd := hid hOB
      have HW := hid hBd
      clear hwd hOA hOB fa fb hBd
      repeat (first | (go_big_quiet_want; refine quiet_ld _ rfl w.heap.size rfl a FA.out ?_; simp only [Act.put, List.setIfInBounds_toArray, List.set_cons_zero, List.set_cons_succ]; go_big_quiet_on) | (go_big_quiet_want; refine quiet_ld _ rfl (w.heap.size + 1) rfl b FB.out ?_; simp only [Act.put, List.setIfInBounds_toArray, List.set_cons_zero, List.set_cons_succ]; go_big_quiet_on) | go_big_quiet_step (first | (go_at_call 16; with_reducible exact Calls.later_of (Nat.le_refl _) (s1 _ (va _) (vb _))) | (go_at_call 16; with_reducible exact Calls.later_of (Nat.le_refl _) (s3 _ (va _) (vb _))) | (go_at_call 16; with_reducible exact Calls.later_of (Nat.le_refl _) (s4 _ (va _))) | (go_at_call 15; with_reducible exact Calls.later_of (Nat.le_refl _) (s2 _ (va _) (vb _)))))
      refine wpQuiet_nil ?_
      rintro _ ⟨p, rfl⟩
      have HB2 := hid (below_next HW.out p.ok)
      have HA2 := hid (HOAd.out.keep p.ok)
      have HBb2 := hid (HOBd.out.keep p.ok)
      generalize p.val = w2 at HB2 HA2 HBb2
      clear va vb s2 s3 s4
      have hpa := fun W hV => op_Put a HOA.out la W hV
      have hpb := fun W hV => op_Put b HOB.out lb W hV
      by_cases hA : 16 < na
      · have e1 : putM a la = ([], 3) := by unfold putM; rw [HN.out.1, if_pos hA]
        rw [e1] at hpa
        dsimp only at hpa
        generalize putM b lb = pb at hpb
        obtain ⟨sb, fb⟩ := pb
        dsimp only at hpb
        clear e1
        go_wp2_with (first
        | (refine load_op2 _ rfl (by kernel_rfl) w.heap.size rfl _ HA2.out ?_) | (go_at_call 12; (with_reducible refine (hpa _ (HVA.out.keep HB2.out)).mono ?_); rintro e w3 ⟨rfl, hB3⟩; have HA3 := hid (HA2.out.keep hB3); have HBb3 := hid (HBb2.out.keep hB3); have HB3 := hid (below_next HB2.out hB3); clear hB3 HA2 hpa) | (refine load_op2 _ rfl (by kernel_rfl) (w.heap.size + 1) rfl _ HBb3.out ?_) | (go_at_call 12; (with_reducible refine (hpb _ (HVB.out.keep HB3.out)).mono ?_); rintro e w4 ⟨rfl, hB4⟩; have HA4 := hid (HA3.out.keep hB4); have HBb4 := hid (HBb3.out.keep hB4); have HB4 := hid (below_next HB3.out hB4); clear hB4 HA3 HBb3 hpb)
        | (go_at_call 11; (with_reducible refine (law_head _ (HT.out.keep HB4.out)).mono ?_); rintro e wh ⟨rfl, hBh⟩; have HBh := hid (below_next HB4.out hBh); clear hBh))
        go_ret
        exact ⟨rfl, HBh.out⟩
      · have e1 : putM a la = (encO a la, 0) := by unfold putM; rw [HN.out.1, if_neg hA]
        rw [e1] at hpa
        dsimp only at hpa
        clear e1
        have hpos := encO_pos a la
        have hlen := encO_len HOA.out HCA.out (by have := HN.out.1; omega)
        have hz : ((ba (encO a la)).size : Int) ≠ 0 := by rw [ba_size]; omega
        by_cases hB : 16 < nb
        · have e2 : putM b lb = ([], 3) := by unfold putM; rw [HN.out.2, if_pos hB]
          rw [e2] at hpb
          dsimp only at hpb
          clear e2 hpos hlen hz
          generalize ba (encO a la) = s at hpa
          go_wp2_with (first
          | (refine load_op2 _ rfl (by kernel_rfl) w.heap.size rfl _ HA2.out ?_) | (go_at_call 12; (with_reducible refine (hpa _ (HVA.out.keep HB2.out)).mono ?_); rintro e w3 ⟨rfl, hB3⟩; have HA3 := hid (HA2.out.keep hB3); have HBb3 := hid (HBb2.out.keep hB3); have HB3 := hid (below_next HB2.out hB3); clear hB3 HA2 hpa) | (refine load_op2 _ rfl (by kernel_rfl) (w.heap.size + 1) rfl _ HBb3.out ?_) | (go_at_call 12; (with_reducible refine (hpb _ (HVB.out.keep HB3.out)).mono ?_); rintro e w4 ⟨rfl, hB4⟩; have HA4 := hid (HA3.out.keep hB4); have HBb4 := hid (HBb3.out.keep hB4); have HB4 := hid (below_next HB3.out hB4); clear hB4 HA3 HBb3 hpb)
          | (go_at_call 11; (with_reducible refine (law_head _ (HT.out.keep HB4.out)).mono ?_); rintro e wh ⟨rfl, hBh⟩; have HBh := hid (below_next HB4.out hBh); clear hBh))
          go_ret
          exact ⟨rfl, HBh.out⟩
        · have e2 : putM b lb = (encO b lb, 0) := by unfold putM; rw [HN.out.2, if_neg hB]
          rw [e2] at hpb
          dsimp only at hpb
          clear e2
          have h16a : la.length ≤ 16 := by have := HN.out.1; omega
          have h16b : lb.length ≤ 16 := by have := HN.out.2; omega
          have hse := same_enc HOA.out HOB.out HCA.out HCB.out h16a h16b
          rw [HBB.out, ← beq_ba] at hse
          have hst := hse.symm
          have hm := more_fails HOA.out HCA.out h16a (UInt8.ofNat c)
          obtain ⟨s0, c0, hs0⟩ : ∃ s0 c0, encO a la = s0 ++ [c0] := ⟨(encO a la).dropLast, (encO a la).getLast (by intro e; rw [e] at hpos; simp at hpos), (List.dropLast_concat_getLast _).symm⟩
          have hl := less_fails HOA.out HCA.out h16a hs0
          have hsz : (ba (encO a la)).size = s0.length + 1 := by rw [ba_size, hs0]; simp
          have hs0l : s0.length ≤ 10000 := by rw [hs0] at hlen; simp at hlen; omega
          have g1 := fun W => op_Get (ba (encO a la ++ [UInt8.ofNat c])) (by rw [ba_size]; simp; omega) W
          have g2 := fun W => op_Get (ba s0) (by rw [ba_size]; omega) W
          rw [ba_list, hm, (fails_zero hm).1, (fails_zero hm).2, ← ba_append] at g1
          rw [ba_list, hl, (fails_zero hl).1, (fails_zero hl).2] at g2
          have hcut : (ba (encO a la)).extract 0 s0.length = ba s0 := by rw [ba_extract_to, hs0]; simp
          have hcv := fun W => conv_new W c hc
          have hs1 : (ba [UInt8.ofNat c]).size = 1 := rfl
          generalize ba [UInt8.ofNat c] = sc at g1 hcv hs1
          generalize ba s0 = sl at g2 hcut
          generalize ba (encO a la) = s at hpa hz hst hsz hcut g1
          generalize ba (encO b lb) = t at hpb hst
          generalize s0.length = n at hsz hs0l hcut
          have HSZ := hid hs0l
          have hz1 : ((n : Int) + 1 == 0) = false := by simp; omega
          clear hpos hlen hse hm hl hs0 h16a h16b hz
          go_wp2_with (first
          | (refine load_op2 _ rfl (by kernel_rfl) w.heap.size rfl _ HA2.out ?_) | (go_at_call 12; (with_reducible refine (hpa _ (HVA.out.keep HB2.out)).mono ?_); rintro e w3 ⟨rfl, hB3⟩; have HA3 := hid (HA2.out.keep hB3); have HBb3 := hid (HBb2.out.keep hB3); have HB3 := hid (below_next HB2.out hB3); clear hB3 HA2 hpa) | (refine load_op2 _ rfl (by kernel_rfl) (w.heap.size + 1) rfl _ HBb3.out ?_) | (go_at_call 12; (with_reducible refine (hpb _ (HVB.out.keep HB3.out)).mono ?_); rintro e w4 ⟨rfl, hB4⟩; have HA4 := hid (HA3.out.keep hB4); have HBb4 := hid (HBb3.out.keep hB4); have HB4 := hid (below_next HB3.out hB4); clear hB4 HA3 HBb3 hpb) | (go_at_call 14; (with_reducible refine (g1 _).mono ?_); rintro e w5 ⟨v5, rfl, hv5, hB5⟩; have HA5 := hid ((HA4.out.al _).keep hB5); have HBb5 := hid ((HBb4.out.al _).keep hB5); have HB5 := hid (below_next HB4.out (below_next (below_al w4 _) hB5)); have HV5 := hid hv5; clear hB5 hv5 g1 HA4 HBb4) | (refine wpList_store_row rfl _ _ _ rfl w5.heap.size (oc (setL zeroO v5)) rfl rfl 30 (oc zeroO) ?_ (opSize _) rfl (oneO _ (ClaimsV.one HV5.out)) ?_; (focus exact heap_alloc_last' _ _); rw [World.setRow_alloc_new]) | (go_at_call 14; (with_reducible refine (g2 _).mono ?_); rintro e w6 ⟨v6, rfl, hv6, hB6⟩; have HA6 := hid ((HA5.out.al _).keep hB6); have HBb6 := hid ((HBb5.out.al _).keep hB6); have HB6 := hid (below_next HB5.out (below_next (below_al w5 _) hB6)); have HV6 := hid hv6; clear hB6 hv6 g2 HA5 HBb5) | (refine wpList_store_row rfl _ _ _ rfl w6.heap.size (oc (setL zeroO v6)) rfl rfl 30 (oc zeroO) ?_ (opSize _) rfl (oneO _ (ClaimsV.one HV6.out)) ?_; (focus exact heap_alloc_last' _ _); rw [World.setRow_alloc_new]) | (refine load_op2 _ rfl (by kernel_rfl) w.heap.size rfl _ (HA6.out.al _) ?_) | (refine load_op2 _ rfl (by kernel_rfl) (w.heap.size + 1) rfl _ (HBb6.out.al _) ?_) | (go_at_call 16; (with_reducible refine (s1 _ (HVA.out.keep (below_next HB6.out (below_al w6 _))) (HVB.out.keep (below_next HB6.out (below_al w6 _)))).mono ?_); rintro e w7 ⟨rfl, hB7⟩; have HB7 := hid (below_next HB6.out (below_next (below_al w6 _) hB7)); clear hB7) | (go_at_call 11; (with_reducible refine (law_head _ (HT.out.keep HB7.out)).mono ?_); rintro e wh ⟨rfl, hBh⟩; have HBh := hid (below_next HB7.out hBh); clear hBh))
          go_ret
          exact ⟨rfl, HBh.out⟩

end Go.Proofs.YtdhdfngaldfdjaaDoor.V
