/-
  The document's lines of a submit.
-/
import Derived.Test.YtdhdfngaldfdjaaDoorOI
namespace Go.Proofs.YtdhdfngaldfdjaaDoor.V
set_option linter.unusedVariables false
set_option linter.unusedSimpArgs false
set_option maxRecDepth 100000
open Go Go.RowKit Go.Maps

theorem notin_take {l : List Claim} {k : Nat} {d : Dot} (h : ∀ m, m < k → ∀ y, l[m]? = some y → y.1 ≠ d) : d ∉ (l.take k).map Prod.fst := by
  intro hm
  obtain ⟨y, hy, rfl⟩ := List.mem_map.1 hm
  obtain ⟨m, hm'⟩ := List.mem_iff_getElem?.1 hy
  rw [List.getElem?_take] at hm'
  split at hm'
  · exact h m (by assumption) y hm' rfl
  · cases hm'
theorem mem_take {l : List Claim} {m k : Nat} {y : Claim} (hm : m < k) (hy : l[m]? = some y) : y.1 ∈ (l.take k).map Prod.fst :=
  List.mem_map.2 ⟨y, List.mem_of_getElem? (by rw [List.getElem?_take, if_pos hm]; exact hy), rfl⟩

set_option maxHeartbeats 2000000 in
theorem ref_lines (o : OpM) (l : List Claim) (w : World) (hv : ClaimsV w o.lv l) :
    Calls Tryd.prog 27 #[.agg (oc o)] w
      fun e w' => e = .returned (.bool (okLB o.dep l)) ∧ Below w.heap.size w w' := by
  obtain ⟨ad, len, cap, hlv, hI⟩ := hv
  have hlen := hI.1
  have HE := hid (below_al w (.cells (oc o) 30))
  have g28 : (oc o)[28]? = some (.slice ad len cap) := by rw [← hlv]; rfl
  have HLV := hid hlv
  by_cases hl1 : 1 ≤ len
  · have t1 : decide ((len : Int) < 1) = false := decide_eq_false (by omega)
    by_cases hl16 : len ≤ 16
    · have t2 : decide (16 < (len : Int)) = false := decide_eq_false (by omega)
      have HI := hid hI
      have HL := hid (And.intro hlen (And.intro hl1 hl16))
      clear hI hlv hlen hl1
      go_enter Tryd.func27, Tryd.ntmps27
      go_wp2
      go_loopw [3] (fun i wr => ∃ k : Nat, k ≤ len ∧ i = .int .i64 k ∧ OkTo o.dep l k ∧ OpAt wr w.heap.size o ∧ Below w.heap.size w wr) (fun i _ => len - (intOf i).toNat)
      case atStart => exact ⟨0, by omega, rfl, OkTo.zero _ _, opAt_new w o, HE.out⟩
      case round =>
        obtain ⟨k, hk, rfl, hto, hop, hBr⟩ := hrel
        obtain ⟨W0, rfl⟩ : ∃ W, W = wr := ⟨_, rfl⟩
        have c28 := hop.c28.trans (congrArg some HLV.out)
        by_cases hlt : k < len
        · cases ad with
          | none => have := HI.out.none_len; omega
          | some ad =>
            obtain ⟨x, B, O, sp, hx, hxo, hA, c0, c1, c2, c3⟩ := (HI.out.keep hBr).at k hlt
            have HX := hid (And.intro hx (And.intro hto (And.intro c0 (And.intro c1 (And.intro c2 c3)))))
            have HOP := hid (And.intro hop hBr)
            clear hx hto c0 c1 c2 c3 hxo hop hBr g28
            go_wp2
            refine wp_region_later_n (by kernel_rfl) (by kernel_rfl) ?_
            intro wd hwd
            have hw1 : Below W0.heap.size W0 wd := by rw [hwd]; first | exact Below.refl _ _ | exact below_dr _
            clear hwd c28
            have HW := hid hw1
            have hO : OpAt wd w.heap.size o := HOP.out.1.keep hw1
            have fl : ∀ w', (∃ p : Later wd.heap.size wd, w' = p.val) → OpAt w' w.heap.size o := by rintro _ ⟨p, rfl⟩; exact hO.keep p.ok
            have FL := hid fl
            have HO := hid hO
            have f28 := fun p : Later wd.heap.size wd => (HO.out.keep p.ok).c28.trans (congrArg some HLV.out)
            have d0 := fun p : Later wd.heap.size wd => cell_keep (hw1.trans (p.ok.mono hw1.size)) HX.out.2.2.1
            have d1 := fun p : Later wd.heap.size wd => cell_keep (hw1.trans (p.ok.mono hw1.size)) HX.out.2.2.2.1
            have d2 := fun p : Later wd.heap.size wd => cell_keep (hw1.trans (p.ok.mono hw1.size)) HX.out.2.2.2.2.1
            have d3 := fun p : Later wd.heap.size wd => cell_keep (hw1.trans (p.ok.mono hw1.size)) HX.out.2.2.2.2.2
            clear fl hO hw1
            have k1 := fun W => ref_Covers o x.1 W
            have k2 := fun W => ref_Covers o x.2 W
            cases hc1 : covB o.dep x.1
            · rw [hc1] at k1
              have HC1 := hid hc1
              clear hc1 k2
              repeat (first | (go_big_quiet_want; refine quiet_ld _ rfl w.heap.size rfl o FL.out ?_; simp only [Act.put, List.setIfInBounds_toArray, List.set_cons_zero, List.set_cons_succ]; go_big_quiet_on) | go_big_quiet_step (first | (go_at_call 10; with_reducible exact Calls.later_of (Nat.le_refl _) (k1 _)) | (go_at_call 10; with_reducible exact Calls.later_of (Nat.le_refl _) (k2 _))))
              refine wpQuiet_nil ?_
              rintro _ ⟨p, rfl⟩
              have HP := hid p.ok
              generalize p.val = w2 at HP
              clear f28 d0 d1 d2 d3
              go_wp2
              go_ret
              exact ⟨by rw [okLB_false (not_okL_cov HX.out.1 (.inl HC1.out))]; rfl, HOP.out.2.trans ((HW.out.trans (HP.out.mono HW.out.size)).mono HOP.out.2.size)⟩
            · rw [hc1] at k1
              have HC1 := hid hc1
              clear hc1
              cases hc2 : covB o.dep x.2
              · rw [hc2] at k2
                have HC2 := hid hc2
                clear hc2
                repeat (first | (go_big_quiet_want; refine quiet_ld _ rfl w.heap.size rfl o FL.out ?_; simp only [Act.put, List.setIfInBounds_toArray, List.set_cons_zero, List.set_cons_succ]; go_big_quiet_on) | go_big_quiet_step (first | (go_at_call 10; with_reducible exact Calls.later_of (Nat.le_refl _) (k1 _)) | (go_at_call 10; with_reducible exact Calls.later_of (Nat.le_refl _) (k2 _))))
                refine wpQuiet_nil ?_
                rintro _ ⟨p, rfl⟩
                have HP := hid p.ok
                generalize p.val = w2 at HP
                clear f28 d0 d1 d2 d3
                go_wp2
                go_ret
                exact ⟨by rw [okLB_false (not_okL_cov HX.out.1 (.inr HC2.out))]; rfl, HOP.out.2.trans ((HW.out.trans (HP.out.mono HW.out.size)).mono HOP.out.2.size)⟩
              · rw [hc2] at k2
                have HC2 := hid hc2
                clear hc2
                repeat (first | (go_big_quiet_want; refine quiet_ld _ rfl w.heap.size rfl o FL.out ?_; simp only [Act.put, List.setIfInBounds_toArray, List.set_cons_zero, List.set_cons_succ]; go_big_quiet_on) | go_big_quiet_step (first | (go_at_call 10; with_reducible exact Calls.later_of (Nat.le_refl _) (k1 _)) | (go_at_call 10; with_reducible exact Calls.later_of (Nat.le_refl _) (k2 _))))
                refine wpQuiet_nil ?_
                rintro _ ⟨p, rfl⟩
                have HP := hid p.ok
                generalize p.val = w2 at HP
                clear f28 d0 d1 d2 d3
                have HB2 := hid (HW.out.trans (HP.out.mono HW.out.size))
                clear HP HW HO FL k1 k2
                go_wp2
                go_loopw [4] (fun j wi => ∃ m : Nat, m ≤ k ∧ j = .int .i64 m ∧ Below W0.heap.size W0 wi ∧ ∀ m', m' < m → ∀ y, l[m']? = some y → y.1 ≠ x.1) (fun j _ => k - (intOf j).toNat)
                case atStart => exact ⟨0, by omega, rfl, HB2.out, fun m' hm' => absurd hm' (by omega)⟩
                case round =>
                  obtain ⟨m, hm, rfl, hBi, hall⟩ := hrel
                  obtain ⟨W1, rfl⟩ : ∃ W, W = wr := ⟨_, rfl⟩
                  have c28 := (HOP.out.1.keep hBi).c28.trans (congrArg some HLV.out)
                  by_cases hlm : m < k
                  · obtain ⟨y, B2, O2, sp2, hy, hyo, hA2, y0, y1, y2, y3⟩ := ((HI.out.keep HOP.out.2).keep hBi).at m (by omega)
                    have HY := hid (And.intro hy (And.intro hBi (And.intro hall (And.intro y0 y1))))
                    clear hy hBi hall y0 y1 y2 y3 hyo
                    go_wp2
                    refine wp_region_later_n (by kernel_rfl) (by kernel_rfl) ?_
                    intro wd hwd
                    have hw1 : Below W1.heap.size W1 wd := by rw [hwd]; first | exact Below.refl _ _ | exact below_dr _
                    clear hwd c28
                    have HW := hid hw1
                    have f28 := fun p : Later wd.heap.size wd => ((HOP.out.1.keep HY.out.2.1).keep (HW.out.trans (p.ok.mono HW.out.size))).c28.trans (congrArg some HLV.out)
                    have d0 := fun p : Later wd.heap.size wd => cell_keep (HY.out.2.1.trans ((HW.out.trans (p.ok.mono HW.out.size)).mono HY.out.2.1.size)) HX.out.2.2.1
                    have d1 := fun p : Later wd.heap.size wd => cell_keep (HY.out.2.1.trans ((HW.out.trans (p.ok.mono HW.out.size)).mono HY.out.2.1.size)) HX.out.2.2.2.1
                    have d2 := fun p : Later wd.heap.size wd => cell_keep (HW.out.trans (p.ok.mono HW.out.size)) HY.out.2.2.2.1
                    have d3 := fun p : Later wd.heap.size wd => cell_keep (HW.out.trans (p.ok.mono HW.out.size)) HY.out.2.2.2.2
                    clear hw1
                    have hq := fun W => run_eql y.1.1 y.1.2 x.1.1 x.1.2 W
                    cases he : eqB (y.1.1, y.1.2) (x.1.1, x.1.2)
                    · rw [he] at hq
                      have HE2 := hid he
                      clear he
                      repeat (go_big_quiet_step (fail))
                      refine wpQuiet_nil ?_
                      rintro _ ⟨p, rfl⟩
                      have HP := hid p.ok
                      generalize p.val = w2 at HP
                      clear f28 d0 d1 d2 d3
                      clear hq
                      have HB3 := hid (HY.out.2.1.trans ((HW.out.trans (HP.out.mono HW.out.size)).mono HY.out.2.1.size))
                      clear HP HW
                      go_wp2
                      go_roundw
                      case rel =>
                        refine ⟨m + 1, by omega, by go_num, HB3.out, fun m' hm' z hz => ?_⟩
                        by_cases hmm : m' = m
                        · subst hmm
                          obtain rfl : z = y := Option.some.inj (hz.symm.trans HY.out.1)
                          intro e
                          have := HE2.out
                          rw [eqB_true (show ((z.1.1, z.1.2) : Dot) = (x.1.1, x.1.2) from e)] at this
                          cases this
                        · exact HY.out.2.2.1 m' (by omega) z hz
                      case measure => simp [intOf]; omega
                    · rw [he] at hq
                      have HE2 := hid he
                      clear he
                      repeat (go_big_quiet_step (fail))
                      refine wpQuiet_nil ?_
                      rintro _ ⟨p, rfl⟩
                      have HP := hid p.ok
                      generalize p.val = w2 at HP
                      clear f28 d0 d1 d2 d3
                      clear hq
                      have HB3 := hid (HY.out.2.1.trans ((HW.out.trans (HP.out.mono HW.out.size)).mono HY.out.2.1.size))
                      clear HP HW
                      go_wp2
                      go_ret
                      refine ⟨?_, below_next HOP.out.2 HB3.out⟩
                      have e : y.1 = x.1 := of_decide_eq_true HE2.out
                      rw [okLB_false (not_okL_dup HX.out.1 (e ▸ mem_take hlm HY.out.1))]; rfl
                  · obtain rfl : m = k := by omega
                    have HY := hid (And.intro hBi hall)
                    clear hBi hall
                    go_wp2
                    go_roundw
                    case rel => exact ⟨m + 1, by omega, by go_num, HX.out.2.1.succ HX.out.1 HC1.out HC2.out (notin_take HY.out.2), HOP.out.1.keep HY.out.1, below_next HOP.out.2 HY.out.1⟩
                    case measure => simp [intOf]; omega
        · obtain rfl : k = len := by omega
          have HT := hid (And.intro hto hBr)
          clear hto hop hBr
          go_wp2
          go_ret
          exact ⟨by rw [okLB_true (okL_of (by rw [HL.out.1]; omega) (by rw [HL.out.1]; exact HL.out.2.1) (by rw [HL.out.1]; exact HL.out.2.2) HT.out.1)]; rfl, HT.out.2⟩
    · rw [okLB_false (fun hk => hl16 (by rw [← hlen]; exact hk.2.1))]
      have t2 : decide (16 < (len : Int)) = true := decide_eq_true (by omega)
      have HI := hid hI
      clear hI hlv hlen hl16 hl1
      go_enter Tryd.func27, Tryd.ntmps27
      go_wp2
      go_ret
      exact ⟨rfl, HE.out⟩
  · rw [okLB_false (fun hk => hl1 (by rw [← hlen]; exact hk.1))]
    have t1 : decide ((len : Int) < 1) = true := decide_eq_true (by omega)
    have HI := hid hI
    clear hI hlv hlen hl1
    go_enter Tryd.func27, Tryd.ntmps27
    go_wp2
    go_ret
    exact ⟨rfl, HE.out⟩

end Go.Proofs.YtdhdfngaldfdjaaDoor.V
