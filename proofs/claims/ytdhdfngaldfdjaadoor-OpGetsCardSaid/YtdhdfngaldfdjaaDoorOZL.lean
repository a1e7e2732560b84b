/-
  The law OpGets.
-/
import Derived.Test.YtdhdfngaldfdjaaDoorOX
import Derived.Test.YtdhdfngaldfdjaaDoorOZG
namespace Go.Proofs.YtdhdfngaldfdjaaDoor.V
set_option linter.unusedVariables false
set_option linter.unusedSimpArgs false
set_option maxRecDepth 100000
open Go Go.RowKit Go.Maps Wire

theorem eq_self_ba (s : ByteArray) : (s == s) = true := by
  cases s with
  | mk d => show (d == d) = true; simp
theorem okO_setL {o : OpM} (h : okO o) (v : Value) : okO (setL o v) := { h with }
theorem putM_setL (o : OpM) (v : Value) (l : List Claim) : putM (setL o v) l = putM o l := rfl

set_option maxHeartbeats 400000 in
theorem law_OpGets (b : ByteArray) (w : World) (hT : Tab w) :
    Calls Tryd.prog 5 #[.string b] w fun e w' => e = .returned (.bool true) ∧ Below w.heap.size w w' := by
  have HT := hid hT
  clear hT
  by_cases h : 3000 < b.size
  · have t1 : decide (3000 < b.size) = true := decide_eq_true h
    have t2 : decide ((3000 : Int) < (b.size : Int)) = true := decide_eq_true (by omega)
    clear h
    go_enter Tryd.func5, Tryd.ntmps5
    go_wp2_with (go_at_call 11; (with_reducible refine (law_head _ HT.out).mono ?_); rintro e wh ⟨rfl, hBh⟩; have HBh := hid hBh; clear hBh)
    go_ret
    exact ⟨rfl, HBh.out⟩
  · have t1 : decide (3000 < b.size) = false := decide_eq_false h
    have t2 : decide ((3000 : Int) < (b.size : Int)) = false := decide_eq_false (by omega)
    have hb : b.size ≤ 1000000 := by omega
    have hget := fun W => op_Get b hb W
    have href := fun W => ref_Get b hb W
    have hz := @getE_zero b.data.toList
    have h5 := endOf_vals (takeT (takeH (some b.data.toList)).2).2
    have hbb := ba_of b
    change getE b.data.toList = 0 ∨ getE b.data.toList = 5 at h5
    generalize getE b.data.toList = E at hget href hz h5
    generalize getO b.data.toList = O at hget href hz
    generalize getL b.data.toList = L at hget href hz
    generalize b.data.toList = bl at hz hbb
    have hs : ∀ (v1 v2 : Value) W, ClaimsV W v1 L → ClaimsV W v2 L → Calls Tryd.prog 15 #[.agg (oc (setL O v1)), .agg (oc (setL O v2))] W fun e w' => e = .returned (.bool true) ∧ Below W.heap.size W w' := fun v1 v2 W h1 h2 => by
      have := ref_Same (setL O v1) (setL O v2) L L W h1 h2
      rwa [sameM_setL, sameM_self] at this
    clear h hb
    rcases h5 with rfl | rfl
    · obtain ⟨e0, e1, e2, e3⟩ := hz rfl
      have hput : ∀ (v : Value) W, ClaimsV W v L → Calls Tryd.prog 12 #[.agg (oc (setL O v))] W fun e w' => e = .returned (.tuple #[.string b, .int .i64 0]) ∧ Below W.heap.size W w' := fun v W hV => by
        have := op_Put (setL O v) (okO_setL e1 v) L W hV
        rw [putM_setL, show putM O L = (encO O L, 0) from by unfold putM; rw [if_neg (by omega)], ← e0] at this
        dsimp only at this
        rwa [hbb] at this
      have hsb := eq_self_ba b
      clear e0 e1 e2 e3 hz hbb
      go_enter Tryd.func5, Tryd.ntmps5
      go_upto_region 5 with (first
      | (go_at_call 14; (with_reducible refine (hget _).mono ?_); rintro e w1 ⟨v1, rfl, hV, hB⟩; have HV1 := hid hV; have HB1 := hid hB; clear hV hB hget)
      | (refine wpList_store_row rfl _ _ _ rfl w1.heap.size (oc (setL O v1)) rfl rfl 30 (oc zeroO) ?_ (opSize _) rfl (oneO _ (ClaimsV.one HV1.out)) ?_; (focus exact heap_alloc_last' _ _); rw [World.setRow_alloc_new]; have H3 := hid (opAt_new w1 (setL O v1)); have HB2 := hid (below_next HB1.out (below_al w1 (.cells (oc (setL O v1)) 30))); have HV2 := hid (HV1.out.keep (below_al w1 (.cells (oc (setL O v1)) 30))); obtain ⟨q1, hq1⟩ : ∃ q, w1.heap.size = q := ⟨_, rfl⟩; rw [hq1] at H3 ⊢; generalize w1.alloc (.cells (oc (setL O v1)) 30) = w2 at H3 HB2 HV2 ⊢; clear hq1 HV1 HB1)
      | (go_at_call 17; (with_reducible refine (href _).mono ?_); rintro e w3 ⟨v2, rfl, hV, hB⟩; have HV3 := hid hV; have HW3 := hid (HV2.out.keep hB); have HB3 := hid (below_next HB2.out hB); have H33 := hid (H3.out.keep hB); clear hV hB href H3 HB2 HV2)
      | (refine wpList_store_row rfl _ _ _ rfl w3.heap.size (oc (setL O v2)) rfl rfl 30 (oc zeroO) ?_ (opSize _) rfl (oneO _ (ClaimsV.one HV3.out)) ?_; (focus exact heap_alloc_last' _ _); rw [World.setRow_alloc_new]; have H5 := hid (opAt_new w3 (setL O v2)); have H34 := hid (H33.out.al (.cells (oc (setL O v2)) 30)); have HB4 := hid (below_next HB3.out (below_al w3 (.cells (oc (setL O v2)) 30))); have HV4 := hid (HV3.out.keep (below_al w3 (.cells (oc (setL O v2)) 30))); have HW4 := hid (HW3.out.keep (below_al w3 (.cells (oc (setL O v2)) 30))); obtain ⟨q2, hq2⟩ : ∃ q, w3.heap.size = q := ⟨_, rfl⟩; rw [hq2] at H5 ⊢; generalize w3.alloc (.cells (oc (setL O v2)) 30) = w4 at H5 H34 HB4 HV4 HW4 ⊢; clear hq2 HV3 HB3 HW3 H33))

      go_wp2_with (first
        | (refine load_op2 _ rfl (by kernel_rfl) q1 rfl _ H34.out ?_)
        | (refine load_op2 _ rfl (by kernel_rfl) q2 rfl _ H5.out ?_)
        | (go_at_call 15; (with_reducible refine (hs _ _ _ HW4.out HV4.out).mono ?_); rintro e w5 ⟨rfl, hB⟩; have HB5 := hid (below_next HB4.out hB); have H55 := hid (H34.out.keep hB); have HV5 := hid (HW4.out.keep hB); clear hB hs)
        | (refine load_op2 _ rfl (by kernel_rfl) q1 rfl _ H55.out ?_)
        | (refine load_op rfl _ rfl q1 rfl _ H55.out ?_)
        | (go_at_call 12; (with_reducible refine (hput _ _ HV5.out).mono ?_); rintro e w6 ⟨rfl, hB⟩; have HB6 := hid (below_next HB5.out hB); clear hB hput)
        | (go_at_call 11; (with_reducible refine (law_head _ (HT.out.keep HB6.out)).mono ?_); rintro e wh ⟨rfl, hBh⟩; have HBh := hid (below_next HB6.out hBh); clear hBh))
      go_ret
      exact ⟨rfl, HBh.out⟩
    · clear hz hbb
      go_enter Tryd.func5, Tryd.ntmps5
      go_upto_region 5 with (first
      | (go_at_call 14; (with_reducible refine (hget _).mono ?_); rintro e w1 ⟨v1, rfl, hV, hB⟩; have HV1 := hid hV; have HB1 := hid hB; clear hV hB hget)
      | (refine wpList_store_row rfl _ _ _ rfl w1.heap.size (oc (setL O v1)) rfl rfl 30 (oc zeroO) ?_ (opSize _) rfl (oneO _ (ClaimsV.one HV1.out)) ?_; (focus exact heap_alloc_last' _ _); rw [World.setRow_alloc_new]; have H3 := hid (opAt_new w1 (setL O v1)); have HB2 := hid (below_next HB1.out (below_al w1 (.cells (oc (setL O v1)) 30))); have HV2 := hid (HV1.out.keep (below_al w1 (.cells (oc (setL O v1)) 30))); obtain ⟨q1, hq1⟩ : ∃ q, w1.heap.size = q := ⟨_, rfl⟩; rw [hq1] at H3 ⊢; generalize w1.alloc (.cells (oc (setL O v1)) 30) = w2 at H3 HB2 HV2 ⊢; clear hq1 HV1 HB1)
      | (go_at_call 17; (with_reducible refine (href _).mono ?_); rintro e w3 ⟨v2, rfl, hV, hB⟩; have HV3 := hid hV; have HW3 := hid (HV2.out.keep hB); have HB3 := hid (below_next HB2.out hB); have H33 := hid (H3.out.keep hB); clear hV hB href H3 HB2 HV2)
      | (refine wpList_store_row rfl _ _ _ rfl w3.heap.size (oc (setL O v2)) rfl rfl 30 (oc zeroO) ?_ (opSize _) rfl (oneO _ (ClaimsV.one HV3.out)) ?_; (focus exact heap_alloc_last' _ _); rw [World.setRow_alloc_new]; have H5 := hid (opAt_new w3 (setL O v2)); have H34 := hid (H33.out.al (.cells (oc (setL O v2)) 30)); have HB4 := hid (below_next HB3.out (below_al w3 (.cells (oc (setL O v2)) 30))); have HV4 := hid (HV3.out.keep (below_al w3 (.cells (oc (setL O v2)) 30))); have HW4 := hid (HW3.out.keep (below_al w3 (.cells (oc (setL O v2)) 30))); obtain ⟨q2, hq2⟩ : ∃ q, w3.heap.size = q := ⟨_, rfl⟩; rw [hq2] at H5 ⊢; generalize w3.alloc (.cells (oc (setL O v2)) 30) = w4 at H5 H34 HB4 HV4 HW4 ⊢; clear hq2 HV3 HB3 HW3 H33))

      go_wp2_with (first
        | (refine load_op2 _ rfl (by kernel_rfl) q1 rfl _ H34.out ?_)
        | (refine load_op2 _ rfl (by kernel_rfl) q2 rfl _ H5.out ?_)
        | (go_at_call 15; (with_reducible refine (hs _ _ _ HW4.out HV4.out).mono ?_); rintro e w5 ⟨rfl, hB⟩; have HB5 := hid (below_next HB4.out hB); clear hB hs)
        | (go_at_call 11; (with_reducible refine (law_head _ (HT.out.keep HB5.out)).mono ?_); rintro e wh ⟨rfl, hBh⟩; have HBh := hid (below_next HB5.out hBh); clear hBh))
      go_ret
      exact ⟨rfl, HBh.out⟩
end Go.Proofs.YtdhdfngaldfdjaaDoor.V
