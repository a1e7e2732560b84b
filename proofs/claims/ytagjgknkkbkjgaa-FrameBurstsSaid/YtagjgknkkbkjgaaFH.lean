/-
  Frames compared.
-/
import Derived.Test.YtagjgknkkbkjgaaFG
namespace Go.Proofs.Ytagjgknkkbkjgaa.V
set_option linter.unusedVariables false
set_option linter.unusedSimpArgs false
set_option maxRecDepth 100000
open Go Go.RowKit Go.Maps Wire

def sameFr (f g : FrM) (la lb : List OC) : Bool := ((f.kd : Int) == (g.kd : Int)) && ((f.fr : Int) == (g.fr : Int)) && ((f.rt : Int) == (g.rt : Int)) && eqV f.hv g.hv && sameL la lb

set_option maxHeartbeats 1000000 in
theorem frame_Same (f g : FrM) (la lb : List OC) (w : World) (hv1 : OpsV w f.ops la) (hv2 : OpsV w g.ops lb) :
    Calls Try.prog 14 #[.agg (fc f), .agg (fc g)] w
      fun e w' => e = .returned (.bool (sameFr f g la lb)) ∧ Below w.heap.size w w' := by
  have hB2 := below_al2 w (.cells (fc f) 27) (.cells (fc g) 27)
  have HE := hid hB2
  have HV1 := hid (hv1.keep hB2)
  have HV2 := hid (hv2.keep hB2)
  have HF1 := hid ((frAt_new w f).al (.cells (fc g) 27))
  have HF2 := hid (show FrAt ((w.alloc (.cells (fc f) 27)).alloc (.cells (fc g) 27)) (w.heap.size + 1) g from last2 _ _ _)
  clear hB2 hv1 hv2
  go_enter Try.func14, Try.ntmps14
  go_upto_region 1 with (fail)
  generalize (w.alloc (.cells (fc f) 27)).alloc (.cells (fc g) 27) = W at HE HV1 HV2 HF1 HF2 ⊢
  refine wp_flow (fun _ => none) (Fa.eq (.pointer (some ⟨w.heap.size, 0, none⟩)) :: Fa.eq (.int .u8 ((f.kd : Int))) :: Fa.eq (.pointer (some ⟨(w.heap.size + 1), 0, none⟩)) :: Fa.eq (.int .u8 ((g.kd : Int))) :: Fa.eq (.bool ((f.kd : Int) == (g.kd : Int))) :: Fa.eq (.pointer (some ⟨w.heap.size, 1, none⟩)) :: Fa.eq (.int .u8 ((f.fr : Int))) :: Fa.eq (.pointer (some ⟨(w.heap.size + 1), 1, none⟩)) :: Fa.eq (.int .u8 ((g.fr : Int))) :: Fa.eq (.bool ((f.fr : Int) == (g.fr : Int))) :: Fa.eq (.pointer (some ⟨w.heap.size, 2, none⟩)) :: Fa.eq (.int .u8 ((f.rt : Int))) :: Fa.eq (.pointer (some ⟨(w.heap.size + 1), 2, none⟩)) :: Fa.eq (.int .u8 ((g.rt : Int))) :: Fa.eq (.bool ((f.rt : Int) == (g.rt : Int))) :: Fa.eq (.pointer (some ⟨w.heap.size, 3, none⟩)) :: Fa.eq (.agg (vc f.hv)) :: Fa.eq (.pointer (some ⟨(w.heap.size + 1), 3, none⟩)) :: Fa.eq (.agg (vc g.hv)) :: Fa.eq (.bool (eqV f.hv g.hv)) :: Fa.eq (.pointer (some ⟨w.heap.size, 11, none⟩)) :: Fa.eq (f.ops) :: Fa.eq (.pointer (some ⟨(w.heap.size + 1), 11, none⟩)) :: Fa.eq (g.ops) :: Fa.eq (.bool (sameL la lb)) :: Fa.row 4 5 (bcells [(f.kd : Int) == (g.kd : Int), (f.fr : Int) == (g.fr : Int), (f.rt : Int) == (g.rt : Int), eqV f.hv g.hv, sameL la lb]) :: Fa.eq (.bool (([(f.kd : Int) == (g.kd : Int), (f.fr : Int) == (g.fr : Int), (f.rt : Int) == (g.rt : Int), eqV f.hv g.hv, sameL la lb] : List Bool).all id)) :: Fa.eq (.bool (([(f.kd : Int) == (g.kd : Int), (f.fr : Int) == (g.fr : Int), (f.rt : Int) == (g.rt : Int), eqV f.hv g.hv, sameL la lb] : List Bool).all id)) :: []) 32 (by kernel_rfl) rfl (by kernel_rfl) rfl (by kernel_rfl) ?_ ?_ ?_
  · exact fits_plain _ _ rfl
  · refine ⟨?_, ?_, ?_, ?_, ?_, ?_, ?_, ?_, ?_, ?_, ?_, ?_, ?_, ?_, ?_, ?_, ?_, ?_, ?_, ?_, ?_, ?_, ?_, ?_, ?_, ?_, ?_, ?_, trivial⟩
    · exact v_faddr (u := .pointer (some ⟨w.heap.size, 0, none⟩)) (c := .pointer (some ⟨w.heap.size, 0, none⟩)) rfl (fun w => (fld_fr _ w).1) rfl (by kernel_rfl) True.intro (Ev.out (by kernel_rfl) rfl)
    · exact v_load (u := .pointer (some ⟨w.heap.size, 0, none⟩)) (c := .int .u8 ((f.kd : Int))) rfl (fun w hB => ld_u8 (HF1.out.dr.keep hB).c0) rfl (by kernel_rfl) True.intro (Ev.at (i := 0) (by kernel_rfl) (by kernel_rfl) rfl)
    · exact v_faddr (u := .pointer (some ⟨(w.heap.size + 1), 0, none⟩)) (c := .pointer (some ⟨(w.heap.size + 1), 0, none⟩)) rfl (fun w => (fld_fr _ w).1) rfl (by kernel_rfl) True.intro (Ev.out (by kernel_rfl) rfl)
    · exact v_load (u := .pointer (some ⟨(w.heap.size + 1), 0, none⟩)) (c := .int .u8 ((g.kd : Int))) rfl (fun w hB => ld_u8 (HF2.out.dr.keep hB).c0) rfl (by kernel_rfl) True.intro (Ev.at (i := 2) (by kernel_rfl) (by kernel_rfl) rfl)
    · exact v_bin (u := .int .u8 ((f.kd : Int))) (v := .int .u8 ((g.kd : Int))) (c := .bool ((f.kd : Int) == (g.kd : Int))) rfl (fun w => (by go_simp)) rfl (by kernel_rfl) True.intro (Ev.at (i := 1) (by kernel_rfl) (by kernel_rfl) rfl) (Ev.at (i := 3) (by kernel_rfl) (by kernel_rfl) rfl)
    · exact v_faddr (u := .pointer (some ⟨w.heap.size, 0, none⟩)) (c := .pointer (some ⟨w.heap.size, 1, none⟩)) rfl (fun w => (fld_fr _ w).2.1) rfl (by kernel_rfl) True.intro (Ev.out (by kernel_rfl) rfl)
    · exact v_load (u := .pointer (some ⟨w.heap.size, 1, none⟩)) (c := .int .u8 ((f.fr : Int))) rfl (fun w hB => ld_u8 (HF1.out.dr.keep hB).c1) rfl (by kernel_rfl) True.intro (Ev.at (i := 5) (by kernel_rfl) (by kernel_rfl) rfl)
    · exact v_faddr (u := .pointer (some ⟨(w.heap.size + 1), 0, none⟩)) (c := .pointer (some ⟨(w.heap.size + 1), 1, none⟩)) rfl (fun w => (fld_fr _ w).2.1) rfl (by kernel_rfl) True.intro (Ev.out (by kernel_rfl) rfl)
    · exact v_load (u := .pointer (some ⟨(w.heap.size + 1), 1, none⟩)) (c := .int .u8 ((g.fr : Int))) rfl (fun w hB => ld_u8 (HF2.out.dr.keep hB).c1) rfl (by kernel_rfl) True.intro (Ev.at (i := 7) (by kernel_rfl) (by kernel_rfl) rfl)
    · exact v_bin (u := .int .u8 ((f.fr : Int))) (v := .int .u8 ((g.fr : Int))) (c := .bool ((f.fr : Int) == (g.fr : Int))) rfl (fun w => (by go_simp)) rfl (by kernel_rfl) True.intro (Ev.at (i := 6) (by kernel_rfl) (by kernel_rfl) rfl) (Ev.at (i := 8) (by kernel_rfl) (by kernel_rfl) rfl)
    · exact v_faddr (u := .pointer (some ⟨w.heap.size, 0, none⟩)) (c := .pointer (some ⟨w.heap.size, 2, none⟩)) rfl (fun w => (fld_fr _ w).2.2.1) rfl (by kernel_rfl) True.intro (Ev.out (by kernel_rfl) rfl)
    · exact v_load (u := .pointer (some ⟨w.heap.size, 2, none⟩)) (c := .int .u8 ((f.rt : Int))) rfl (fun w hB => ld_u8 (HF1.out.dr.keep hB).c2) rfl (by kernel_rfl) True.intro (Ev.at (i := 10) (by kernel_rfl) (by kernel_rfl) rfl)
    · exact v_faddr (u := .pointer (some ⟨(w.heap.size + 1), 0, none⟩)) (c := .pointer (some ⟨(w.heap.size + 1), 2, none⟩)) rfl (fun w => (fld_fr _ w).2.2.1) rfl (by kernel_rfl) True.intro (Ev.out (by kernel_rfl) rfl)
    · exact v_load (u := .pointer (some ⟨(w.heap.size + 1), 2, none⟩)) (c := .int .u8 ((g.rt : Int))) rfl (fun w hB => ld_u8 (HF2.out.dr.keep hB).c2) rfl (by kernel_rfl) True.intro (Ev.at (i := 12) (by kernel_rfl) (by kernel_rfl) rfl)
    · exact v_bin (u := .int .u8 ((f.rt : Int))) (v := .int .u8 ((g.rt : Int))) (c := .bool ((f.rt : Int) == (g.rt : Int))) rfl (fun w => (by go_simp)) rfl (by kernel_rfl) True.intro (Ev.at (i := 11) (by kernel_rfl) (by kernel_rfl) rfl) (Ev.at (i := 13) (by kernel_rfl) (by kernel_rfl) rfl)
    · exact v_faddr (u := .pointer (some ⟨w.heap.size, 0, none⟩)) (c := .pointer (some ⟨w.heap.size, 3, none⟩)) rfl (fun w => (fld_fr _ w).2.2.2.1) rfl (by kernel_rfl) True.intro (Ev.out (by kernel_rfl) rfl)
    · exact v_load (u := .pointer (some ⟨w.heap.size, 3, none⟩)) (c := .agg (vc f.hv)) rfl (fun w hB => ld_vec (HF1.out.dr.keep hB)) rfl (by kernel_rfl) True.intro (Ev.at (i := 15) (by kernel_rfl) (by kernel_rfl) rfl)
    · exact v_faddr (u := .pointer (some ⟨(w.heap.size + 1), 0, none⟩)) (c := .pointer (some ⟨(w.heap.size + 1), 3, none⟩)) rfl (fun w => (fld_fr _ w).2.2.2.1) rfl (by kernel_rfl) True.intro (Ev.out (by kernel_rfl) rfl)
    · exact v_load (u := .pointer (some ⟨(w.heap.size + 1), 3, none⟩)) (c := .agg (vc g.hv)) rfl (fun w hB => ld_vec (HF2.out.dr.keep hB)) rfl (by kernel_rfl) True.intro (Ev.at (i := 17) (by kernel_rfl) (by kernel_rfl) rfl)
    · exact v_bin (u := .agg (vc f.hv)) (v := .agg (vc g.hv)) (c := .bool (eqV f.hv g.hv)) rfl (fun w => bin_eqV _ _ () w) rfl (by kernel_rfl) True.intro (Ev.at (i := 16) (by kernel_rfl) (by kernel_rfl) rfl) (Ev.at (i := 18) (by kernel_rfl) (by kernel_rfl) rfl)
    · exact v_faddr (u := .pointer (some ⟨w.heap.size, 0, none⟩)) (c := .pointer (some ⟨w.heap.size, 11, none⟩)) rfl (fun w => (fld_fr _ w).2.2.2.2) rfl (by kernel_rfl) True.intro (Ev.out (by kernel_rfl) rfl)
    · exact v_load (u := .pointer (some ⟨w.heap.size, 11, none⟩)) (c := f.ops) rfl (fun w hB => ld_ops (HF1.out.dr.keep hB).c11) rfl (by kernel_rfl) True.intro (Ev.at (i := 20) (by kernel_rfl) (by kernel_rfl) rfl)
    · exact v_faddr (u := .pointer (some ⟨(w.heap.size + 1), 0, none⟩)) (c := .pointer (some ⟨(w.heap.size + 1), 11, none⟩)) rfl (fun w => (fld_fr _ w).2.2.2.2) rfl (by kernel_rfl) True.intro (Ev.out (by kernel_rfl) rfl)
    · exact v_load (u := .pointer (some ⟨(w.heap.size + 1), 11, none⟩)) (c := g.ops) rfl (fun w hB => ld_ops (HF2.out.dr.keep hB).c11) rfl (by kernel_rfl) True.intro (Ev.at (i := 22) (by kernel_rfl) (by kernel_rfl) rfl)
    · exact v_call (vs := #[f.ops, g.ops, .func (.func 41) #[] #[]]) (c := .bool (sameL la lb)) rfl (fun args w => rfl) (fun w hB => sl_EqualFunc la lb _ _ w (HV1.out.dr.keep hB) (HV2.out.dr.keep hB)) rfl (by kernel_rfl) True.intro (ev3 (Ev.at (i := 21) (by kernel_rfl) (by kernel_rfl) rfl) (Ev.at (i := 23) (by kernel_rfl) (by kernel_rfl) rfl) Ev.fn)
    · exact v_bools (l := [(f.kd : Int) == (g.kd : Int), (f.fr : Int) == (g.fr : Int), (f.rt : Int) == (g.rt : Int), eqV f.hv g.hv, sameL la lb]) rfl (by kernel_rfl) rfl (by kernel_rfl) True.intro (Nat.le_of_ble_eq_true rfl) (Nat.le_of_ble_eq_true rfl) ⟨(Ev.at (i := 4) (by kernel_rfl) (by kernel_rfl) rfl), (Ev.at (i := 9) (by kernel_rfl) (by kernel_rfl) rfl), (Ev.at (i := 14) (by kernel_rfl) (by kernel_rfl) rfl), (Ev.at (i := 19) (by kernel_rfl) (by kernel_rfl) rfl), (Ev.at (i := 24) (by kernel_rfl) (by kernel_rfl) rfl), trivial⟩
    · exact v_all (i := 25) (l := [(f.kd : Int) == (g.kd : Int), (f.fr : Int) == (g.fr : Int), (f.rt : Int) == (g.rt : Int), eqV f.hv g.hv, sameL la lb]) rfl rfl (Nat.le_of_ble_eq_true rfl) rfl (by kernel_rfl) True.intro (by kernel_rfl) (by kernel_rfl) rfl
    · exact v_move (.inr rfl) rfl (by kernel_rfl) True.intro (Ev.at (i := 26) (by kernel_rfl) (by kernel_rfl) rfl)
  intro o vs w1 hB1 hf
  have e0 : vs 0 = .pointer (some ⟨w.heap.size, 0, none⟩) := hf 0 (by decide)
  have e1 : vs 1 = .int .u8 ((f.kd : Int)) := hf 1 (by decide)
  have e2 : vs 2 = .pointer (some ⟨(w.heap.size + 1), 0, none⟩) := hf 2 (by decide)
  have e3 : vs 3 = .int .u8 ((g.kd : Int)) := hf 3 (by decide)
  have e4 : vs 4 = .bool ((f.kd : Int) == (g.kd : Int)) := hf 4 (by decide)
  have e5 : vs 5 = .pointer (some ⟨w.heap.size, 1, none⟩) := hf 5 (by decide)
  have e6 : vs 6 = .int .u8 ((f.fr : Int)) := hf 6 (by decide)
  have e7 : vs 7 = .pointer (some ⟨(w.heap.size + 1), 1, none⟩) := hf 7 (by decide)
  have e8 : vs 8 = .int .u8 ((g.fr : Int)) := hf 8 (by decide)
  have e9 : vs 9 = .bool ((f.fr : Int) == (g.fr : Int)) := hf 9 (by decide)
  have e10 : vs 10 = .pointer (some ⟨w.heap.size, 2, none⟩) := hf 10 (by decide)
  have e11 : vs 11 = .int .u8 ((f.rt : Int)) := hf 11 (by decide)
  have e12 : vs 12 = .pointer (some ⟨(w.heap.size + 1), 2, none⟩) := hf 12 (by decide)
  have e13 : vs 13 = .int .u8 ((g.rt : Int)) := hf 13 (by decide)
  have e14 : vs 14 = .bool ((f.rt : Int) == (g.rt : Int)) := hf 14 (by decide)
  have e15 : vs 15 = .pointer (some ⟨w.heap.size, 3, none⟩) := hf 15 (by decide)
  have e16 : vs 16 = .agg (vc f.hv) := hf 16 (by decide)
  have e17 : vs 17 = .pointer (some ⟨(w.heap.size + 1), 3, none⟩) := hf 17 (by decide)
  have e18 : vs 18 = .agg (vc g.hv) := hf 18 (by decide)
  have e19 : vs 19 = .bool (eqV f.hv g.hv) := hf 19 (by decide)
  have e20 : vs 20 = .pointer (some ⟨w.heap.size, 11, none⟩) := hf 20 (by decide)
  have e21 : vs 21 = f.ops := hf 21 (by decide)
  have e22 : vs 22 = .pointer (some ⟨(w.heap.size + 1), 11, none⟩) := hf 22 (by decide)
  have e23 : vs 23 = g.ops := hf 23 (by decide)
  have e24 : vs 24 = .bool (sameL la lb) := hf 24 (by decide)
  have e26 : vs 26 = .bool (([(f.kd : Int) == (g.kd : Int), (f.fr : Int) == (g.fr : Int), (f.rt : Int) == (g.rt : Int), eqV f.hv g.hv, sameL la lb] : List Bool).all id) := hf 26 (by decide)
  have e27 : vs 27 = .bool (([(f.kd : Int) == (g.kd : Int), (f.fr : Int) == (g.fr : Int), (f.rt : Int) == (g.rt : Int), eqV f.hv g.hv, sameL la lb] : List Bool).all id) := hf 27 (by decide)
  simp only [fill, List.setIfInBounds_toArray, List.set_cons_zero, List.set_cons_succ, e0, e1, e2, e3, e4, e5, e6, e7, e8, e9, e10, e11, e12, e13, e14, e15, e16, e17, e18, e19, e20, e21, e22, e23, e24, e26, e27]
  go_wp2
  go_ret
  refine ⟨congrArg (fun b => Ending.returned (.bool b)) ?_, below_next HE.out hB1⟩
  simp only [List.all_cons, List.all_nil, id, Bool.and_true, sameFr, Bool.and_assoc]

set_option maxHeartbeats 1000000 in
theorem ref_SameF (f g : FrM) (la lb : List OC) (w : World) (hv1 : OpsV w f.ops la) (hv2 : OpsV w g.ops lb) :
    Calls Try.prog 13 #[.agg (fc f), .agg (fc g)] w
      fun e w' => e = .returned (.bool (sameFr f g la lb)) ∧ Below w.heap.size w w' := by
  have hB2 := below_al2 w (.cells (fc f) 27) (.cells (fc g) 27)
  have HE := hid hB2
  have HV1 := hid (hv1.keep hB2)
  have HV2 := hid (hv2.keep hB2)
  have HF1 := hid ((frAt_new w f).al (.cells (fc g) 27))
  have HF2 := hid (show FrAt ((w.alloc (.cells (fc f) 27)).alloc (.cells (fc g) 27)) (w.heap.size + 1) g from last2 _ _ _)
  clear hB2 hv1 hv2
  go_enter Try.func13, Try.ntmps13
  go_upto_region 1 with (fail)
  generalize (w.alloc (.cells (fc f) 27)).alloc (.cells (fc g) 27) = W at HE HV1 HV2 HF1 HF2 ⊢
  refine wp_text (fun _ => none) (Fa.eq (.pointer (some ⟨w.heap.size, 0, none⟩)) :: Fa.eq (.int .u8 ((f.kd : Int))) :: Fa.eq (.pointer (some ⟨(w.heap.size + 1), 0, none⟩)) :: Fa.eq (.int .u8 ((g.kd : Int))) :: Fa.eq (.bool ((f.kd : Int) == (g.kd : Int))) :: Fa.eq (.bool ((f.kd : Int) == (g.kd : Int))) :: Fa.eq (gd ((f.kd : Int) == (g.kd : Int)) (.pointer (some ⟨w.heap.size, 1, none⟩))) :: Fa.eq (gd ((f.kd : Int) == (g.kd : Int)) (.int .u8 ((f.fr : Int)))) :: Fa.eq (gd ((f.kd : Int) == (g.kd : Int)) (.pointer (some ⟨(w.heap.size + 1), 1, none⟩))) :: Fa.eq (gd ((f.kd : Int) == (g.kd : Int)) (.int .u8 ((g.fr : Int)))) :: Fa.eq (gd ((f.kd : Int) == (g.kd : Int)) (.bool ((f.fr : Int) == (g.fr : Int)))) :: Fa.eq (.bool (((f.kd : Int) == (g.kd : Int)) && ((f.fr : Int) == (g.fr : Int)))) :: Fa.eq (.bool (((f.kd : Int) == (g.kd : Int)) && ((f.fr : Int) == (g.fr : Int)))) :: Fa.eq (gd (((f.kd : Int) == (g.kd : Int)) && ((f.fr : Int) == (g.fr : Int))) (.pointer (some ⟨w.heap.size, 2, none⟩))) :: Fa.eq (gd (((f.kd : Int) == (g.kd : Int)) && ((f.fr : Int) == (g.fr : Int))) (.int .u8 ((f.rt : Int)))) :: Fa.eq (gd (((f.kd : Int) == (g.kd : Int)) && ((f.fr : Int) == (g.fr : Int))) (.pointer (some ⟨(w.heap.size + 1), 2, none⟩))) :: Fa.eq (gd (((f.kd : Int) == (g.kd : Int)) && ((f.fr : Int) == (g.fr : Int))) (.int .u8 ((g.rt : Int)))) :: Fa.eq (gd (((f.kd : Int) == (g.kd : Int)) && ((f.fr : Int) == (g.fr : Int))) (.bool ((f.rt : Int) == (g.rt : Int)))) :: Fa.eq (.bool ((((f.kd : Int) == (g.kd : Int)) && ((f.fr : Int) == (g.fr : Int))) && ((f.rt : Int) == (g.rt : Int)))) :: Fa.eq (.bool ((((f.kd : Int) == (g.kd : Int)) && ((f.fr : Int) == (g.fr : Int))) && ((f.rt : Int) == (g.rt : Int)))) :: Fa.eq (gd ((((f.kd : Int) == (g.kd : Int)) && ((f.fr : Int) == (g.fr : Int))) && ((f.rt : Int) == (g.rt : Int))) (.pointer (some ⟨w.heap.size, 3, none⟩))) :: Fa.eq (gd ((((f.kd : Int) == (g.kd : Int)) && ((f.fr : Int) == (g.fr : Int))) && ((f.rt : Int) == (g.rt : Int))) (.agg (vc f.hv))) :: Fa.eq (gd ((((f.kd : Int) == (g.kd : Int)) && ((f.fr : Int) == (g.fr : Int))) && ((f.rt : Int) == (g.rt : Int))) (.pointer (some ⟨(w.heap.size + 1), 3, none⟩))) :: Fa.eq (gd ((((f.kd : Int) == (g.kd : Int)) && ((f.fr : Int) == (g.fr : Int))) && ((f.rt : Int) == (g.rt : Int))) (.agg (vc g.hv))) :: Fa.eq (gd ((((f.kd : Int) == (g.kd : Int)) && ((f.fr : Int) == (g.fr : Int))) && ((f.rt : Int) == (g.rt : Int))) (.bool (eqV f.hv g.hv))) :: Fa.eq (.bool (((((f.kd : Int) == (g.kd : Int)) && ((f.fr : Int) == (g.fr : Int))) && ((f.rt : Int) == (g.rt : Int))) && (eqV f.hv g.hv))) :: Fa.eq (.bool (((((f.kd : Int) == (g.kd : Int)) && ((f.fr : Int) == (g.fr : Int))) && ((f.rt : Int) == (g.rt : Int))) && (eqV f.hv g.hv))) :: Fa.eq (gd (((((f.kd : Int) == (g.kd : Int)) && ((f.fr : Int) == (g.fr : Int))) && ((f.rt : Int) == (g.rt : Int))) && (eqV f.hv g.hv)) (.pointer (some ⟨w.heap.size, 11, none⟩))) :: Fa.eq (gd (((((f.kd : Int) == (g.kd : Int)) && ((f.fr : Int) == (g.fr : Int))) && ((f.rt : Int) == (g.rt : Int))) && (eqV f.hv g.hv)) (f.ops)) :: Fa.eq (gd (((((f.kd : Int) == (g.kd : Int)) && ((f.fr : Int) == (g.fr : Int))) && ((f.rt : Int) == (g.rt : Int))) && (eqV f.hv g.hv)) (.pointer (some ⟨(w.heap.size + 1), 11, none⟩))) :: Fa.eq (gd (((((f.kd : Int) == (g.kd : Int)) && ((f.fr : Int) == (g.fr : Int))) && ((f.rt : Int) == (g.rt : Int))) && (eqV f.hv g.hv)) (g.ops)) :: Fa.eq (gd (((((f.kd : Int) == (g.kd : Int)) && ((f.fr : Int) == (g.fr : Int))) && ((f.rt : Int) == (g.rt : Int))) && (eqV f.hv g.hv)) (.bool (sameL la lb))) :: Fa.eq (.bool ((((((f.kd : Int) == (g.kd : Int)) && ((f.fr : Int) == (g.fr : Int))) && ((f.rt : Int) == (g.rt : Int))) && (eqV f.hv g.hv)) && (sameL la lb))) :: Fa.eq (.bool ((((((f.kd : Int) == (g.kd : Int)) && ((f.fr : Int) == (g.fr : Int))) && ((f.rt : Int) == (g.rt : Int))) && (eqV f.hv g.hv)) && (sameL la lb))) :: []) 38 rfl (by kernel_rfl) rfl (by kernel_rfl) ?_ ?_ ?_
  · exact fits_plain _ _ rfl
  · refine ⟨?_, ?_, ?_, ?_, ?_, ?_, ?_, ?_, ?_, ?_, ?_, ?_, ?_, ?_, ?_, ?_, ?_, ?_, ?_, ?_, ?_, ?_, ?_, ?_, ?_, ?_, ?_, ?_, ?_, ?_, ?_, ?_, ?_, ?_, trivial⟩
    · exact v_faddr (u := .pointer (some ⟨w.heap.size, 0, none⟩)) (c := .pointer (some ⟨w.heap.size, 0, none⟩)) rfl (fun w => (fld_fr _ w).1) rfl (by kernel_rfl) True.intro (Ev.out (by kernel_rfl) rfl)
    · exact v_load (u := .pointer (some ⟨w.heap.size, 0, none⟩)) (c := .int .u8 ((f.kd : Int))) rfl (fun w hB => ld_u8 (HF1.out.keep hB).c0) rfl (by kernel_rfl) True.intro (Ev.at (i := 0) (by kernel_rfl) (by kernel_rfl) rfl)
    · exact v_faddr (u := .pointer (some ⟨(w.heap.size + 1), 0, none⟩)) (c := .pointer (some ⟨(w.heap.size + 1), 0, none⟩)) rfl (fun w => (fld_fr _ w).1) rfl (by kernel_rfl) True.intro (Ev.out (by kernel_rfl) rfl)
    · exact v_load (u := .pointer (some ⟨(w.heap.size + 1), 0, none⟩)) (c := .int .u8 ((g.kd : Int))) rfl (fun w hB => ld_u8 (HF2.out.keep hB).c0) rfl (by kernel_rfl) True.intro (Ev.at (i := 2) (by kernel_rfl) (by kernel_rfl) rfl)
    · exact v_bin (u := .int .u8 ((f.kd : Int))) (v := .int .u8 ((g.kd : Int))) (c := .bool ((f.kd : Int) == (g.kd : Int))) rfl (fun w => (by go_simp)) rfl (by kernel_rfl) True.intro (Ev.at (i := 1) (by kernel_rfl) (by kernel_rfl) rfl) (Ev.at (i := 3) (by kernel_rfl) (by kernel_rfl) rfl)
    · exact v_move (.inl rfl) rfl (by kernel_rfl) True.intro (Ev.at (i := 4) (by kernel_rfl) (by kernel_rfl) rfl)
    · exact flow_gd ((f.kd : Int) == (g.kd : Int)) (.pointer (some ⟨w.heap.size, 1, none⟩)) 5 true (.bool ((f.kd : Int) == (g.kd : Int))) rfl (by kernel_rfl) rfl gu_t rfl (fun hg hF hj => v_faddr (u := .pointer (some ⟨w.heap.size, 0, none⟩)) (c := .pointer (some ⟨w.heap.size, 1, none⟩)) rfl (fun w => (fld_fr _ w).2.1) hF (by kernel_rfl) (guard_of rfl (by kernel_rfl) (by kernel_rfl) hj) (Ev.out (by kernel_rfl) rfl))
    · exact flow_gd ((f.kd : Int) == (g.kd : Int)) (.int .u8 ((f.fr : Int))) 5 true (.bool ((f.kd : Int) == (g.kd : Int))) rfl (by kernel_rfl) rfl gu_t rfl (fun hg hF hj => v_load (u := .pointer (some ⟨w.heap.size, 1, none⟩)) (c := .int .u8 ((f.fr : Int))) rfl (fun w hB => ld_u8 (HF1.out.keep hB).c1) hF (by kernel_rfl) (guard_of rfl (by kernel_rfl) (by kernel_rfl) hj) (Ev.at (i := 6) (by kernel_rfl) (by kernel_rfl) (fe rfl (gd_t hg))))
    · exact flow_gd ((f.kd : Int) == (g.kd : Int)) (.pointer (some ⟨(w.heap.size + 1), 1, none⟩)) 5 true (.bool ((f.kd : Int) == (g.kd : Int))) rfl (by kernel_rfl) rfl gu_t rfl (fun hg hF hj => v_faddr (u := .pointer (some ⟨(w.heap.size + 1), 0, none⟩)) (c := .pointer (some ⟨(w.heap.size + 1), 1, none⟩)) rfl (fun w => (fld_fr _ w).2.1) hF (by kernel_rfl) (guard_of rfl (by kernel_rfl) (by kernel_rfl) hj) (Ev.out (by kernel_rfl) rfl))
    · exact flow_gd ((f.kd : Int) == (g.kd : Int)) (.int .u8 ((g.fr : Int))) 5 true (.bool ((f.kd : Int) == (g.kd : Int))) rfl (by kernel_rfl) rfl gu_t rfl (fun hg hF hj => v_load (u := .pointer (some ⟨(w.heap.size + 1), 1, none⟩)) (c := .int .u8 ((g.fr : Int))) rfl (fun w hB => ld_u8 (HF2.out.keep hB).c1) hF (by kernel_rfl) (guard_of rfl (by kernel_rfl) (by kernel_rfl) hj) (Ev.at (i := 8) (by kernel_rfl) (by kernel_rfl) (fe rfl (gd_t hg))))
    · exact flow_gd ((f.kd : Int) == (g.kd : Int)) (.bool ((f.fr : Int) == (g.fr : Int))) 5 true (.bool ((f.kd : Int) == (g.kd : Int))) rfl (by kernel_rfl) rfl gu_t rfl (fun hg hF hj => v_bin (u := .int .u8 ((f.fr : Int))) (v := .int .u8 ((g.fr : Int))) (c := .bool ((f.fr : Int) == (g.fr : Int))) rfl (fun w => (by go_simp)) hF (by kernel_rfl) (guard_of rfl (by kernel_rfl) (by kernel_rfl) hj) (Ev.at (i := 7) (by kernel_rfl) (by kernel_rfl) (fe rfl (gd_t hg))) (Ev.at (i := 9) (by kernel_rfl) (by kernel_rfl) (fe rfl (gd_t hg))))
    · exact v_and (p := (f.kd : Int) == (g.kd : Int)) (q := (f.fr : Int) == (g.fr : Int)) rfl rfl (by kernel_rfl) True.intro (Ev.at (i := 5) (by kernel_rfl) (by kernel_rfl) rfl) (fun hp => (Ev.at (i := 10) (by kernel_rfl) (by kernel_rfl) (fe rfl (gd_t hp))))
    · exact v_move (.inl rfl) rfl (by kernel_rfl) True.intro (Ev.at (i := 11) (by kernel_rfl) (by kernel_rfl) rfl)
    · exact flow_gd (((f.kd : Int) == (g.kd : Int)) && ((f.fr : Int) == (g.fr : Int))) (.pointer (some ⟨w.heap.size, 2, none⟩)) 12 true (.bool (((f.kd : Int) == (g.kd : Int)) && ((f.fr : Int) == (g.fr : Int)))) rfl (by kernel_rfl) rfl gu_t rfl (fun hg hF hj => v_faddr (u := .pointer (some ⟨w.heap.size, 0, none⟩)) (c := .pointer (some ⟨w.heap.size, 2, none⟩)) rfl (fun w => (fld_fr _ w).2.2.1) hF (by kernel_rfl) (guard_of rfl (by kernel_rfl) (by kernel_rfl) hj) (Ev.out (by kernel_rfl) rfl))
    · exact flow_gd (((f.kd : Int) == (g.kd : Int)) && ((f.fr : Int) == (g.fr : Int))) (.int .u8 ((f.rt : Int))) 12 true (.bool (((f.kd : Int) == (g.kd : Int)) && ((f.fr : Int) == (g.fr : Int)))) rfl (by kernel_rfl) rfl gu_t rfl (fun hg hF hj => v_load (u := .pointer (some ⟨w.heap.size, 2, none⟩)) (c := .int .u8 ((f.rt : Int))) rfl (fun w hB => ld_u8 (HF1.out.keep hB).c2) hF (by kernel_rfl) (guard_of rfl (by kernel_rfl) (by kernel_rfl) hj) (Ev.at (i := 13) (by kernel_rfl) (by kernel_rfl) (fe rfl (gd_t hg))))
    · exact flow_gd (((f.kd : Int) == (g.kd : Int)) && ((f.fr : Int) == (g.fr : Int))) (.pointer (some ⟨(w.heap.size + 1), 2, none⟩)) 12 true (.bool (((f.kd : Int) == (g.kd : Int)) && ((f.fr : Int) == (g.fr : Int)))) rfl (by kernel_rfl) rfl gu_t rfl (fun hg hF hj => v_faddr (u := .pointer (some ⟨(w.heap.size + 1), 0, none⟩)) (c := .pointer (some ⟨(w.heap.size + 1), 2, none⟩)) rfl (fun w => (fld_fr _ w).2.2.1) hF (by kernel_rfl) (guard_of rfl (by kernel_rfl) (by kernel_rfl) hj) (Ev.out (by kernel_rfl) rfl))
    · exact flow_gd (((f.kd : Int) == (g.kd : Int)) && ((f.fr : Int) == (g.fr : Int))) (.int .u8 ((g.rt : Int))) 12 true (.bool (((f.kd : Int) == (g.kd : Int)) && ((f.fr : Int) == (g.fr : Int)))) rfl (by kernel_rfl) rfl gu_t rfl (fun hg hF hj => v_load (u := .pointer (some ⟨(w.heap.size + 1), 2, none⟩)) (c := .int .u8 ((g.rt : Int))) rfl (fun w hB => ld_u8 (HF2.out.keep hB).c2) hF (by kernel_rfl) (guard_of rfl (by kernel_rfl) (by kernel_rfl) hj) (Ev.at (i := 15) (by kernel_rfl) (by kernel_rfl) (fe rfl (gd_t hg))))
    · exact flow_gd (((f.kd : Int) == (g.kd : Int)) && ((f.fr : Int) == (g.fr : Int))) (.bool ((f.rt : Int) == (g.rt : Int))) 12 true (.bool (((f.kd : Int) == (g.kd : Int)) && ((f.fr : Int) == (g.fr : Int)))) rfl (by kernel_rfl) rfl gu_t rfl (fun hg hF hj => v_bin (u := .int .u8 ((f.rt : Int))) (v := .int .u8 ((g.rt : Int))) (c := .bool ((f.rt : Int) == (g.rt : Int))) rfl (fun w => (by go_simp)) hF (by kernel_rfl) (guard_of rfl (by kernel_rfl) (by kernel_rfl) hj) (Ev.at (i := 14) (by kernel_rfl) (by kernel_rfl) (fe rfl (gd_t hg))) (Ev.at (i := 16) (by kernel_rfl) (by kernel_rfl) (fe rfl (gd_t hg))))
    · exact v_and (p := ((f.kd : Int) == (g.kd : Int)) && ((f.fr : Int) == (g.fr : Int))) (q := (f.rt : Int) == (g.rt : Int)) rfl rfl (by kernel_rfl) True.intro (Ev.at (i := 12) (by kernel_rfl) (by kernel_rfl) rfl) (fun hp => (Ev.at (i := 17) (by kernel_rfl) (by kernel_rfl) (fe rfl (gd_t hp))))
    · exact v_move (.inl rfl) rfl (by kernel_rfl) True.intro (Ev.at (i := 18) (by kernel_rfl) (by kernel_rfl) rfl)
    · exact flow_gd ((((f.kd : Int) == (g.kd : Int)) && ((f.fr : Int) == (g.fr : Int))) && ((f.rt : Int) == (g.rt : Int))) (.pointer (some ⟨w.heap.size, 3, none⟩)) 19 true (.bool ((((f.kd : Int) == (g.kd : Int)) && ((f.fr : Int) == (g.fr : Int))) && ((f.rt : Int) == (g.rt : Int)))) rfl (by kernel_rfl) rfl gu_t rfl (fun hg hF hj => v_faddr (u := .pointer (some ⟨w.heap.size, 0, none⟩)) (c := .pointer (some ⟨w.heap.size, 3, none⟩)) rfl (fun w => (fld_fr _ w).2.2.2.1) hF (by kernel_rfl) (guard_of rfl (by kernel_rfl) (by kernel_rfl) hj) (Ev.out (by kernel_rfl) rfl))
    · exact flow_gd ((((f.kd : Int) == (g.kd : Int)) && ((f.fr : Int) == (g.fr : Int))) && ((f.rt : Int) == (g.rt : Int))) (.agg (vc f.hv)) 19 true (.bool ((((f.kd : Int) == (g.kd : Int)) && ((f.fr : Int) == (g.fr : Int))) && ((f.rt : Int) == (g.rt : Int)))) rfl (by kernel_rfl) rfl gu_t rfl (fun hg hF hj => v_load (u := .pointer (some ⟨w.heap.size, 3, none⟩)) (c := .agg (vc f.hv)) rfl (fun w hB => ld_vec (HF1.out.keep hB)) hF (by kernel_rfl) (guard_of rfl (by kernel_rfl) (by kernel_rfl) hj) (Ev.at (i := 20) (by kernel_rfl) (by kernel_rfl) (fe rfl (gd_t hg))))
    · exact flow_gd ((((f.kd : Int) == (g.kd : Int)) && ((f.fr : Int) == (g.fr : Int))) && ((f.rt : Int) == (g.rt : Int))) (.pointer (some ⟨(w.heap.size + 1), 3, none⟩)) 19 true (.bool ((((f.kd : Int) == (g.kd : Int)) && ((f.fr : Int) == (g.fr : Int))) && ((f.rt : Int) == (g.rt : Int)))) rfl (by kernel_rfl) rfl gu_t rfl (fun hg hF hj => v_faddr (u := .pointer (some ⟨(w.heap.size + 1), 0, none⟩)) (c := .pointer (some ⟨(w.heap.size + 1), 3, none⟩)) rfl (fun w => (fld_fr _ w).2.2.2.1) hF (by kernel_rfl) (guard_of rfl (by kernel_rfl) (by kernel_rfl) hj) (Ev.out (by kernel_rfl) rfl))
    · exact flow_gd ((((f.kd : Int) == (g.kd : Int)) && ((f.fr : Int) == (g.fr : Int))) && ((f.rt : Int) == (g.rt : Int))) (.agg (vc g.hv)) 19 true (.bool ((((f.kd : Int) == (g.kd : Int)) && ((f.fr : Int) == (g.fr : Int))) && ((f.rt : Int) == (g.rt : Int)))) rfl (by kernel_rfl) rfl gu_t rfl (fun hg hF hj => v_load (u := .pointer (some ⟨(w.heap.size + 1), 3, none⟩)) (c := .agg (vc g.hv)) rfl (fun w hB => ld_vec (HF2.out.keep hB)) hF (by kernel_rfl) (guard_of rfl (by kernel_rfl) (by kernel_rfl) hj) (Ev.at (i := 22) (by kernel_rfl) (by kernel_rfl) (fe rfl (gd_t hg))))
    · exact flow_gd ((((f.kd : Int) == (g.kd : Int)) && ((f.fr : Int) == (g.fr : Int))) && ((f.rt : Int) == (g.rt : Int))) (.bool (eqV f.hv g.hv)) 19 true (.bool ((((f.kd : Int) == (g.kd : Int)) && ((f.fr : Int) == (g.fr : Int))) && ((f.rt : Int) == (g.rt : Int)))) rfl (by kernel_rfl) rfl gu_t rfl (fun hg hF hj => v_bin (u := .agg (vc f.hv)) (v := .agg (vc g.hv)) (c := .bool (eqV f.hv g.hv)) rfl (fun w => bin_eqV _ _ () w) hF (by kernel_rfl) (guard_of rfl (by kernel_rfl) (by kernel_rfl) hj) (Ev.at (i := 21) (by kernel_rfl) (by kernel_rfl) (fe rfl (gd_t hg))) (Ev.at (i := 23) (by kernel_rfl) (by kernel_rfl) (fe rfl (gd_t hg))))
    · exact v_and (p := (((f.kd : Int) == (g.kd : Int)) && ((f.fr : Int) == (g.fr : Int))) && ((f.rt : Int) == (g.rt : Int))) (q := eqV f.hv g.hv) rfl rfl (by kernel_rfl) True.intro (Ev.at (i := 19) (by kernel_rfl) (by kernel_rfl) rfl) (fun hp => (Ev.at (i := 24) (by kernel_rfl) (by kernel_rfl) (fe rfl (gd_t hp))))
    · exact v_move (.inl rfl) rfl (by kernel_rfl) True.intro (Ev.at (i := 25) (by kernel_rfl) (by kernel_rfl) rfl)
    · exact flow_gd (((((f.kd : Int) == (g.kd : Int)) && ((f.fr : Int) == (g.fr : Int))) && ((f.rt : Int) == (g.rt : Int))) && (eqV f.hv g.hv)) (.pointer (some ⟨w.heap.size, 11, none⟩)) 26 true (.bool (((((f.kd : Int) == (g.kd : Int)) && ((f.fr : Int) == (g.fr : Int))) && ((f.rt : Int) == (g.rt : Int))) && (eqV f.hv g.hv))) rfl (by kernel_rfl) rfl gu_t rfl (fun hg hF hj => v_faddr (u := .pointer (some ⟨w.heap.size, 0, none⟩)) (c := .pointer (some ⟨w.heap.size, 11, none⟩)) rfl (fun w => (fld_fr _ w).2.2.2.2) hF (by kernel_rfl) (guard_of rfl (by kernel_rfl) (by kernel_rfl) hj) (Ev.out (by kernel_rfl) rfl))
    · exact flow_gd (((((f.kd : Int) == (g.kd : Int)) && ((f.fr : Int) == (g.fr : Int))) && ((f.rt : Int) == (g.rt : Int))) && (eqV f.hv g.hv)) (f.ops) 26 true (.bool (((((f.kd : Int) == (g.kd : Int)) && ((f.fr : Int) == (g.fr : Int))) && ((f.rt : Int) == (g.rt : Int))) && (eqV f.hv g.hv))) rfl (by kernel_rfl) rfl gu_t rfl (fun hg hF hj => v_load (u := .pointer (some ⟨w.heap.size, 11, none⟩)) (c := f.ops) rfl (fun w hB => ld_ops (HF1.out.keep hB).c11) hF (by kernel_rfl) (guard_of rfl (by kernel_rfl) (by kernel_rfl) hj) (Ev.at (i := 27) (by kernel_rfl) (by kernel_rfl) (fe rfl (gd_t hg))))
    · exact flow_gd (((((f.kd : Int) == (g.kd : Int)) && ((f.fr : Int) == (g.fr : Int))) && ((f.rt : Int) == (g.rt : Int))) && (eqV f.hv g.hv)) (.pointer (some ⟨(w.heap.size + 1), 11, none⟩)) 26 true (.bool (((((f.kd : Int) == (g.kd : Int)) && ((f.fr : Int) == (g.fr : Int))) && ((f.rt : Int) == (g.rt : Int))) && (eqV f.hv g.hv))) rfl (by kernel_rfl) rfl gu_t rfl (fun hg hF hj => v_faddr (u := .pointer (some ⟨(w.heap.size + 1), 0, none⟩)) (c := .pointer (some ⟨(w.heap.size + 1), 11, none⟩)) rfl (fun w => (fld_fr _ w).2.2.2.2) hF (by kernel_rfl) (guard_of rfl (by kernel_rfl) (by kernel_rfl) hj) (Ev.out (by kernel_rfl) rfl))
    · exact flow_gd (((((f.kd : Int) == (g.kd : Int)) && ((f.fr : Int) == (g.fr : Int))) && ((f.rt : Int) == (g.rt : Int))) && (eqV f.hv g.hv)) (g.ops) 26 true (.bool (((((f.kd : Int) == (g.kd : Int)) && ((f.fr : Int) == (g.fr : Int))) && ((f.rt : Int) == (g.rt : Int))) && (eqV f.hv g.hv))) rfl (by kernel_rfl) rfl gu_t rfl (fun hg hF hj => v_load (u := .pointer (some ⟨(w.heap.size + 1), 11, none⟩)) (c := g.ops) rfl (fun w hB => ld_ops (HF2.out.keep hB).c11) hF (by kernel_rfl) (guard_of rfl (by kernel_rfl) (by kernel_rfl) hj) (Ev.at (i := 29) (by kernel_rfl) (by kernel_rfl) (fe rfl (gd_t hg))))
    · exact flow_gd (((((f.kd : Int) == (g.kd : Int)) && ((f.fr : Int) == (g.fr : Int))) && ((f.rt : Int) == (g.rt : Int))) && (eqV f.hv g.hv)) (.bool (sameL la lb)) 26 true (.bool (((((f.kd : Int) == (g.kd : Int)) && ((f.fr : Int) == (g.fr : Int))) && ((f.rt : Int) == (g.rt : Int))) && (eqV f.hv g.hv))) rfl (by kernel_rfl) rfl gu_t rfl (fun hg hF hj => v_call (vs := #[f.ops, g.ops]) (c := .bool (sameL la lb)) rfl (fun args w => rfl) (fun w hB => ref_SameAll la lb _ _ w (HV1.out.keep hB) (HV2.out.keep hB)) hF (by kernel_rfl) (guard_of rfl (by kernel_rfl) (by kernel_rfl) hj) (ev2 (Ev.at (i := 28) (by kernel_rfl) (by kernel_rfl) (fe rfl (gd_t hg))) (Ev.at (i := 30) (by kernel_rfl) (by kernel_rfl) (fe rfl (gd_t hg)))))
    · exact v_and (p := ((((f.kd : Int) == (g.kd : Int)) && ((f.fr : Int) == (g.fr : Int))) && ((f.rt : Int) == (g.rt : Int))) && (eqV f.hv g.hv)) (q := sameL la lb) rfl rfl (by kernel_rfl) True.intro (Ev.at (i := 26) (by kernel_rfl) (by kernel_rfl) rfl) (fun hp => (Ev.at (i := 31) (by kernel_rfl) (by kernel_rfl) (fe rfl (gd_t hp))))
    · exact v_move (.inr rfl) rfl (by kernel_rfl) True.intro (Ev.at (i := 32) (by kernel_rfl) (by kernel_rfl) rfl)
  intro o vs w1 hB1 hf
  have e0 : vs 0 = .pointer (some ⟨w.heap.size, 0, none⟩) := hf 0 (by decide)
  have e1 : vs 1 = .int .u8 ((f.kd : Int)) := hf 1 (by decide)
  have e2 : vs 2 = .pointer (some ⟨(w.heap.size + 1), 0, none⟩) := hf 2 (by decide)
  have e3 : vs 3 = .int .u8 ((g.kd : Int)) := hf 3 (by decide)
  have e4 : vs 4 = .bool ((f.kd : Int) == (g.kd : Int)) := hf 4 (by decide)
  have e5 : vs 5 = .bool ((f.kd : Int) == (g.kd : Int)) := hf 5 (by decide)
  have e6 : vs 6 = gd ((f.kd : Int) == (g.kd : Int)) (.pointer (some ⟨w.heap.size, 1, none⟩)) := hf 6 (by decide)
  have e7 : vs 7 = gd ((f.kd : Int) == (g.kd : Int)) (.int .u8 ((f.fr : Int))) := hf 7 (by decide)
  have e8 : vs 8 = gd ((f.kd : Int) == (g.kd : Int)) (.pointer (some ⟨(w.heap.size + 1), 1, none⟩)) := hf 8 (by decide)
  have e9 : vs 9 = gd ((f.kd : Int) == (g.kd : Int)) (.int .u8 ((g.fr : Int))) := hf 9 (by decide)
  have e10 : vs 10 = gd ((f.kd : Int) == (g.kd : Int)) (.bool ((f.fr : Int) == (g.fr : Int))) := hf 10 (by decide)
  have e11 : vs 11 = .bool (((f.kd : Int) == (g.kd : Int)) && ((f.fr : Int) == (g.fr : Int))) := hf 11 (by decide)
  have e12 : vs 12 = .bool (((f.kd : Int) == (g.kd : Int)) && ((f.fr : Int) == (g.fr : Int))) := hf 12 (by decide)
  have e13 : vs 13 = gd (((f.kd : Int) == (g.kd : Int)) && ((f.fr : Int) == (g.fr : Int))) (.pointer (some ⟨w.heap.size, 2, none⟩)) := hf 13 (by decide)
  have e14 : vs 14 = gd (((f.kd : Int) == (g.kd : Int)) && ((f.fr : Int) == (g.fr : Int))) (.int .u8 ((f.rt : Int))) := hf 14 (by decide)
  have e15 : vs 15 = gd (((f.kd : Int) == (g.kd : Int)) && ((f.fr : Int) == (g.fr : Int))) (.pointer (some ⟨(w.heap.size + 1), 2, none⟩)) := hf 15 (by decide)
  have e16 : vs 16 = gd (((f.kd : Int) == (g.kd : Int)) && ((f.fr : Int) == (g.fr : Int))) (.int .u8 ((g.rt : Int))) := hf 16 (by decide)
  have e17 : vs 17 = gd (((f.kd : Int) == (g.kd : Int)) && ((f.fr : Int) == (g.fr : Int))) (.bool ((f.rt : Int) == (g.rt : Int))) := hf 17 (by decide)
  have e18 : vs 18 = .bool ((((f.kd : Int) == (g.kd : Int)) && ((f.fr : Int) == (g.fr : Int))) && ((f.rt : Int) == (g.rt : Int))) := hf 18 (by decide)
  have e19 : vs 19 = .bool ((((f.kd : Int) == (g.kd : Int)) && ((f.fr : Int) == (g.fr : Int))) && ((f.rt : Int) == (g.rt : Int))) := hf 19 (by decide)
  have e20 : vs 20 = gd ((((f.kd : Int) == (g.kd : Int)) && ((f.fr : Int) == (g.fr : Int))) && ((f.rt : Int) == (g.rt : Int))) (.pointer (some ⟨w.heap.size, 3, none⟩)) := hf 20 (by decide)
  have e21 : vs 21 = gd ((((f.kd : Int) == (g.kd : Int)) && ((f.fr : Int) == (g.fr : Int))) && ((f.rt : Int) == (g.rt : Int))) (.agg (vc f.hv)) := hf 21 (by decide)
  have e22 : vs 22 = gd ((((f.kd : Int) == (g.kd : Int)) && ((f.fr : Int) == (g.fr : Int))) && ((f.rt : Int) == (g.rt : Int))) (.pointer (some ⟨(w.heap.size + 1), 3, none⟩)) := hf 22 (by decide)
  have e23 : vs 23 = gd ((((f.kd : Int) == (g.kd : Int)) && ((f.fr : Int) == (g.fr : Int))) && ((f.rt : Int) == (g.rt : Int))) (.agg (vc g.hv)) := hf 23 (by decide)
  have e24 : vs 24 = gd ((((f.kd : Int) == (g.kd : Int)) && ((f.fr : Int) == (g.fr : Int))) && ((f.rt : Int) == (g.rt : Int))) (.bool (eqV f.hv g.hv)) := hf 24 (by decide)
  have e25 : vs 25 = .bool (((((f.kd : Int) == (g.kd : Int)) && ((f.fr : Int) == (g.fr : Int))) && ((f.rt : Int) == (g.rt : Int))) && (eqV f.hv g.hv)) := hf 25 (by decide)
  have e26 : vs 26 = .bool (((((f.kd : Int) == (g.kd : Int)) && ((f.fr : Int) == (g.fr : Int))) && ((f.rt : Int) == (g.rt : Int))) && (eqV f.hv g.hv)) := hf 26 (by decide)
  have e27 : vs 27 = gd (((((f.kd : Int) == (g.kd : Int)) && ((f.fr : Int) == (g.fr : Int))) && ((f.rt : Int) == (g.rt : Int))) && (eqV f.hv g.hv)) (.pointer (some ⟨w.heap.size, 11, none⟩)) := hf 27 (by decide)
  have e28 : vs 28 = gd (((((f.kd : Int) == (g.kd : Int)) && ((f.fr : Int) == (g.fr : Int))) && ((f.rt : Int) == (g.rt : Int))) && (eqV f.hv g.hv)) (f.ops) := hf 28 (by decide)
  have e29 : vs 29 = gd (((((f.kd : Int) == (g.kd : Int)) && ((f.fr : Int) == (g.fr : Int))) && ((f.rt : Int) == (g.rt : Int))) && (eqV f.hv g.hv)) (.pointer (some ⟨(w.heap.size + 1), 11, none⟩)) := hf 29 (by decide)
  have e30 : vs 30 = gd (((((f.kd : Int) == (g.kd : Int)) && ((f.fr : Int) == (g.fr : Int))) && ((f.rt : Int) == (g.rt : Int))) && (eqV f.hv g.hv)) (g.ops) := hf 30 (by decide)
  have e31 : vs 31 = gd (((((f.kd : Int) == (g.kd : Int)) && ((f.fr : Int) == (g.fr : Int))) && ((f.rt : Int) == (g.rt : Int))) && (eqV f.hv g.hv)) (.bool (sameL la lb)) := hf 31 (by decide)
  have e32 : vs 32 = .bool ((((((f.kd : Int) == (g.kd : Int)) && ((f.fr : Int) == (g.fr : Int))) && ((f.rt : Int) == (g.rt : Int))) && (eqV f.hv g.hv)) && (sameL la lb)) := hf 32 (by decide)
  have e33 : vs 33 = .bool ((((((f.kd : Int) == (g.kd : Int)) && ((f.fr : Int) == (g.fr : Int))) && ((f.rt : Int) == (g.rt : Int))) && (eqV f.hv g.hv)) && (sameL la lb)) := hf 33 (by decide)
  simp only [fill, List.setIfInBounds_toArray, List.set_cons_zero, List.set_cons_succ, e0, e1, e2, e3, e4, e5, e6, e7, e8, e9, e10, e11, e12, e13, e14, e15, e16, e17, e18, e19, e20, e21, e22, e23, e24, e25, e26, e27, e28, e29, e30, e31, e32, e33]
  go_wp2
  go_ret
  refine ⟨congrArg (fun b => Ending.returned (.bool b)) ?_, below_next HE.out hB1⟩
  rfl

end Go.Proofs.Ytagjgknkkbkjgaa.V
