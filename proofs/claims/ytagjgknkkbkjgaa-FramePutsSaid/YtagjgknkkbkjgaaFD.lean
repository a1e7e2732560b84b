/-
  frame.May.
-/
import Derived.Test.YtagjgknkkbkjgaaFC
namespace Go.Proofs.Ytagjgknkkbkjgaa.V
set_option linter.unusedVariables false
set_option linter.unusedSimpArgs false
set_option maxRecDepth 100000
open Go Go.RowKit Go.Maps Wire

theorem mayF_bool {f : FrM} {l : List OC} : mayF f l = true ↔ f.kd ≤ 1 ∧ f.fr < 8 ∧ f.rt < 8 ∧ f.fr ≠ f.rt ∧ (f.kd ≠ 0 ∨ l.length = 0) ∧ l.length ≤ 64 ∧ long l = false := by
  unfold mayF
  simp only [Bool.and_eq_true, Bool.or_eq_true, decide_eq_true_eq, Bool.not_eq_true']
theorem OpsV.dr {w : World} {v : Value} {l : List OC} (h : OpsV w v l) : OpsV w.drew v l := h.keep (below_dr _)
theorem ld_fr {w : World} {g : Nat} {f : FrM} (h : FrAt w g f) : (Instr.loadAt 27 (.pointer (some ⟨g, 0, none⟩))).run Try.prog w = .ok (.agg (fc f)) w := by
  simp only [Instr.loadAt, Instr.sureAddr, Sem.run_bind, Sem.run_pure, Result.andThen_ok, run_loadVar_row w g 27 27 _ _ _ h Try.underlying27 rfl (frSize _)]
theorem bin_bool_eql (p q : Bool) {x y : Operand} (w : World) : (do eqGuard .eql 4 x y (.bool p) (.bool q); binOp .eql 4 (.bool p) (.bool q) : Sem Value).run Try.prog w = .ok (.bool (p == q)) w := by cases p <;> cases q <;> go_simp
theorem bin_bool_neq (p q : Bool) {x y : Operand} (w : World) : (do eqGuard .neq 4 x y (.bool p) (.bool q); binOp .neq 4 (.bool p) (.bool q) : Sem Value).run Try.prog w = .ok (.bool (p != q)) w := by cases p <;> cases q <;> go_simp
theorem bin_eqV (v u : Vec) {x y : Operand} (b : Unit) (w : World) : (do eqGuard .eql 24 x y (.agg (vc v)) (.agg (vc u)); binOp .eql 24 (.agg (vc v)) (.agg (vc u)) : Sem Value).run Try.prog w = .ok (.bool (eqV v u)) w := by
  have hr : (Op.equalIn 10000 24 (.agg (vc v)) (.agg (vc u))).run Try.prog w = .ok (eqV v u) w := eq_vec v u w
  go_simp

set_option maxHeartbeats 1000000 in
theorem frame_May (f : FrM) (l : List OC) (w : World) (hv : OpsV w f.ops l) :
    Calls Try.prog 10 #[.agg (fc f)] w
      fun e w' => e = .returned (.bool (mayF f l)) ∧ Below w.heap.size w w' := by
  have HV := hid (hv.keep (below_al w (.cells (fc f) 27)))
  have HE := hid (below_al w (.cells (fc f) 27))
  have HFR := hid (frAt_new w f)
  obtain ⟨ad, n, cap, hlv, hI⟩ := hv
  have HN := hid hI.1
  have HLV := hid hlv
  clear hI hlv
  go_enter Try.func10, Try.ntmps10
  go_upto_region 1 with (fail)
  generalize w.alloc (.cells (fc f) 27) = W at HV HE HFR ⊢
  refine wp_flow (fun _ => none) (Fa.eq (.pointer (some ⟨w.heap.size, 0, none⟩)) :: Fa.eq (.int .u8 ((f.kd : Int))) :: Fa.eq (.bool ((f.kd : Int) == 0)) :: Fa.eq (.bool ((f.kd : Int) == 0)) :: Fa.eq (gd (!((f.kd : Int) == 0)) (.pointer (some ⟨w.heap.size, 0, none⟩))) :: Fa.eq (gd (!((f.kd : Int) == 0)) (.int .u8 ((f.kd : Int)))) :: Fa.eq (gd (!((f.kd : Int) == 0)) (.bool ((f.kd : Int) == 1))) :: Fa.eq (.bool (((f.kd : Int) == 0) || ((f.kd : Int) == 1))) :: Fa.eq (.pointer (some ⟨w.heap.size, 1, none⟩)) :: Fa.eq (.int .u8 ((f.fr : Int))) :: Fa.eq (.bool (decide ((f.fr : Int) < 8))) :: Fa.eq (.pointer (some ⟨w.heap.size, 2, none⟩)) :: Fa.eq (.int .u8 ((f.rt : Int))) :: Fa.eq (.bool (decide ((f.rt : Int) < 8))) :: Fa.eq (.pointer (some ⟨w.heap.size, 1, none⟩)) :: Fa.eq (.int .u8 ((f.fr : Int))) :: Fa.eq (.pointer (some ⟨w.heap.size, 2, none⟩)) :: Fa.eq (.int .u8 ((f.rt : Int))) :: Fa.eq (.bool ((f.fr : Int) != (f.rt : Int))) :: Fa.eq (.pointer (some ⟨w.heap.size, 0, none⟩)) :: Fa.eq (.int .u8 ((f.kd : Int))) :: Fa.eq (.bool ((f.kd : Int) != 0)) :: Fa.eq (.bool ((f.kd : Int) != 0)) :: Fa.eq (gd (!((f.kd : Int) != 0)) (.pointer (some ⟨w.heap.size, 11, none⟩))) :: Fa.eq (gd (!((f.kd : Int) != 0)) (.slice ad n cap)) :: Fa.eq (gd (!((f.kd : Int) != 0)) (.int .i64 ((n : Int)))) :: Fa.eq (gd (!((f.kd : Int) != 0)) (.bool ((n : Int) == 0))) :: Fa.eq (.bool (((f.kd : Int) != 0) || ((n : Int) == 0))) :: Fa.eq (.pointer (some ⟨w.heap.size, 11, none⟩)) :: Fa.eq (.slice ad n cap) :: Fa.eq (.int .i64 ((n : Int))) :: Fa.eq (.bool (decide ((n : Int) ≤ 64))) :: Fa.eq (.pointer (some ⟨w.heap.size, 11, none⟩)) :: Fa.eq (.slice ad n cap) :: Fa.eq (.bool (long l)) :: Fa.eq (.bool (!(long l))) :: Fa.row 4 7 (bcells [((f.kd : Int) == 0) || ((f.kd : Int) == 1), decide ((f.fr : Int) < 8), decide ((f.rt : Int) < 8), (f.fr : Int) != (f.rt : Int), ((f.kd : Int) != 0) || ((n : Int) == 0), decide ((n : Int) ≤ 64), !(long l)]) :: Fa.eq (.bool (([((f.kd : Int) == 0) || ((f.kd : Int) == 1), decide ((f.fr : Int) < 8), decide ((f.rt : Int) < 8), (f.fr : Int) != (f.rt : Int), ((f.kd : Int) != 0) || ((n : Int) == 0), decide ((n : Int) ≤ 64), !(long l)] : List Bool).all id)) :: Fa.eq (.bool (([((f.kd : Int) == 0) || ((f.kd : Int) == 1), decide ((f.fr : Int) < 8), decide ((f.rt : Int) < 8), (f.fr : Int) != (f.rt : Int), ((f.kd : Int) != 0) || ((n : Int) == 0), decide ((n : Int) ≤ 64), !(long l)] : List Bool).all id)) :: []) 41 (by kernel_rfl) rfl (by kernel_rfl) rfl (by kernel_rfl) ?_ ?_ ?_
  · exact fits_plain _ _ rfl
  · refine ⟨?_, ?_, ?_, ?_, ?_, ?_, ?_, ?_, ?_, ?_, ?_, ?_, ?_, ?_, ?_, ?_, ?_, ?_, ?_, ?_, ?_, ?_, ?_, ?_, ?_, ?_, ?_, ?_, ?_, ?_, ?_, ?_, ?_, ?_, ?_, ?_, ?_, ?_, ?_, trivial⟩
    · exact v_faddr (u := .pointer (some ⟨w.heap.size, 0, none⟩)) (c := .pointer (some ⟨w.heap.size, 0, none⟩)) rfl (fun w => (fld_fr _ w).1) rfl (by kernel_rfl) True.intro (Ev.out (by kernel_rfl) rfl)
    · exact v_load (u := .pointer (some ⟨w.heap.size, 0, none⟩)) (c := .int .u8 ((f.kd : Int))) rfl (fun w hB => ld_u8 (HFR.out.dr.keep hB).c0) rfl (by kernel_rfl) True.intro (Ev.at (i := 0) (by kernel_rfl) (by kernel_rfl) rfl)
    · exact v_bin (u := .int .u8 ((f.kd : Int))) (v := .int .u8 (0)) (c := .bool ((f.kd : Int) == 0)) rfl (fun w => (by go_simp)) rfl (by kernel_rfl) True.intro (Ev.at (i := 1) (by kernel_rfl) (by kernel_rfl) rfl) Ev.const
    · exact v_move (.inl rfl) rfl (by kernel_rfl) True.intro (Ev.at (i := 2) (by kernel_rfl) (by kernel_rfl) rfl)
    · exact flow_gd (!((f.kd : Int) == 0)) (.pointer (some ⟨w.heap.size, 0, none⟩)) 3 false (.bool ((f.kd : Int) == 0)) rfl (by kernel_rfl) rfl gu_f rfl (fun hg hF hj => v_faddr (u := .pointer (some ⟨w.heap.size, 0, none⟩)) (c := .pointer (some ⟨w.heap.size, 0, none⟩)) rfl (fun w => (fld_fr _ w).1) hF (by kernel_rfl) (guard_of rfl (by kernel_rfl) (by kernel_rfl) hj) (Ev.out (by kernel_rfl) rfl))
    · exact flow_gd (!((f.kd : Int) == 0)) (.int .u8 ((f.kd : Int))) 3 false (.bool ((f.kd : Int) == 0)) rfl (by kernel_rfl) rfl gu_f rfl (fun hg hF hj => v_load (u := .pointer (some ⟨w.heap.size, 0, none⟩)) (c := .int .u8 ((f.kd : Int))) rfl (fun w hB => ld_u8 (HFR.out.dr.keep hB).c0) hF (by kernel_rfl) (guard_of rfl (by kernel_rfl) (by kernel_rfl) hj) (Ev.at (i := 4) (by kernel_rfl) (by kernel_rfl) (fe rfl (gd_t hg))))
    · exact flow_gd (!((f.kd : Int) == 0)) (.bool ((f.kd : Int) == 1)) 3 false (.bool ((f.kd : Int) == 0)) rfl (by kernel_rfl) rfl gu_f rfl (fun hg hF hj => v_bin (u := .int .u8 ((f.kd : Int))) (v := .int .u8 (1)) (c := .bool ((f.kd : Int) == 1)) rfl (fun w => (by go_simp)) hF (by kernel_rfl) (guard_of rfl (by kernel_rfl) (by kernel_rfl) hj) (Ev.at (i := 5) (by kernel_rfl) (by kernel_rfl) (fe rfl (gd_t hg))) Ev.const)
    · exact v_or (p := (f.kd : Int) == 0) (q := (f.kd : Int) == 1) rfl rfl (by kernel_rfl) True.intro (Ev.at (i := 3) (by kernel_rfl) (by kernel_rfl) rfl) (fun hp => (Ev.at (i := 6) (by kernel_rfl) (by kernel_rfl) (fe rfl (gd_t (not_t hp)))))
    · exact v_faddr (u := .pointer (some ⟨w.heap.size, 0, none⟩)) (c := .pointer (some ⟨w.heap.size, 1, none⟩)) rfl (fun w => (fld_fr _ w).2.1) rfl (by kernel_rfl) True.intro (Ev.out (by kernel_rfl) rfl)
    · exact v_load (u := .pointer (some ⟨w.heap.size, 1, none⟩)) (c := .int .u8 ((f.fr : Int))) rfl (fun w hB => ld_u8 (HFR.out.dr.keep hB).c1) rfl (by kernel_rfl) True.intro (Ev.at (i := 8) (by kernel_rfl) (by kernel_rfl) rfl)
    · exact v_bin (u := .int .u8 ((f.fr : Int))) (v := .int .u8 (8)) (c := .bool (decide ((f.fr : Int) < 8))) rfl (fun w => (by go_simp)) rfl (by kernel_rfl) True.intro (Ev.at (i := 9) (by kernel_rfl) (by kernel_rfl) rfl) Ev.const
    · exact v_faddr (u := .pointer (some ⟨w.heap.size, 0, none⟩)) (c := .pointer (some ⟨w.heap.size, 2, none⟩)) rfl (fun w => (fld_fr _ w).2.2.1) rfl (by kernel_rfl) True.intro (Ev.out (by kernel_rfl) rfl)
    · exact v_load (u := .pointer (some ⟨w.heap.size, 2, none⟩)) (c := .int .u8 ((f.rt : Int))) rfl (fun w hB => ld_u8 (HFR.out.dr.keep hB).c2) rfl (by kernel_rfl) True.intro (Ev.at (i := 11) (by kernel_rfl) (by kernel_rfl) rfl)
    · exact v_bin (u := .int .u8 ((f.rt : Int))) (v := .int .u8 (8)) (c := .bool (decide ((f.rt : Int) < 8))) rfl (fun w => (by go_simp)) rfl (by kernel_rfl) True.intro (Ev.at (i := 12) (by kernel_rfl) (by kernel_rfl) rfl) Ev.const
    · exact v_faddr (u := .pointer (some ⟨w.heap.size, 0, none⟩)) (c := .pointer (some ⟨w.heap.size, 1, none⟩)) rfl (fun w => (fld_fr _ w).2.1) rfl (by kernel_rfl) True.intro (Ev.out (by kernel_rfl) rfl)
    · exact v_load (u := .pointer (some ⟨w.heap.size, 1, none⟩)) (c := .int .u8 ((f.fr : Int))) rfl (fun w hB => ld_u8 (HFR.out.dr.keep hB).c1) rfl (by kernel_rfl) True.intro (Ev.at (i := 14) (by kernel_rfl) (by kernel_rfl) rfl)
    · exact v_faddr (u := .pointer (some ⟨w.heap.size, 0, none⟩)) (c := .pointer (some ⟨w.heap.size, 2, none⟩)) rfl (fun w => (fld_fr _ w).2.2.1) rfl (by kernel_rfl) True.intro (Ev.out (by kernel_rfl) rfl)
    · exact v_load (u := .pointer (some ⟨w.heap.size, 2, none⟩)) (c := .int .u8 ((f.rt : Int))) rfl (fun w hB => ld_u8 (HFR.out.dr.keep hB).c2) rfl (by kernel_rfl) True.intro (Ev.at (i := 16) (by kernel_rfl) (by kernel_rfl) rfl)
    · exact v_bin (u := .int .u8 ((f.fr : Int))) (v := .int .u8 ((f.rt : Int))) (c := .bool ((f.fr : Int) != (f.rt : Int))) rfl (fun w => (by go_simp)) rfl (by kernel_rfl) True.intro (Ev.at (i := 15) (by kernel_rfl) (by kernel_rfl) rfl) (Ev.at (i := 17) (by kernel_rfl) (by kernel_rfl) rfl)
    · exact v_faddr (u := .pointer (some ⟨w.heap.size, 0, none⟩)) (c := .pointer (some ⟨w.heap.size, 0, none⟩)) rfl (fun w => (fld_fr _ w).1) rfl (by kernel_rfl) True.intro (Ev.out (by kernel_rfl) rfl)
    · exact v_load (u := .pointer (some ⟨w.heap.size, 0, none⟩)) (c := .int .u8 ((f.kd : Int))) rfl (fun w hB => ld_u8 (HFR.out.dr.keep hB).c0) rfl (by kernel_rfl) True.intro (Ev.at (i := 19) (by kernel_rfl) (by kernel_rfl) rfl)
    · exact v_bin (u := .int .u8 ((f.kd : Int))) (v := .int .u8 (0)) (c := .bool ((f.kd : Int) != 0)) rfl (fun w => (by go_simp)) rfl (by kernel_rfl) True.intro (Ev.at (i := 20) (by kernel_rfl) (by kernel_rfl) rfl) Ev.const
    · exact v_move (.inl rfl) rfl (by kernel_rfl) True.intro (Ev.at (i := 21) (by kernel_rfl) (by kernel_rfl) rfl)
    · exact flow_gd (!((f.kd : Int) != 0)) (.pointer (some ⟨w.heap.size, 11, none⟩)) 22 false (.bool ((f.kd : Int) != 0)) rfl (by kernel_rfl) rfl gu_f rfl (fun hg hF hj => v_faddr (u := .pointer (some ⟨w.heap.size, 0, none⟩)) (c := .pointer (some ⟨w.heap.size, 11, none⟩)) rfl (fun w => (fld_fr _ w).2.2.2.2) hF (by kernel_rfl) (guard_of rfl (by kernel_rfl) (by kernel_rfl) hj) (Ev.out (by kernel_rfl) rfl))
    · exact flow_gd (!((f.kd : Int) != 0)) (.slice ad n cap) 22 false (.bool ((f.kd : Int) != 0)) rfl (by kernel_rfl) rfl gu_f rfl (fun hg hF hj => v_load (u := .pointer (some ⟨w.heap.size, 11, none⟩)) (c := .slice ad n cap) rfl (fun w hB => (by have := ld_ops (HFR.out.dr.keep hB).c11; rw [HLV.out] at this; exact this)) hF (by kernel_rfl) (guard_of rfl (by kernel_rfl) (by kernel_rfl) hj) (Ev.at (i := 23) (by kernel_rfl) (by kernel_rfl) (fe rfl (gd_t hg))))
    · exact flow_gd (!((f.kd : Int) != 0)) (.int .i64 ((n : Int))) 22 false (.bool ((f.kd : Int) != 0)) rfl (by kernel_rfl) rfl gu_f rfl (fun hg hF hj => v_len (u := .slice ad n cap) (c := .int .i64 ((n : Int))) rfl (fun w => len_ops _ _ _ _ w) hF (by kernel_rfl) (guard_of rfl (by kernel_rfl) (by kernel_rfl) hj) (Ev.at (i := 24) (by kernel_rfl) (by kernel_rfl) (fe rfl (gd_t hg))))
    · exact flow_gd (!((f.kd : Int) != 0)) (.bool ((n : Int) == 0)) 22 false (.bool ((f.kd : Int) != 0)) rfl (by kernel_rfl) rfl gu_f rfl (fun hg hF hj => v_bin (u := .int .i64 ((n : Int))) (v := .int .i64 (0)) (c := .bool ((n : Int) == 0)) rfl (fun w => (by go_simp)) hF (by kernel_rfl) (guard_of rfl (by kernel_rfl) (by kernel_rfl) hj) (Ev.at (i := 25) (by kernel_rfl) (by kernel_rfl) (fe rfl (gd_t hg))) Ev.const)
    · exact v_or (p := (f.kd : Int) != 0) (q := (n : Int) == 0) rfl rfl (by kernel_rfl) True.intro (Ev.at (i := 22) (by kernel_rfl) (by kernel_rfl) rfl) (fun hp => (Ev.at (i := 26) (by kernel_rfl) (by kernel_rfl) (fe rfl (gd_t (not_t hp)))))
    · exact v_faddr (u := .pointer (some ⟨w.heap.size, 0, none⟩)) (c := .pointer (some ⟨w.heap.size, 11, none⟩)) rfl (fun w => (fld_fr _ w).2.2.2.2) rfl (by kernel_rfl) True.intro (Ev.out (by kernel_rfl) rfl)
    · exact v_load (u := .pointer (some ⟨w.heap.size, 11, none⟩)) (c := .slice ad n cap) rfl (fun w hB => (by have := ld_ops (HFR.out.dr.keep hB).c11; rw [HLV.out] at this; exact this)) rfl (by kernel_rfl) True.intro (Ev.at (i := 28) (by kernel_rfl) (by kernel_rfl) rfl)
    · exact v_len (u := .slice ad n cap) (c := .int .i64 ((n : Int))) rfl (fun w => len_ops _ _ _ _ w) rfl (by kernel_rfl) True.intro (Ev.at (i := 29) (by kernel_rfl) (by kernel_rfl) rfl)
    · exact v_bin (u := .int .i64 ((n : Int))) (v := .int .i64 (64)) (c := .bool (decide ((n : Int) ≤ 64))) rfl (fun w => (by go_simp)) rfl (by kernel_rfl) True.intro (Ev.at (i := 30) (by kernel_rfl) (by kernel_rfl) rfl) Ev.const
    · exact v_faddr (u := .pointer (some ⟨w.heap.size, 0, none⟩)) (c := .pointer (some ⟨w.heap.size, 11, none⟩)) rfl (fun w => (fld_fr _ w).2.2.2.2) rfl (by kernel_rfl) True.intro (Ev.out (by kernel_rfl) rfl)
    · exact v_load (u := .pointer (some ⟨w.heap.size, 11, none⟩)) (c := .slice ad n cap) rfl (fun w hB => (by have := ld_ops (HFR.out.dr.keep hB).c11; rw [HLV.out] at this; exact this)) rfl (by kernel_rfl) True.intro (Ev.at (i := 32) (by kernel_rfl) (by kernel_rfl) rfl)
    · exact v_call (vs := #[.slice ad n cap, .func (.func 32) #[] #[]]) (c := .bool (long l)) rfl (fun args w => rfl) (fun w hB => (by have := sl_ContainsFunc l f.ops w (HV.out.dr.keep hB); rw [HLV.out] at this; exact this)) rfl (by kernel_rfl) True.intro (ev2 (Ev.at (i := 33) (by kernel_rfl) (by kernel_rfl) rfl) Ev.fn)
    · exact v_not rfl rfl (by kernel_rfl) True.intro (Ev.at (i := 34) (by kernel_rfl) (by kernel_rfl) rfl)
    · exact v_bools (l := [((f.kd : Int) == 0) || ((f.kd : Int) == 1), decide ((f.fr : Int) < 8), decide ((f.rt : Int) < 8), (f.fr : Int) != (f.rt : Int), ((f.kd : Int) != 0) || ((n : Int) == 0), decide ((n : Int) ≤ 64), !(long l)]) rfl (by kernel_rfl) rfl (by kernel_rfl) True.intro (Nat.le_of_ble_eq_true rfl) (Nat.le_of_ble_eq_true rfl) ⟨(Ev.at (i := 7) (by kernel_rfl) (by kernel_rfl) rfl), (Ev.at (i := 10) (by kernel_rfl) (by kernel_rfl) rfl), (Ev.at (i := 13) (by kernel_rfl) (by kernel_rfl) rfl), (Ev.at (i := 18) (by kernel_rfl) (by kernel_rfl) rfl), (Ev.at (i := 27) (by kernel_rfl) (by kernel_rfl) rfl), (Ev.at (i := 31) (by kernel_rfl) (by kernel_rfl) rfl), (Ev.at (i := 35) (by kernel_rfl) (by kernel_rfl) rfl), trivial⟩
    · exact v_all (i := 36) (l := [((f.kd : Int) == 0) || ((f.kd : Int) == 1), decide ((f.fr : Int) < 8), decide ((f.rt : Int) < 8), (f.fr : Int) != (f.rt : Int), ((f.kd : Int) != 0) || ((n : Int) == 0), decide ((n : Int) ≤ 64), !(long l)]) rfl rfl (Nat.le_of_ble_eq_true rfl) rfl (by kernel_rfl) True.intro (by kernel_rfl) (by kernel_rfl) rfl
    · exact v_move (.inr rfl) rfl (by kernel_rfl) True.intro (Ev.at (i := 37) (by kernel_rfl) (by kernel_rfl) rfl)
  intro o vs w' hB hf
  have e0 : vs 0 = .pointer (some ⟨w.heap.size, 0, none⟩) := hf 0 (by decide)
  have e1 : vs 1 = .int .u8 ((f.kd : Int)) := hf 1 (by decide)
  have e2 : vs 2 = .bool ((f.kd : Int) == 0) := hf 2 (by decide)
  have e3 : vs 3 = .bool ((f.kd : Int) == 0) := hf 3 (by decide)
  have e4 : vs 4 = gd (!((f.kd : Int) == 0)) (.pointer (some ⟨w.heap.size, 0, none⟩)) := hf 4 (by decide)
  have e5 : vs 5 = gd (!((f.kd : Int) == 0)) (.int .u8 ((f.kd : Int))) := hf 5 (by decide)
  have e6 : vs 6 = gd (!((f.kd : Int) == 0)) (.bool ((f.kd : Int) == 1)) := hf 6 (by decide)
  have e7 : vs 7 = .bool (((f.kd : Int) == 0) || ((f.kd : Int) == 1)) := hf 7 (by decide)
  have e8 : vs 8 = .pointer (some ⟨w.heap.size, 1, none⟩) := hf 8 (by decide)
  have e9 : vs 9 = .int .u8 ((f.fr : Int)) := hf 9 (by decide)
  have e10 : vs 10 = .bool (decide ((f.fr : Int) < 8)) := hf 10 (by decide)
  have e11 : vs 11 = .pointer (some ⟨w.heap.size, 2, none⟩) := hf 11 (by decide)
  have e12 : vs 12 = .int .u8 ((f.rt : Int)) := hf 12 (by decide)
  have e13 : vs 13 = .bool (decide ((f.rt : Int) < 8)) := hf 13 (by decide)
  have e14 : vs 14 = .pointer (some ⟨w.heap.size, 1, none⟩) := hf 14 (by decide)
  have e15 : vs 15 = .int .u8 ((f.fr : Int)) := hf 15 (by decide)
  have e16 : vs 16 = .pointer (some ⟨w.heap.size, 2, none⟩) := hf 16 (by decide)
  have e17 : vs 17 = .int .u8 ((f.rt : Int)) := hf 17 (by decide)
  have e18 : vs 18 = .bool ((f.fr : Int) != (f.rt : Int)) := hf 18 (by decide)
  have e19 : vs 19 = .pointer (some ⟨w.heap.size, 0, none⟩) := hf 19 (by decide)
  have e20 : vs 20 = .int .u8 ((f.kd : Int)) := hf 20 (by decide)
  have e21 : vs 21 = .bool ((f.kd : Int) != 0) := hf 21 (by decide)
  have e22 : vs 22 = .bool ((f.kd : Int) != 0) := hf 22 (by decide)
  have e23 : vs 23 = gd (!((f.kd : Int) != 0)) (.pointer (some ⟨w.heap.size, 11, none⟩)) := hf 23 (by decide)
  have e24 : vs 24 = gd (!((f.kd : Int) != 0)) (.slice ad n cap) := hf 24 (by decide)
  have e25 : vs 25 = gd (!((f.kd : Int) != 0)) (.int .i64 ((n : Int))) := hf 25 (by decide)
  have e26 : vs 26 = gd (!((f.kd : Int) != 0)) (.bool ((n : Int) == 0)) := hf 26 (by decide)
  have e27 : vs 27 = .bool (((f.kd : Int) != 0) || ((n : Int) == 0)) := hf 27 (by decide)
  have e28 : vs 28 = .pointer (some ⟨w.heap.size, 11, none⟩) := hf 28 (by decide)
  have e29 : vs 29 = .slice ad n cap := hf 29 (by decide)
  have e30 : vs 30 = .int .i64 ((n : Int)) := hf 30 (by decide)
  have e31 : vs 31 = .bool (decide ((n : Int) ≤ 64)) := hf 31 (by decide)
  have e32 : vs 32 = .pointer (some ⟨w.heap.size, 11, none⟩) := hf 32 (by decide)
  have e33 : vs 33 = .slice ad n cap := hf 33 (by decide)
  have e34 : vs 34 = .bool (long l) := hf 34 (by decide)
  have e35 : vs 35 = .bool (!(long l)) := hf 35 (by decide)
  have e37 : vs 37 = .bool (([((f.kd : Int) == 0) || ((f.kd : Int) == 1), decide ((f.fr : Int) < 8), decide ((f.rt : Int) < 8), (f.fr : Int) != (f.rt : Int), ((f.kd : Int) != 0) || ((n : Int) == 0), decide ((n : Int) ≤ 64), !(long l)] : List Bool).all id) := hf 37 (by decide)
  have e38 : vs 38 = .bool (([((f.kd : Int) == 0) || ((f.kd : Int) == 1), decide ((f.fr : Int) < 8), decide ((f.rt : Int) < 8), (f.fr : Int) != (f.rt : Int), ((f.kd : Int) != 0) || ((n : Int) == 0), decide ((n : Int) ≤ 64), !(long l)] : List Bool).all id) := hf 38 (by decide)
  simp only [fill, List.setIfInBounds_toArray, List.set_cons_zero, List.set_cons_succ, e0, e1, e2, e3, e4, e5, e6, e7, e8, e9, e10, e11, e12, e13, e14, e15, e16, e17, e18, e19, e20, e21, e22, e23, e24, e25, e26, e27, e28, e29, e30, e31, e32, e33, e34, e35, e37, e38]
  go_wp2
  go_ret
  refine ⟨?_, below_next HE.out hB⟩
  refine congrArg (fun b => Ending.returned (.bool b)) ?_
  rw [Bool.eq_iff_iff, mayF_bool]
  have hn := HN.out
  simp only [List.all_cons, List.all_nil, id, Bool.and_true, Bool.and_eq_true, Bool.or_eq_true, decide_eq_true_eq, beq_iff_eq, bne_iff_ne, Bool.not_eq_true']
  constructor
  · rintro ⟨h1, h2, h3, h4, h5, h6, h7⟩
    exact ⟨by omega, by omega, by omega, by omega, by omega, by omega, h7⟩
  · rintro ⟨h1, h2, h3, h4, h5, h6, h7⟩
    exact ⟨by omega, by omega, by omega, by omega, by omega, by omega, h7⟩
end Go.Proofs.Ytagjgknkkbkjgaa.V
