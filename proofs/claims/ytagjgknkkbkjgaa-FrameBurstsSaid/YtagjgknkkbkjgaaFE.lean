/-
  The document's May of frames.
-/
import Derived.Test.YtagjgknkkbkjgaaFD
namespace Go.Proofs.Ytagjgknkkbkjgaa.V
set_option linter.unusedVariables false
set_option linter.unusedSimpArgs false
set_option maxRecDepth 100000
open Go Go.RowKit Go.Maps Wire

theorem IsOps.at' {w : World} {ad : Addr} {len cap : Nat} {xs : List OC} (h : IsOps w (some ad) len cap xs) (i : Nat) (hi : i < len) :
    ∃ (o : OpM) (l : List Claim) (a2 : Option Addr) (n2 c2 B O : Nat) (sp : Option Nat), xs[i]? = some (o, l) ∧ okO o ∧ ClaimsV w o.lv l ∧ OpIn w ⟨B, O, sp⟩ o ∧ ad.add (i * 29) = ⟨B, O, sp⟩ ∧ w.cell? ⟨B, O + 28, none⟩ = some (.slice a2 n2 c2) ∧ l.length = n2 := by
  obtain ⟨o, l, hx, hok, hc, hin⟩ := h.at i hi
  obtain ⟨A, hA⟩ : ∃ A, A = ad.add (i * 29) := ⟨_, rfl⟩
  rw [← hA] at hin
  obtain ⟨B, O, sp⟩ := A
  obtain ⟨a2, n2, c2, hlv, hI⟩ := hc
  exact ⟨o, l, a2, n2, c2, B, O, sp, hx, hok, ⟨a2, n2, c2, hlv, hI⟩, hin, hA.symm, by rw [← hlv]; exact hin.lines, hI.1⟩

set_option maxHeartbeats 1000000 in
theorem ref_MayF (f : FrM) (l : List OC) (w : World) (hv : OpsV w f.ops l) :
    Calls Try.prog 11 #[.agg (fc f)] w
      fun e w' => e = .returned (.bool (mayF f l)) ∧ Below w.heap.size w w' := by
  have HE := hid (below_al w (.cells (fc f) 27))
  have HFR := hid (frAt_new w f)
  obtain ⟨ad, n, cap, hlv, hI⟩ := hv
  have HN := hid hI.1
  have HI := hid hI
  have HLV := hid hlv
  have hm : n ≤ 9223372036854775807 := by have h1 := hI.2.1; have h2 := hI.2.2.1; unfold maxLen at h2; omega
  clear hI hlv
  go_enter Try.func11, Try.ntmps11
  go_upto_region 1 with (fail)
  generalize w.alloc (.cells (fc f) 27) = W at HE HFR ⊢
  refine wp_text (fun _ => none) (Fa.eq (.pointer (some ⟨w.heap.size, 0, none⟩)) :: Fa.eq (.int .u8 ((f.kd : Int))) :: Fa.eq (.bool (decide (1 < (f.kd : Int)))) :: Fa.eq (.bool (decide (1 < (f.kd : Int)))) :: Fa.eq (gd (!(decide (1 < (f.kd : Int)))) (.pointer (some ⟨w.heap.size, 1, none⟩))) :: Fa.eq (gd (!(decide (1 < (f.kd : Int)))) (.int .u8 ((f.fr : Int)))) :: Fa.eq (gd (!(decide (1 < (f.kd : Int)))) (.bool (decide (7 < (f.fr : Int))))) :: Fa.eq (.bool ((decide (1 < (f.kd : Int))) || (decide (7 < (f.fr : Int))))) :: Fa.eq (.bool ((decide (1 < (f.kd : Int))) || (decide (7 < (f.fr : Int))))) :: Fa.eq (gd (!((decide (1 < (f.kd : Int))) || (decide (7 < (f.fr : Int))))) (.pointer (some ⟨w.heap.size, 2, none⟩))) :: Fa.eq (gd (!((decide (1 < (f.kd : Int))) || (decide (7 < (f.fr : Int))))) (.int .u8 ((f.rt : Int)))) :: Fa.eq (gd (!((decide (1 < (f.kd : Int))) || (decide (7 < (f.fr : Int))))) (.bool (decide (7 < (f.rt : Int))))) :: Fa.eq (.bool (((decide (1 < (f.kd : Int))) || (decide (7 < (f.fr : Int)))) || (decide (7 < (f.rt : Int))))) :: Fa.eq (.bool (((decide (1 < (f.kd : Int))) || (decide (7 < (f.fr : Int)))) || (decide (7 < (f.rt : Int))))) :: Fa.eq (gd (!(((decide (1 < (f.kd : Int))) || (decide (7 < (f.fr : Int)))) || (decide (7 < (f.rt : Int))))) (.pointer (some ⟨w.heap.size, 1, none⟩))) :: Fa.eq (gd (!(((decide (1 < (f.kd : Int))) || (decide (7 < (f.fr : Int)))) || (decide (7 < (f.rt : Int))))) (.int .u8 ((f.fr : Int)))) :: Fa.eq (gd (!(((decide (1 < (f.kd : Int))) || (decide (7 < (f.fr : Int)))) || (decide (7 < (f.rt : Int))))) (.pointer (some ⟨w.heap.size, 2, none⟩))) :: Fa.eq (gd (!(((decide (1 < (f.kd : Int))) || (decide (7 < (f.fr : Int)))) || (decide (7 < (f.rt : Int))))) (.int .u8 ((f.rt : Int)))) :: Fa.eq (gd (!(((decide (1 < (f.kd : Int))) || (decide (7 < (f.fr : Int)))) || (decide (7 < (f.rt : Int))))) (.bool ((f.fr : Int) == (f.rt : Int)))) :: Fa.eq (.bool ((((decide (1 < (f.kd : Int))) || (decide (7 < (f.fr : Int)))) || (decide (7 < (f.rt : Int)))) || ((f.fr : Int) == (f.rt : Int)))) :: Fa.eq (.bool ((((decide (1 < (f.kd : Int))) || (decide (7 < (f.fr : Int)))) || (decide (7 < (f.rt : Int)))) || ((f.fr : Int) == (f.rt : Int)))) :: Fa.eq (gd (!((((decide (1 < (f.kd : Int))) || (decide (7 < (f.fr : Int)))) || (decide (7 < (f.rt : Int)))) || ((f.fr : Int) == (f.rt : Int)))) (.pointer (some ⟨w.heap.size, 0, none⟩))) :: Fa.eq (gd (!((((decide (1 < (f.kd : Int))) || (decide (7 < (f.fr : Int)))) || (decide (7 < (f.rt : Int)))) || ((f.fr : Int) == (f.rt : Int)))) (.int .u8 ((f.kd : Int)))) :: Fa.eq (gd (!((((decide (1 < (f.kd : Int))) || (decide (7 < (f.fr : Int)))) || (decide (7 < (f.rt : Int)))) || ((f.fr : Int) == (f.rt : Int)))) (.bool ((f.kd : Int) == 0))) :: Fa.eq (gd (!((((decide (1 < (f.kd : Int))) || (decide (7 < (f.fr : Int)))) || (decide (7 < (f.rt : Int)))) || ((f.fr : Int) == (f.rt : Int)))) (.bool ((f.kd : Int) == 0))) :: Fa.eq (gd ((!((((decide (1 < (f.kd : Int))) || (decide (7 < (f.fr : Int)))) || (decide (7 < (f.rt : Int)))) || ((f.fr : Int) == (f.rt : Int)))) && ((f.kd : Int) == 0)) (.pointer (some ⟨w.heap.size, 11, none⟩))) :: Fa.eq (gd ((!((((decide (1 < (f.kd : Int))) || (decide (7 < (f.fr : Int)))) || (decide (7 < (f.rt : Int)))) || ((f.fr : Int) == (f.rt : Int)))) && ((f.kd : Int) == 0)) (.slice ad n cap)) :: Fa.eq (gd ((!((((decide (1 < (f.kd : Int))) || (decide (7 < (f.fr : Int)))) || (decide (7 < (f.rt : Int)))) || ((f.fr : Int) == (f.rt : Int)))) && ((f.kd : Int) == 0)) (.int .i64 ((n : Int)))) :: Fa.eq (gd ((!((((decide (1 < (f.kd : Int))) || (decide (7 < (f.fr : Int)))) || (decide (7 < (f.rt : Int)))) || ((f.fr : Int) == (f.rt : Int)))) && ((f.kd : Int) == 0)) (.bool (decide (0 < (n : Int))))) :: Fa.eq (gd (!((((decide (1 < (f.kd : Int))) || (decide (7 < (f.fr : Int)))) || (decide (7 < (f.rt : Int)))) || ((f.fr : Int) == (f.rt : Int)))) (.bool (((f.kd : Int) == 0) && (decide (0 < (n : Int)))))) :: Fa.eq (.bool (((((decide (1 < (f.kd : Int))) || (decide (7 < (f.fr : Int)))) || (decide (7 < (f.rt : Int)))) || ((f.fr : Int) == (f.rt : Int))) || (((f.kd : Int) == 0) && (decide (0 < (n : Int)))))) :: Fa.eq (.bool (((((decide (1 < (f.kd : Int))) || (decide (7 < (f.fr : Int)))) || (decide (7 < (f.rt : Int)))) || ((f.fr : Int) == (f.rt : Int))) || (((f.kd : Int) == 0) && (decide (0 < (n : Int)))))) :: Fa.eq (gd (!(((((decide (1 < (f.kd : Int))) || (decide (7 < (f.fr : Int)))) || (decide (7 < (f.rt : Int)))) || ((f.fr : Int) == (f.rt : Int))) || (((f.kd : Int) == 0) && (decide (0 < (n : Int)))))) (.pointer (some ⟨w.heap.size, 11, none⟩))) :: Fa.eq (gd (!(((((decide (1 < (f.kd : Int))) || (decide (7 < (f.fr : Int)))) || (decide (7 < (f.rt : Int)))) || ((f.fr : Int) == (f.rt : Int))) || (((f.kd : Int) == 0) && (decide (0 < (n : Int)))))) (.slice ad n cap)) :: Fa.eq (gd (!(((((decide (1 < (f.kd : Int))) || (decide (7 < (f.fr : Int)))) || (decide (7 < (f.rt : Int)))) || ((f.fr : Int) == (f.rt : Int))) || (((f.kd : Int) == 0) && (decide (0 < (n : Int)))))) (.int .i64 ((n : Int)))) :: Fa.eq (gd (!(((((decide (1 < (f.kd : Int))) || (decide (7 < (f.fr : Int)))) || (decide (7 < (f.rt : Int)))) || ((f.fr : Int) == (f.rt : Int))) || (((f.kd : Int) == 0) && (decide (0 < (n : Int)))))) (.bool (decide (64 < (n : Int))))) :: Fa.eq (.bool ((((((decide (1 < (f.kd : Int))) || (decide (7 < (f.fr : Int)))) || (decide (7 < (f.rt : Int)))) || ((f.fr : Int) == (f.rt : Int))) || (((f.kd : Int) == 0) && (decide (0 < (n : Int))))) || (decide (64 < (n : Int))))) :: []) 56 rfl (by kernel_rfl) rfl (by kernel_rfl) ?_ ?_ ?_
  · exact fits_plain _ _ rfl
  · refine ⟨?_, ?_, ?_, ?_, ?_, ?_, ?_, ?_, ?_, ?_, ?_, ?_, ?_, ?_, ?_, ?_, ?_, ?_, ?_, ?_, ?_, ?_, ?_, ?_, ?_, ?_, ?_, ?_, ?_, ?_, ?_, ?_, ?_, ?_, ?_, ?_, ?_, trivial⟩
    · exact v_faddr (u := .pointer (some ⟨w.heap.size, 0, none⟩)) (c := .pointer (some ⟨w.heap.size, 0, none⟩)) rfl (fun w => (fld_fr _ w).1) rfl (by kernel_rfl) True.intro (Ev.out (by kernel_rfl) rfl)
    · exact v_load (u := .pointer (some ⟨w.heap.size, 0, none⟩)) (c := .int .u8 ((f.kd : Int))) rfl (fun w hB => ld_u8 (HFR.out.keep hB).c0) rfl (by kernel_rfl) True.intro (Ev.at (i := 0) (by kernel_rfl) (by kernel_rfl) rfl)
    · exact v_bin (u := .int .u8 ((f.kd : Int))) (v := .int .u8 (1)) (c := .bool (decide (1 < (f.kd : Int)))) rfl (fun w => (by go_simp)) rfl (by kernel_rfl) True.intro (Ev.at (i := 1) (by kernel_rfl) (by kernel_rfl) rfl) Ev.const
    · exact v_move (.inl rfl) rfl (by kernel_rfl) True.intro (Ev.at (i := 2) (by kernel_rfl) (by kernel_rfl) rfl)
    · exact flow_gd (!(decide (1 < (f.kd : Int)))) (.pointer (some ⟨w.heap.size, 1, none⟩)) 3 false (.bool (decide (1 < (f.kd : Int)))) rfl (by kernel_rfl) rfl gu_f rfl (fun hg hF hj => v_faddr (u := .pointer (some ⟨w.heap.size, 0, none⟩)) (c := .pointer (some ⟨w.heap.size, 1, none⟩)) rfl (fun w => (fld_fr _ w).2.1) hF (by kernel_rfl) (guard_of rfl (by kernel_rfl) (by kernel_rfl) hj) (Ev.out (by kernel_rfl) rfl))
    · exact flow_gd (!(decide (1 < (f.kd : Int)))) (.int .u8 ((f.fr : Int))) 3 false (.bool (decide (1 < (f.kd : Int)))) rfl (by kernel_rfl) rfl gu_f rfl (fun hg hF hj => v_load (u := .pointer (some ⟨w.heap.size, 1, none⟩)) (c := .int .u8 ((f.fr : Int))) rfl (fun w hB => ld_u8 (HFR.out.keep hB).c1) hF (by kernel_rfl) (guard_of rfl (by kernel_rfl) (by kernel_rfl) hj) (Ev.at (i := 4) (by kernel_rfl) (by kernel_rfl) (fe rfl (gd_t hg))))
    · exact flow_gd (!(decide (1 < (f.kd : Int)))) (.bool (decide (7 < (f.fr : Int)))) 3 false (.bool (decide (1 < (f.kd : Int)))) rfl (by kernel_rfl) rfl gu_f rfl (fun hg hF hj => v_bin (u := .int .u8 ((f.fr : Int))) (v := .int .u8 (7)) (c := .bool (decide (7 < (f.fr : Int)))) rfl (fun w => (by go_simp)) hF (by kernel_rfl) (guard_of rfl (by kernel_rfl) (by kernel_rfl) hj) (Ev.at (i := 5) (by kernel_rfl) (by kernel_rfl) (fe rfl (gd_t hg))) Ev.const)
    · exact v_or (p := decide (1 < (f.kd : Int))) (q := decide (7 < (f.fr : Int))) rfl rfl (by kernel_rfl) True.intro (Ev.at (i := 3) (by kernel_rfl) (by kernel_rfl) rfl) (fun hp => (Ev.at (i := 6) (by kernel_rfl) (by kernel_rfl) (fe rfl (gd_t (not_t hp)))))
    · exact v_move (.inl rfl) rfl (by kernel_rfl) True.intro (Ev.at (i := 7) (by kernel_rfl) (by kernel_rfl) rfl)
    · exact flow_gd (!((decide (1 < (f.kd : Int))) || (decide (7 < (f.fr : Int))))) (.pointer (some ⟨w.heap.size, 2, none⟩)) 8 false (.bool ((decide (1 < (f.kd : Int))) || (decide (7 < (f.fr : Int))))) rfl (by kernel_rfl) rfl gu_f rfl (fun hg hF hj => v_faddr (u := .pointer (some ⟨w.heap.size, 0, none⟩)) (c := .pointer (some ⟨w.heap.size, 2, none⟩)) rfl (fun w => (fld_fr _ w).2.2.1) hF (by kernel_rfl) (guard_of rfl (by kernel_rfl) (by kernel_rfl) hj) (Ev.out (by kernel_rfl) rfl))
    · exact flow_gd (!((decide (1 < (f.kd : Int))) || (decide (7 < (f.fr : Int))))) (.int .u8 ((f.rt : Int))) 8 false (.bool ((decide (1 < (f.kd : Int))) || (decide (7 < (f.fr : Int))))) rfl (by kernel_rfl) rfl gu_f rfl (fun hg hF hj => v_load (u := .pointer (some ⟨w.heap.size, 2, none⟩)) (c := .int .u8 ((f.rt : Int))) rfl (fun w hB => ld_u8 (HFR.out.keep hB).c2) hF (by kernel_rfl) (guard_of rfl (by kernel_rfl) (by kernel_rfl) hj) (Ev.at (i := 9) (by kernel_rfl) (by kernel_rfl) (fe rfl (gd_t hg))))
    · exact flow_gd (!((decide (1 < (f.kd : Int))) || (decide (7 < (f.fr : Int))))) (.bool (decide (7 < (f.rt : Int)))) 8 false (.bool ((decide (1 < (f.kd : Int))) || (decide (7 < (f.fr : Int))))) rfl (by kernel_rfl) rfl gu_f rfl (fun hg hF hj => v_bin (u := .int .u8 ((f.rt : Int))) (v := .int .u8 (7)) (c := .bool (decide (7 < (f.rt : Int)))) rfl (fun w => (by go_simp)) hF (by kernel_rfl) (guard_of rfl (by kernel_rfl) (by kernel_rfl) hj) (Ev.at (i := 10) (by kernel_rfl) (by kernel_rfl) (fe rfl (gd_t hg))) Ev.const)
    · exact v_or (p := (decide (1 < (f.kd : Int))) || (decide (7 < (f.fr : Int)))) (q := decide (7 < (f.rt : Int))) rfl rfl (by kernel_rfl) True.intro (Ev.at (i := 8) (by kernel_rfl) (by kernel_rfl) rfl) (fun hp => (Ev.at (i := 11) (by kernel_rfl) (by kernel_rfl) (fe rfl (gd_t (not_t hp)))))
    · exact v_move (.inl rfl) rfl (by kernel_rfl) True.intro (Ev.at (i := 12) (by kernel_rfl) (by kernel_rfl) rfl)
    · exact flow_gd (!(((decide (1 < (f.kd : Int))) || (decide (7 < (f.fr : Int)))) || (decide (7 < (f.rt : Int))))) (.pointer (some ⟨w.heap.size, 1, none⟩)) 13 false (.bool (((decide (1 < (f.kd : Int))) || (decide (7 < (f.fr : Int)))) || (decide (7 < (f.rt : Int))))) rfl (by kernel_rfl) rfl gu_f rfl (fun hg hF hj => v_faddr (u := .pointer (some ⟨w.heap.size, 0, none⟩)) (c := .pointer (some ⟨w.heap.size, 1, none⟩)) rfl (fun w => (fld_fr _ w).2.1) hF (by kernel_rfl) (guard_of rfl (by kernel_rfl) (by kernel_rfl) hj) (Ev.out (by kernel_rfl) rfl))
    · exact flow_gd (!(((decide (1 < (f.kd : Int))) || (decide (7 < (f.fr : Int)))) || (decide (7 < (f.rt : Int))))) (.int .u8 ((f.fr : Int))) 13 false (.bool (((decide (1 < (f.kd : Int))) || (decide (7 < (f.fr : Int)))) || (decide (7 < (f.rt : Int))))) rfl (by kernel_rfl) rfl gu_f rfl (fun hg hF hj => v_load (u := .pointer (some ⟨w.heap.size, 1, none⟩)) (c := .int .u8 ((f.fr : Int))) rfl (fun w hB => ld_u8 (HFR.out.keep hB).c1) hF (by kernel_rfl) (guard_of rfl (by kernel_rfl) (by kernel_rfl) hj) (Ev.at (i := 14) (by kernel_rfl) (by kernel_rfl) (fe rfl (gd_t hg))))
    · exact flow_gd (!(((decide (1 < (f.kd : Int))) || (decide (7 < (f.fr : Int)))) || (decide (7 < (f.rt : Int))))) (.pointer (some ⟨w.heap.size, 2, none⟩)) 13 false (.bool (((decide (1 < (f.kd : Int))) || (decide (7 < (f.fr : Int)))) || (decide (7 < (f.rt : Int))))) rfl (by kernel_rfl) rfl gu_f rfl (fun hg hF hj => v_faddr (u := .pointer (some ⟨w.heap.size, 0, none⟩)) (c := .pointer (some ⟨w.heap.size, 2, none⟩)) rfl (fun w => (fld_fr _ w).2.2.1) hF (by kernel_rfl) (guard_of rfl (by kernel_rfl) (by kernel_rfl) hj) (Ev.out (by kernel_rfl) rfl))
    · exact flow_gd (!(((decide (1 < (f.kd : Int))) || (decide (7 < (f.fr : Int)))) || (decide (7 < (f.rt : Int))))) (.int .u8 ((f.rt : Int))) 13 false (.bool (((decide (1 < (f.kd : Int))) || (decide (7 < (f.fr : Int)))) || (decide (7 < (f.rt : Int))))) rfl (by kernel_rfl) rfl gu_f rfl (fun hg hF hj => v_load (u := .pointer (some ⟨w.heap.size, 2, none⟩)) (c := .int .u8 ((f.rt : Int))) rfl (fun w hB => ld_u8 (HFR.out.keep hB).c2) hF (by kernel_rfl) (guard_of rfl (by kernel_rfl) (by kernel_rfl) hj) (Ev.at (i := 16) (by kernel_rfl) (by kernel_rfl) (fe rfl (gd_t hg))))
    · exact flow_gd (!(((decide (1 < (f.kd : Int))) || (decide (7 < (f.fr : Int)))) || (decide (7 < (f.rt : Int))))) (.bool ((f.fr : Int) == (f.rt : Int))) 13 false (.bool (((decide (1 < (f.kd : Int))) || (decide (7 < (f.fr : Int)))) || (decide (7 < (f.rt : Int))))) rfl (by kernel_rfl) rfl gu_f rfl (fun hg hF hj => v_bin (u := .int .u8 ((f.fr : Int))) (v := .int .u8 ((f.rt : Int))) (c := .bool ((f.fr : Int) == (f.rt : Int))) rfl (fun w => (by go_simp)) hF (by kernel_rfl) (guard_of rfl (by kernel_rfl) (by kernel_rfl) hj) (Ev.at (i := 15) (by kernel_rfl) (by kernel_rfl) (fe rfl (gd_t hg))) (Ev.at (i := 17) (by kernel_rfl) (by kernel_rfl) (fe rfl (gd_t hg))))
    · exact v_or (p := ((decide (1 < (f.kd : Int))) || (decide (7 < (f.fr : Int)))) || (decide (7 < (f.rt : Int)))) (q := (f.fr : Int) == (f.rt : Int)) rfl rfl (by kernel_rfl) True.intro (Ev.at (i := 13) (by kernel_rfl) (by kernel_rfl) rfl) (fun hp => (Ev.at (i := 18) (by kernel_rfl) (by kernel_rfl) (fe rfl (gd_t (not_t hp)))))
    · exact v_move (.inl rfl) rfl (by kernel_rfl) True.intro (Ev.at (i := 19) (by kernel_rfl) (by kernel_rfl) rfl)
    · exact flow_gd (!((((decide (1 < (f.kd : Int))) || (decide (7 < (f.fr : Int)))) || (decide (7 < (f.rt : Int)))) || ((f.fr : Int) == (f.rt : Int)))) (.pointer (some ⟨w.heap.size, 0, none⟩)) 20 false (.bool ((((decide (1 < (f.kd : Int))) || (decide (7 < (f.fr : Int)))) || (decide (7 < (f.rt : Int)))) || ((f.fr : Int) == (f.rt : Int)))) rfl (by kernel_rfl) rfl gu_f rfl (fun hg hF hj => v_faddr (u := .pointer (some ⟨w.heap.size, 0, none⟩)) (c := .pointer (some ⟨w.heap.size, 0, none⟩)) rfl (fun w => (fld_fr _ w).1) hF (by kernel_rfl) (guard_of rfl (by kernel_rfl) (by kernel_rfl) hj) (Ev.out (by kernel_rfl) rfl))
    · exact flow_gd (!((((decide (1 < (f.kd : Int))) || (decide (7 < (f.fr : Int)))) || (decide (7 < (f.rt : Int)))) || ((f.fr : Int) == (f.rt : Int)))) (.int .u8 ((f.kd : Int))) 20 false (.bool ((((decide (1 < (f.kd : Int))) || (decide (7 < (f.fr : Int)))) || (decide (7 < (f.rt : Int)))) || ((f.fr : Int) == (f.rt : Int)))) rfl (by kernel_rfl) rfl gu_f rfl (fun hg hF hj => v_load (u := .pointer (some ⟨w.heap.size, 0, none⟩)) (c := .int .u8 ((f.kd : Int))) rfl (fun w hB => ld_u8 (HFR.out.keep hB).c0) hF (by kernel_rfl) (guard_of rfl (by kernel_rfl) (by kernel_rfl) hj) (Ev.at (i := 21) (by kernel_rfl) (by kernel_rfl) (fe rfl (gd_t hg))))
    · exact flow_gd (!((((decide (1 < (f.kd : Int))) || (decide (7 < (f.fr : Int)))) || (decide (7 < (f.rt : Int)))) || ((f.fr : Int) == (f.rt : Int)))) (.bool ((f.kd : Int) == 0)) 20 false (.bool ((((decide (1 < (f.kd : Int))) || (decide (7 < (f.fr : Int)))) || (decide (7 < (f.rt : Int)))) || ((f.fr : Int) == (f.rt : Int)))) rfl (by kernel_rfl) rfl gu_f rfl (fun hg hF hj => v_bin (u := .int .u8 ((f.kd : Int))) (v := .int .u8 (0)) (c := .bool ((f.kd : Int) == 0)) rfl (fun w => (by go_simp)) hF (by kernel_rfl) (guard_of rfl (by kernel_rfl) (by kernel_rfl) hj) (Ev.at (i := 22) (by kernel_rfl) (by kernel_rfl) (fe rfl (gd_t hg))) Ev.const)
    · exact flow_gd (!((((decide (1 < (f.kd : Int))) || (decide (7 < (f.fr : Int)))) || (decide (7 < (f.rt : Int)))) || ((f.fr : Int) == (f.rt : Int)))) (.bool ((f.kd : Int) == 0)) 20 false (.bool ((((decide (1 < (f.kd : Int))) || (decide (7 < (f.fr : Int)))) || (decide (7 < (f.rt : Int)))) || ((f.fr : Int) == (f.rt : Int)))) rfl (by kernel_rfl) rfl gu_f rfl (fun hg hF hj => v_move (.inl rfl) hF (by kernel_rfl) (guard_of rfl (by kernel_rfl) (by kernel_rfl) hj) (Ev.at (i := 23) (by kernel_rfl) (by kernel_rfl) (fe rfl (gd_t hg))))
    · exact flow_gd ((!((((decide (1 < (f.kd : Int))) || (decide (7 < (f.fr : Int)))) || (decide (7 < (f.rt : Int)))) || ((f.fr : Int) == (f.rt : Int)))) && ((f.kd : Int) == 0)) (.pointer (some ⟨w.heap.size, 11, none⟩)) 24 true (gd (!((((decide (1 < (f.kd : Int))) || (decide (7 < (f.fr : Int)))) || (decide (7 < (f.rt : Int)))) || ((f.fr : Int) == (f.rt : Int)))) (.bool ((f.kd : Int) == 0))) rfl (by kernel_rfl) rfl gu_gt rfl (fun hg hF hj => v_faddr (u := .pointer (some ⟨w.heap.size, 0, none⟩)) (c := .pointer (some ⟨w.heap.size, 11, none⟩)) rfl (fun w => (fld_fr _ w).2.2.2.2) hF (by kernel_rfl) (guard_of rfl (by kernel_rfl) (by kernel_rfl) hj) (Ev.out (by kernel_rfl) rfl))
    · exact flow_gd ((!((((decide (1 < (f.kd : Int))) || (decide (7 < (f.fr : Int)))) || (decide (7 < (f.rt : Int)))) || ((f.fr : Int) == (f.rt : Int)))) && ((f.kd : Int) == 0)) (.slice ad n cap) 24 true (gd (!((((decide (1 < (f.kd : Int))) || (decide (7 < (f.fr : Int)))) || (decide (7 < (f.rt : Int)))) || ((f.fr : Int) == (f.rt : Int)))) (.bool ((f.kd : Int) == 0))) rfl (by kernel_rfl) rfl gu_gt rfl (fun hg hF hj => v_load (u := .pointer (some ⟨w.heap.size, 11, none⟩)) (c := .slice ad n cap) rfl (fun w hB => (by have := ld_ops (HFR.out.keep hB).c11; rw [HLV.out] at this; exact this)) hF (by kernel_rfl) (guard_of rfl (by kernel_rfl) (by kernel_rfl) hj) (Ev.at (i := 25) (by kernel_rfl) (by kernel_rfl) (fe rfl (gd_t hg))))
    · exact flow_gd ((!((((decide (1 < (f.kd : Int))) || (decide (7 < (f.fr : Int)))) || (decide (7 < (f.rt : Int)))) || ((f.fr : Int) == (f.rt : Int)))) && ((f.kd : Int) == 0)) (.int .i64 ((n : Int))) 24 true (gd (!((((decide (1 < (f.kd : Int))) || (decide (7 < (f.fr : Int)))) || (decide (7 < (f.rt : Int)))) || ((f.fr : Int) == (f.rt : Int)))) (.bool ((f.kd : Int) == 0))) rfl (by kernel_rfl) rfl gu_gt rfl (fun hg hF hj => v_len (u := .slice ad n cap) (c := .int .i64 ((n : Int))) rfl (fun w => len_ops _ _ _ _ w) hF (by kernel_rfl) (guard_of rfl (by kernel_rfl) (by kernel_rfl) hj) (Ev.at (i := 26) (by kernel_rfl) (by kernel_rfl) (fe rfl (gd_t hg))))
    · exact flow_gd ((!((((decide (1 < (f.kd : Int))) || (decide (7 < (f.fr : Int)))) || (decide (7 < (f.rt : Int)))) || ((f.fr : Int) == (f.rt : Int)))) && ((f.kd : Int) == 0)) (.bool (decide (0 < (n : Int)))) 24 true (gd (!((((decide (1 < (f.kd : Int))) || (decide (7 < (f.fr : Int)))) || (decide (7 < (f.rt : Int)))) || ((f.fr : Int) == (f.rt : Int)))) (.bool ((f.kd : Int) == 0))) rfl (by kernel_rfl) rfl gu_gt rfl (fun hg hF hj => v_bin (u := .int .i64 ((n : Int))) (v := .int .i64 (0)) (c := .bool (decide (0 < (n : Int)))) rfl (fun w => (by go_simp)) hF (by kernel_rfl) (guard_of rfl (by kernel_rfl) (by kernel_rfl) hj) (Ev.at (i := 27) (by kernel_rfl) (by kernel_rfl) (fe rfl (gd_t hg))) Ev.const)
    · exact flow_gd (!((((decide (1 < (f.kd : Int))) || (decide (7 < (f.fr : Int)))) || (decide (7 < (f.rt : Int)))) || ((f.fr : Int) == (f.rt : Int)))) (.bool (((f.kd : Int) == 0) && (decide (0 < (n : Int))))) 20 false (.bool ((((decide (1 < (f.kd : Int))) || (decide (7 < (f.fr : Int)))) || (decide (7 < (f.rt : Int)))) || ((f.fr : Int) == (f.rt : Int)))) rfl (by kernel_rfl) rfl gu_f rfl (fun hg hF hj => v_and (p := (f.kd : Int) == 0) (q := decide (0 < (n : Int))) rfl hF (by kernel_rfl) (guard_of rfl (by kernel_rfl) (by kernel_rfl) hj) (Ev.at (i := 24) (by kernel_rfl) (by kernel_rfl) (fe rfl (gd_t hg))) (fun hp => (Ev.at (i := 28) (by kernel_rfl) (by kernel_rfl) (fe rfl (gd_t (and_tt hg hp))))))
    · exact v_or (p := (((decide (1 < (f.kd : Int))) || (decide (7 < (f.fr : Int)))) || (decide (7 < (f.rt : Int)))) || ((f.fr : Int) == (f.rt : Int))) (q := ((f.kd : Int) == 0) && (decide (0 < (n : Int)))) rfl rfl (by kernel_rfl) True.intro (Ev.at (i := 20) (by kernel_rfl) (by kernel_rfl) rfl) (fun hp => (Ev.at (i := 29) (by kernel_rfl) (by kernel_rfl) (fe rfl (gd_t (not_t hp)))))
    · exact v_move (.inl rfl) rfl (by kernel_rfl) True.intro (Ev.at (i := 30) (by kernel_rfl) (by kernel_rfl) rfl)
    · exact flow_gd (!(((((decide (1 < (f.kd : Int))) || (decide (7 < (f.fr : Int)))) || (decide (7 < (f.rt : Int)))) || ((f.fr : Int) == (f.rt : Int))) || (((f.kd : Int) == 0) && (decide (0 < (n : Int)))))) (.pointer (some ⟨w.heap.size, 11, none⟩)) 31 false (.bool (((((decide (1 < (f.kd : Int))) || (decide (7 < (f.fr : Int)))) || (decide (7 < (f.rt : Int)))) || ((f.fr : Int) == (f.rt : Int))) || (((f.kd : Int) == 0) && (decide (0 < (n : Int)))))) rfl (by kernel_rfl) rfl gu_f rfl (fun hg hF hj => v_faddr (u := .pointer (some ⟨w.heap.size, 0, none⟩)) (c := .pointer (some ⟨w.heap.size, 11, none⟩)) rfl (fun w => (fld_fr _ w).2.2.2.2) hF (by kernel_rfl) (guard_of rfl (by kernel_rfl) (by kernel_rfl) hj) (Ev.out (by kernel_rfl) rfl))
    · exact flow_gd (!(((((decide (1 < (f.kd : Int))) || (decide (7 < (f.fr : Int)))) || (decide (7 < (f.rt : Int)))) || ((f.fr : Int) == (f.rt : Int))) || (((f.kd : Int) == 0) && (decide (0 < (n : Int)))))) (.slice ad n cap) 31 false (.bool (((((decide (1 < (f.kd : Int))) || (decide (7 < (f.fr : Int)))) || (decide (7 < (f.rt : Int)))) || ((f.fr : Int) == (f.rt : Int))) || (((f.kd : Int) == 0) && (decide (0 < (n : Int)))))) rfl (by kernel_rfl) rfl gu_f rfl (fun hg hF hj => v_load (u := .pointer (some ⟨w.heap.size, 11, none⟩)) (c := .slice ad n cap) rfl (fun w hB => (by have := ld_ops (HFR.out.keep hB).c11; rw [HLV.out] at this; exact this)) hF (by kernel_rfl) (guard_of rfl (by kernel_rfl) (by kernel_rfl) hj) (Ev.at (i := 32) (by kernel_rfl) (by kernel_rfl) (fe rfl (gd_t hg))))
    · exact flow_gd (!(((((decide (1 < (f.kd : Int))) || (decide (7 < (f.fr : Int)))) || (decide (7 < (f.rt : Int)))) || ((f.fr : Int) == (f.rt : Int))) || (((f.kd : Int) == 0) && (decide (0 < (n : Int)))))) (.int .i64 ((n : Int))) 31 false (.bool (((((decide (1 < (f.kd : Int))) || (decide (7 < (f.fr : Int)))) || (decide (7 < (f.rt : Int)))) || ((f.fr : Int) == (f.rt : Int))) || (((f.kd : Int) == 0) && (decide (0 < (n : Int)))))) rfl (by kernel_rfl) rfl gu_f rfl (fun hg hF hj => v_len (u := .slice ad n cap) (c := .int .i64 ((n : Int))) rfl (fun w => len_ops _ _ _ _ w) hF (by kernel_rfl) (guard_of rfl (by kernel_rfl) (by kernel_rfl) hj) (Ev.at (i := 33) (by kernel_rfl) (by kernel_rfl) (fe rfl (gd_t hg))))
    · exact flow_gd (!(((((decide (1 < (f.kd : Int))) || (decide (7 < (f.fr : Int)))) || (decide (7 < (f.rt : Int)))) || ((f.fr : Int) == (f.rt : Int))) || (((f.kd : Int) == 0) && (decide (0 < (n : Int)))))) (.bool (decide (64 < (n : Int)))) 31 false (.bool (((((decide (1 < (f.kd : Int))) || (decide (7 < (f.fr : Int)))) || (decide (7 < (f.rt : Int)))) || ((f.fr : Int) == (f.rt : Int))) || (((f.kd : Int) == 0) && (decide (0 < (n : Int)))))) rfl (by kernel_rfl) rfl gu_f rfl (fun hg hF hj => v_bin (u := .int .i64 ((n : Int))) (v := .int .i64 (64)) (c := .bool (decide (64 < (n : Int)))) rfl (fun w => (by go_simp)) hF (by kernel_rfl) (guard_of rfl (by kernel_rfl) (by kernel_rfl) hj) (Ev.at (i := 34) (by kernel_rfl) (by kernel_rfl) (fe rfl (gd_t hg))) Ev.const)
    · exact v_or (p := ((((decide (1 < (f.kd : Int))) || (decide (7 < (f.fr : Int)))) || (decide (7 < (f.rt : Int)))) || ((f.fr : Int) == (f.rt : Int))) || (((f.kd : Int) == 0) && (decide (0 < (n : Int))))) (q := decide (64 < (n : Int))) rfl rfl (by kernel_rfl) True.intro (Ev.at (i := 31) (by kernel_rfl) (by kernel_rfl) rfl) (fun hp => (Ev.at (i := 35) (by kernel_rfl) (by kernel_rfl) (fe rfl (gd_t (not_t hp)))))
  intro o vs w1 hB hf
  have e0 : vs 0 = .pointer (some ⟨w.heap.size, 0, none⟩) := hf 0 (by decide)
  have e1 : vs 1 = .int .u8 ((f.kd : Int)) := hf 1 (by decide)
  have e2 : vs 2 = .bool (decide (1 < (f.kd : Int))) := hf 2 (by decide)
  have e3 : vs 3 = .bool (decide (1 < (f.kd : Int))) := hf 3 (by decide)
  have e4 : vs 4 = gd (!(decide (1 < (f.kd : Int)))) (.pointer (some ⟨w.heap.size, 1, none⟩)) := hf 4 (by decide)
  have e5 : vs 5 = gd (!(decide (1 < (f.kd : Int)))) (.int .u8 ((f.fr : Int))) := hf 5 (by decide)
  have e6 : vs 6 = gd (!(decide (1 < (f.kd : Int)))) (.bool (decide (7 < (f.fr : Int)))) := hf 6 (by decide)
  have e7 : vs 7 = .bool ((decide (1 < (f.kd : Int))) || (decide (7 < (f.fr : Int)))) := hf 7 (by decide)
  have e8 : vs 8 = .bool ((decide (1 < (f.kd : Int))) || (decide (7 < (f.fr : Int)))) := hf 8 (by decide)
  have e9 : vs 9 = gd (!((decide (1 < (f.kd : Int))) || (decide (7 < (f.fr : Int))))) (.pointer (some ⟨w.heap.size, 2, none⟩)) := hf 9 (by decide)
  have e10 : vs 10 = gd (!((decide (1 < (f.kd : Int))) || (decide (7 < (f.fr : Int))))) (.int .u8 ((f.rt : Int))) := hf 10 (by decide)
  have e11 : vs 11 = gd (!((decide (1 < (f.kd : Int))) || (decide (7 < (f.fr : Int))))) (.bool (decide (7 < (f.rt : Int)))) := hf 11 (by decide)
  have e12 : vs 12 = .bool (((decide (1 < (f.kd : Int))) || (decide (7 < (f.fr : Int)))) || (decide (7 < (f.rt : Int)))) := hf 12 (by decide)
  have e13 : vs 13 = .bool (((decide (1 < (f.kd : Int))) || (decide (7 < (f.fr : Int)))) || (decide (7 < (f.rt : Int)))) := hf 13 (by decide)
  have e14 : vs 14 = gd (!(((decide (1 < (f.kd : Int))) || (decide (7 < (f.fr : Int)))) || (decide (7 < (f.rt : Int))))) (.pointer (some ⟨w.heap.size, 1, none⟩)) := hf 14 (by decide)
  have e15 : vs 15 = gd (!(((decide (1 < (f.kd : Int))) || (decide (7 < (f.fr : Int)))) || (decide (7 < (f.rt : Int))))) (.int .u8 ((f.fr : Int))) := hf 15 (by decide)
  have e16 : vs 16 = gd (!(((decide (1 < (f.kd : Int))) || (decide (7 < (f.fr : Int)))) || (decide (7 < (f.rt : Int))))) (.pointer (some ⟨w.heap.size, 2, none⟩)) := hf 16 (by decide)
  have e17 : vs 17 = gd (!(((decide (1 < (f.kd : Int))) || (decide (7 < (f.fr : Int)))) || (decide (7 < (f.rt : Int))))) (.int .u8 ((f.rt : Int))) := hf 17 (by decide)
  have e18 : vs 18 = gd (!(((decide (1 < (f.kd : Int))) || (decide (7 < (f.fr : Int)))) || (decide (7 < (f.rt : Int))))) (.bool ((f.fr : Int) == (f.rt : Int))) := hf 18 (by decide)
  have e19 : vs 19 = .bool ((((decide (1 < (f.kd : Int))) || (decide (7 < (f.fr : Int)))) || (decide (7 < (f.rt : Int)))) || ((f.fr : Int) == (f.rt : Int))) := hf 19 (by decide)
  have e20 : vs 20 = .bool ((((decide (1 < (f.kd : Int))) || (decide (7 < (f.fr : Int)))) || (decide (7 < (f.rt : Int)))) || ((f.fr : Int) == (f.rt : Int))) := hf 20 (by decide)
  have e21 : vs 21 = gd (!((((decide (1 < (f.kd : Int))) || (decide (7 < (f.fr : Int)))) || (decide (7 < (f.rt : Int)))) || ((f.fr : Int) == (f.rt : Int)))) (.pointer (some ⟨w.heap.size, 0, none⟩)) := hf 21 (by decide)
  have e22 : vs 22 = gd (!((((decide (1 < (f.kd : Int))) || (decide (7 < (f.fr : Int)))) || (decide (7 < (f.rt : Int)))) || ((f.fr : Int) == (f.rt : Int)))) (.int .u8 ((f.kd : Int))) := hf 22 (by decide)
  have e23 : vs 23 = gd (!((((decide (1 < (f.kd : Int))) || (decide (7 < (f.fr : Int)))) || (decide (7 < (f.rt : Int)))) || ((f.fr : Int) == (f.rt : Int)))) (.bool ((f.kd : Int) == 0)) := hf 23 (by decide)
  have e24 : vs 24 = gd (!((((decide (1 < (f.kd : Int))) || (decide (7 < (f.fr : Int)))) || (decide (7 < (f.rt : Int)))) || ((f.fr : Int) == (f.rt : Int)))) (.bool ((f.kd : Int) == 0)) := hf 24 (by decide)
  have e25 : vs 25 = gd ((!((((decide (1 < (f.kd : Int))) || (decide (7 < (f.fr : Int)))) || (decide (7 < (f.rt : Int)))) || ((f.fr : Int) == (f.rt : Int)))) && ((f.kd : Int) == 0)) (.pointer (some ⟨w.heap.size, 11, none⟩)) := hf 25 (by decide)
  have e26 : vs 26 = gd ((!((((decide (1 < (f.kd : Int))) || (decide (7 < (f.fr : Int)))) || (decide (7 < (f.rt : Int)))) || ((f.fr : Int) == (f.rt : Int)))) && ((f.kd : Int) == 0)) (.slice ad n cap) := hf 26 (by decide)
  have e27 : vs 27 = gd ((!((((decide (1 < (f.kd : Int))) || (decide (7 < (f.fr : Int)))) || (decide (7 < (f.rt : Int)))) || ((f.fr : Int) == (f.rt : Int)))) && ((f.kd : Int) == 0)) (.int .i64 ((n : Int))) := hf 27 (by decide)
  have e28 : vs 28 = gd ((!((((decide (1 < (f.kd : Int))) || (decide (7 < (f.fr : Int)))) || (decide (7 < (f.rt : Int)))) || ((f.fr : Int) == (f.rt : Int)))) && ((f.kd : Int) == 0)) (.bool (decide (0 < (n : Int)))) := hf 28 (by decide)
  have e29 : vs 29 = gd (!((((decide (1 < (f.kd : Int))) || (decide (7 < (f.fr : Int)))) || (decide (7 < (f.rt : Int)))) || ((f.fr : Int) == (f.rt : Int)))) (.bool (((f.kd : Int) == 0) && (decide (0 < (n : Int))))) := hf 29 (by decide)
  have e30 : vs 30 = .bool (((((decide (1 < (f.kd : Int))) || (decide (7 < (f.fr : Int)))) || (decide (7 < (f.rt : Int)))) || ((f.fr : Int) == (f.rt : Int))) || (((f.kd : Int) == 0) && (decide (0 < (n : Int))))) := hf 30 (by decide)
  have e31 : vs 31 = .bool (((((decide (1 < (f.kd : Int))) || (decide (7 < (f.fr : Int)))) || (decide (7 < (f.rt : Int)))) || ((f.fr : Int) == (f.rt : Int))) || (((f.kd : Int) == 0) && (decide (0 < (n : Int))))) := hf 31 (by decide)
  have e32 : vs 32 = gd (!(((((decide (1 < (f.kd : Int))) || (decide (7 < (f.fr : Int)))) || (decide (7 < (f.rt : Int)))) || ((f.fr : Int) == (f.rt : Int))) || (((f.kd : Int) == 0) && (decide (0 < (n : Int)))))) (.pointer (some ⟨w.heap.size, 11, none⟩)) := hf 32 (by decide)
  have e33 : vs 33 = gd (!(((((decide (1 < (f.kd : Int))) || (decide (7 < (f.fr : Int)))) || (decide (7 < (f.rt : Int)))) || ((f.fr : Int) == (f.rt : Int))) || (((f.kd : Int) == 0) && (decide (0 < (n : Int)))))) (.slice ad n cap) := hf 33 (by decide)
  have e34 : vs 34 = gd (!(((((decide (1 < (f.kd : Int))) || (decide (7 < (f.fr : Int)))) || (decide (7 < (f.rt : Int)))) || ((f.fr : Int) == (f.rt : Int))) || (((f.kd : Int) == 0) && (decide (0 < (n : Int)))))) (.int .i64 ((n : Int))) := hf 34 (by decide)
  have e35 : vs 35 = gd (!(((((decide (1 < (f.kd : Int))) || (decide (7 < (f.fr : Int)))) || (decide (7 < (f.rt : Int)))) || ((f.fr : Int) == (f.rt : Int))) || (((f.kd : Int) == 0) && (decide (0 < (n : Int)))))) (.bool (decide (64 < (n : Int)))) := hf 35 (by decide)
  have e36 : vs 36 = .bool ((((((decide (1 < (f.kd : Int))) || (decide (7 < (f.fr : Int)))) || (decide (7 < (f.rt : Int)))) || ((f.fr : Int) == (f.rt : Int))) || (((f.kd : Int) == 0) && (decide (0 < (n : Int))))) || (decide (64 < (n : Int)))) := hf 36 (by decide)
  simp only [fill, List.setIfInBounds_toArray, List.set_cons_zero, List.set_cons_succ, e0, e1, e2, e3, e4, e5, e6, e7, e8, e9, e10, e11, e12, e13, e14, e15, e16, e17, e18, e19, e20, e21, e22, e23, e24, e25, e26, e27, e28, e29, e30, e31, e32, e33, e34, e35, e36]
  clear e0 e1 e2 e3 e4 e5 e6 e7 e8 e9 e10 e11 e12 e13 e14 e15 e16 e17 e18 e19 e20 e21 e22 e23 e24 e25 e26 e27 e28 e29 e30 e31 e32 e33 e34 e35 e36 hf
  obtain ⟨q, hq⟩ : ∃ q, ((((((decide (1 < (f.kd : Int))) || (decide (7 < (f.fr : Int)))) || (decide (7 < (f.rt : Int)))) || ((f.fr : Int) == (f.rt : Int))) || (((f.kd : Int) == 0) && (decide (0 < (n : Int))))) || (decide (64 < (n : Int)))) = q := ⟨_, rfl⟩
  rw [hq]
  have HQ := hid hq
  have HB := hid (below_next HE.out hB)
  have HF1 := hid (HFR.out.keep hB)
  clear hq hB HE HFR
  cases q with
  | true =>
    go_wp2
    go_ret
    refine ⟨congrArg (fun b => Ending.returned (.bool b)) ?_, HB.out⟩
    have hq := HQ.out
    have hn := HN.out
    simp only [Bool.and_eq_true, Bool.or_eq_true, decide_eq_true_eq, beq_iff_eq] at hq
    symm
    rw [← Bool.not_eq_true, mayF_bool]
    rintro ⟨h1, h2, h3, h4, h5, h6, h7⟩
    omega
  | false =>
    go_upto_region 4 with (fail)
    go_loopw [3] (fun i wr => ∃ k : Nat, k ≤ n ∧ i = .int .i64 k ∧ Below w1.heap.size w1 wr ∧ ∀ j x, j < k → l[j]? = some x → x.2.length ≤ 16) (fun i _ => n - (intOf i).toNat)
    case atStart => exact ⟨0, by omega, rfl, Below.refl _ _, fun j b h => by omega⟩
    case round =>
      obtain ⟨k, hk, rfl, hBr, hall⟩ := hrel
      have HA := hid hall
      have c11 := (HF1.out.keep hBr).c11.trans (congrArg some HLV.out)
      have HR := hid hBr
      clear hall hBr
      by_cases hlt : k < n
      · cases ad with
        | none => have := HI.out.none_len; omega
        | some ad =>
          obtain ⟨o2, lc, a2, n2, c2, B, O, sp, hx, hok, hc, hin, hA, c28, hl2⟩ := (HI.out.keep (below_next HB.out HR.out)).at' k hlt
          have HX := hid (And.intro hx hl2)
          clear hx hok hc hin hl2
          by_cases h16 : 16 < n2
          · have h16' : decide ((16 : Int) < (n2 : Int)) = true := decide_eq_true (by omega)
            have H16 := hid h16
            clear h16
            go_wp2
            go_ret
            refine ⟨congrArg (fun b => Ending.returned (.bool b)) ?_, below_next HB.out HR.out⟩
            symm
            rw [← Bool.not_eq_true, mayF_bool]
            rintro ⟨_, _, _, _, _, _, h7⟩
            rw [long_take HX.out.1 (by have := HX.out.2; have := H16.out; show 16 < lc.length; omega)] at h7
            cases h7
          · have h16' : decide ((16 : Int) < (n2 : Int)) = false := decide_eq_false (by omega)
            have H16 := hid h16
            clear h16
            go_wp2
            go_roundw
            case rel =>
              refine ⟨k + 1, by omega, by go_num, HR.out, fun j x hj hxj => ?_⟩
              by_cases e : j = k
              · subst e
                rw [HX.out.1] at hxj
                cases hxj
                have := HX.out.2
                have := H16.out
                show lc.length ≤ 16
                omega
              · exact HA.out j x (by omega) hxj
            case measure => simp [intOf]; omega
      · obtain rfl : k = n := by omega
        go_wp2
        go_ret
        refine ⟨congrArg (fun b => Ending.returned (.bool b)) ?_, below_next HB.out HR.out⟩
        have hq := HQ.out
        have hn := HN.out
        symm
        rw [mayF_bool]
        simp only [Bool.and_eq_false_iff, Bool.or_eq_false_iff, decide_eq_false_iff_not, beq_eq_false_iff_ne] at hq
        exact ⟨by omega, by omega, by omega, by omega, by omega, by omega, long_not hn HA.out⟩
end Go.Proofs.Ytagjgknkkbkjgaa.V
