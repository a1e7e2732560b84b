/-
  The document's disk that has nothing: a crash, an append.
-/
import Derived.Test.YtfmigkmkdhciiaaKRg
namespace Go.Proofs.Ytfmigkmkdhciiaa.K
set_option linter.unusedVariables false
set_option linter.unusedSimpArgs false
set_option maxRecDepth 100000
open Go Go.RowKit Go.Maps Go.MapKept Go.ChangeMaps

theorem base_ev {ops : Array Oper} {a0 a : Go.Act} (hb : R.BaseA ops a0 a) {t : Nat} {v : Value} (hs : R.writes ops t = false) (h0 : a0.tmps.getD t undef = v) : a.eval (.tmp t) = v := by
  show a.tmps.getD t undef = _
  rw [← h0, Array.getD_eq_getD_getElem?, Array.getD_eq_getD_getElem?, hb.rest t (R.writes_ne hs)]
theorem ref_Crash (w : World) (k : Int) : Calls Try.prog 27 #[.agg #[.int .i64 0, .slice none 0 0, .slice none 0 0, .bool false, .int .i64 0, .bool false], .int .i64 k] w (RefRet w) := by
  have h2 := two_made w
  by_cases hk : k < 0
  · go_enter Try.func27, Try.ntmps27
    go_wp2
    refine bodyPost_ret (results_row_tmp rfl _ _ (w.heap.size + 1) _ _ _ _ _ rfl rfl h2.h1 Try.underlying32 rfl (by kernel_rfl)) rfl ?_
    exact ⟨⟨_, _, _, _, _, _, _, _, _, _, _, rfl⟩, h2.below⟩
  · go_enter Try.func27, Try.ntmps27
    go_wp2
    generalize ((w.alloc (.cells #[.int .i64 0, .slice none 0 0, .slice none 0 0, .bool false, .int .i64 0, .bool false] 32)).alloc (.cells #[.int .i64 0, .slice none 0 0, .slice none 0 0, .bool false, .int .i64 0, .bool false] 32)) = W at h2 ⊢
    have h2d : Two w W.drew := h2.next ((Below.refl _ W).drew)
    refine R.wp_chain [4, 6] (fun q _ V => match q with | 0 => V = W.drew | 1 => Two w V | _ => V.heap[w.heap.size + 1]? = some (.cells #[.int .i64 0, .slice none 0 0, .slice none 0 0, .bool false, .int .i64 0, .bool false] 32 (0, 0)) ∧ Below w.heap.size w V)
      (fun i _ => [.pointer (some ⟨w.heap.size, 0, none⟩), .int .i64 0, .agg #[.int .i64 0, .slice none 0 0, .slice none 0 0, .bool false, .int .i64 0, .bool false], .int .i64 k, .slice none 0 0, .agg #[.int .i64 0, .slice none 0 0, .slice none 0 0, .bool false, .int .i64 0, .bool false], undef, .int .i64 0].getD i undef) (fun _ => undef) 15 (by kernel_rfl) (by kernel_rfl) rfl (by kernel_rfl) (by kernel_rfl) ?_ ?_ rfl ?_
    · simp only [R.HVs, R.HV]
      repeat' (first | trivial | refine And.intro ?_ ?_ | exact fun _ _ _ => rfl)
    · refine ⟨?_, ?_, ?_, ?_, ?_, ?_, ?_, ?_, trivial⟩
      · refine R.l_read (by kernel_rfl) rfl rfl (fun q u a V _ _ hb hv hP => ?_)
        have e1 : a.eval (.tmp 2) = .pointer (some ⟨w.heap.size, 0, none⟩) := base_ev hb (by kernel_rfl) rfl
        unfold execOp
        simp only [e1]
        first | rfl | simp [go_sem]
      · refine R.l_load _ _ (fun _ => ⟨w.heap.size, 0, none⟩) rfl (by kernel_rfl) rfl rfl Try.underlying3 rfl (R.ev_at (i := 0) rfl (by kernel_rfl)) (fun q u V _ hhi hP => ?_)
        have hh : q ≤ 1 := hhi
        match q, hh, hP with
        | 0, _, hP => obtain rfl : V = W.drew := hP; exact (h2d.cells 0).1
        | 1, _, hP => have hT : Two w V := hP; exact (hT.cells 0).1
      · refine R.l_read (by kernel_rfl) rfl rfl (fun q u a V _ hhi hb hv hP => ?_)
        have hh : q ≤ 0 := hhi
        have hT : Two w V := by
          match q, hh, hP with
          | 0, _, hP => obtain rfl : V = W.drew := hP; exact h2d
        have e1 : a.eval (.tmp 2) = .pointer (some ⟨w.heap.size, 0, none⟩) := base_ev hb (by kernel_rfl) rfl
        have ld := run_loadVar_row (P := Try.prog) V w.heap.size 32 32 _ _ _ hT.h0 Try.underlying32 rfl (by kernel_rfl)
        unfold execOp
        simp only [e1]
        simp [Instr.loadAt, Instr.sureAddr, ld]
      · exact R.l_move _ (.inl rfl) (by kernel_rfl) rfl rfl (R.ev_base (by kernel_rfl) rfl)
      · refine R.l_call (p := 0) (by kernel_rfl) rfl (fun u a V hb hv hP => ?_)
        obtain rfl : V = W.drew := hP
        have e1 : a.eval (.tmp 11) = .agg #[.int .i64 0, .slice none 0 0, .slice none 0 0, .bool false, .int .i64 0, .bool false] := (R.eval_at (i := 2) rfl).trans (hv 2 (by kernel_rfl))
        have e2 : a.eval (.tmp 12) = .int .i64 k := (R.eval_at (i := 3) rfl).trans (hv 3 (by kernel_rfl))
        refine ⟨_, _, by unfold execOp; simp only [resolve, invoke, Sem.run_bind, Sem.run_pure, Result.andThen_ok, List.map_toArray, List.map_cons, List.map_nil, e1, e2]; rfl, ?_⟩
        refine (ref_All _ _).mono ?_
        rintro e w' ⟨rfl, hb'⟩
        have hT : Two w w' := h2d.next hb'
        exact ⟨_, rfl, hT, rfl⟩
      · refine R.l_read (by kernel_rfl) rfl rfl (fun q u a V _ _ hb hv hP => ?_)
        have e1 : a.eval (.tmp 10) = .int .i64 0 := (R.eval_at (i := 1) rfl).trans (hv 1 (by kernel_rfl))
        have e2 : a.eval (.tmp 13) = .slice none 0 0 := (R.eval_at (i := 4) rfl).trans (hv 4 (by kernel_rfl))
        unfold execOp
        simp only [e1, e2, List.map_toArray, List.map_cons, List.map_nil]
        simp [go_sem]
      · refine R.l_skip (p := 1) (by kernel_rfl) rfl (fun u a V hb hv hP => ?_)
        have h2 : Two w V := hP
        have e1 : a.eval (.tmp 14) = .agg #[.int .i64 0, .slice none 0 0, .slice none 0 0, .bool false, .int .i64 0, .bool false] := (R.eval_at (i := 5) rfl).trans (hv 5 (by kernel_rfl))
        have e2 : a.eval (.tmp 4) = .pointer (some ⟨w.heap.size + 1, 0, none⟩) := base_ev hb (by kernel_rfl) rfl
        obtain ⟨q1, q2⟩ := Two.six h2.h1 h2.below (.int .i64 0) (.slice none 0 0) (.slice none 0 0) (.bool false) (.int .i64 0) (.bool false)
        have a0 := (h2.cells 0).1; have b0 := (h2.cells 0).2.1; have f0 := (h2.cells 0).2.2.1; have g0 := (h2.cells 0).2.2.2; have a1 := (h2.cells 1).1; have b1 := (h2.cells 1).2.1; have f1 := (h2.cells 1).2.2.1; have g1 := (h2.cells 1).2.2.2; have a2 := (h2.cells 2).1; have b2 := (h2.cells 2).2.1; have f2 := (h2.cells 2).2.2.1; have g2 := (h2.cells 2).2.2.2; have a3 := (h2.cells 3).1; have b3 := (h2.cells 3).2.1; have f3 := (h2.cells 3).2.2.1; have g3 := (h2.cells 3).2.2.2; have a4 := (h2.cells 4).1; have b4 := (h2.cells 4).2.1; have f4 := (h2.cells 4).2.2.1; have g4 := (h2.cells 4).2.2.2; have a5 := (h2.cells 5).1; have b5 := (h2.cells 5).2.1; have f5 := (h2.cells 5).2.2.1; have g5 := (h2.cells 5).2.2.2; simp only [List.getElem?_toArray, List.getElem?_cons_zero, List.getElem?_cons_succ] at a0 b0 a1 b1 a2 b2 a3 b3 a4 b4 a5 b5
        refine ⟨_, ?_, ⟨q1, q2⟩, rfl⟩
        unfold execOp
        simp only [e1, e2]
        simp [go_sem, f0, f1, f2, f3, f4, f5, g0, g1, g2, g3, g4, g5, a0, a1, a2, a3, a4, a5, b0, b1, b2, b3, b4, b5]
      · exact R.l_move _ (.inr rfl) (by kernel_rfl) rfl rfl (R.ev_const _)
    · rintro u W4 hW4
      have hW : W4.heap[w.heap.size + 1]? = some (.cells #[.int .i64 0, .slice none 0 0, .slice none 0 0, .bool false, .int .i64 0, .bool false] 32 (0, 0)) ∧ Below w.heap.size w W4 := hW4
      clear hW4
      simp only [R.fill, List.getD_cons_zero, List.getD_cons_succ, List.setIfInBounds_toArray, List.set_cons_zero, List.set_cons_succ]
      simp only [Exit.then]
      go_at_K
      go_wp2
      refine bodyPost_ret (results_row_tmp rfl _ _ (w.heap.size + 1) _ _ _ _ _ rfl rfl hW.1 Try.underlying32 rfl (by kernel_rfl)) rfl ?_
      exact ⟨⟨_, _, _, _, _, _, _, _, _, _, _, rfl⟩, hW.2⟩
end Go.Proofs.Ytfmigkmkdhciiaa.K
