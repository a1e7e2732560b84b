/-
  The document's disk that has nothing: an append.
-/
import Derived.Test.YtfmigkmkdhciiaaKRc
import Derived.Test.YtfmigkmkdhciiaaKRm
namespace Go.Proofs.Ytfmigkmkdhciiaa.K
set_option linter.unusedVariables false
set_option linter.unusedSimpArgs false
set_option maxRecDepth 100000
open Go Go.RowKit Go.Maps Go.MapKept Go.ChangeMaps

theorem app_nil (V : World) (g : Nat) (k : Int) (n m : Value) (c : Int) (hg : ∀ (j : Nat) (u : Value), [Value.int .i64 k, n, m, .int .u8 c][j]? = some u → V.cell? ⟨g, j, none⟩ = some u) :
    ∃ X sb cp, (Builtin.append_ #[30, 30] 30 #[.slice none 0 0, .slice (some ⟨g, 0, none⟩) 1 1]).run Try.prog V = .ok (.slice (some ⟨sb, 0, none⟩) 1 cp) X ∧ Below V.heap.size V X ∧
      ∀ (j : Nat) (u : Value), [Value.int .i64 k, n, m, .int .u8 c][j]? = some u → X.cell? ⟨sb, j, none⟩ = some u := by
  obtain ⟨i0, hi, hz0, hz1, hz2⟩ := info_parts infoUnit
  have hr := run_append_nil (P := Try.prog) V 30 30 85 i0 _ Try.underlying30 hi hz0 ⟨g, 0, none⟩ 1 1 [Value.int .i64 k, n, m, .int .u8 c] (by rw [hz1]; rfl) (fun j u hu => by rw [add0]; exact hg j u hu) (by omega) (by omega) (by rw [hz2]; omega)
  refine ⟨_, _, _, hr, ((Below.refl _ V).drew).alloc (by simp) _, fun j u hu => ?_⟩
  have hh := cell_new V.drew ([Value.int .i64 k, n, m, .int .u8 c].toArray ++ Builtin.zeroCells (Value.agg #[.int .i64 0, .string ByteArray.empty, .string ByteArray.empty, .int .u8 0]).cells (grownCap V 1 0 85 - 1)) 85 j
  refine (hh.trans ?_)
  have hi := (List.getElem?_eq_some_iff.1 hu).1
  rw [Array.getElem?_append_left (by simpa using hi)]
  simpa using hu

attribute [-go_sem] Go.Builtin.append_
set_option maxHeartbeats 2000000 in
theorem ref_Append (w : World) (n c : Str) (hn : n.length ≤ 1099511627776) (hcl : c.length ≤ 1099511627776) : Calls Try.prog 22 #[.agg #[.int .i64 0, .slice none 0 0, .slice none 0 0, .bool false, .int .i64 0, .bool false], strV n, strV c] w (RefRet w) := by
  have hm := fun w => ref_name w n hn
  have h2 := two_made w
  have hcl2 : (⟨c.toArray⟩ : ByteArray).size = c.length := size_str c
  cases hmay : may n with
  | false =>
    rw [hmay] at hm
    go_enter Try.func22, Try.ntmps22
    go_wp2_with (go_at_call 44; refine (hm _).mono ?_; rintro e W ⟨rfl, rfl⟩)
    refine bodyPost_ret (results_row_tmp rfl _ _ (w.heap.size + 1) _ _ _ _ _ rfl rfl h2.h1 Try.underlying32 rfl (by kernel_rfl)) rfl ?_
    exact ⟨⟨_, _, _, _, _, _, _, _, _, _, _, rfl⟩, h2.below⟩
  | true =>
    rw [hmay] at hm
    go_enter Try.func22, Try.ntmps22
    go_wp2_with (go_at_call 44; refine (hm _).mono ?_; rintro e W ⟨rfl, rfl⟩)
    generalize ((w.alloc (.cells #[.int .i64 0, .slice none 0 0, .slice none 0 0, .bool false, .int .i64 0, .bool false] 32)).alloc (.cells #[.int .i64 0, .slice none 0 0, .slice none 0 0, .bool false, .int .i64 0, .bool false] 32)) = W at h2 ⊢
    have h2d : Two w W.drew := h2.next ((Below.refl _ W).drew)
    refine R.wp_chain [1] (fun q _ V => match q with | 0 => V = W.drew | _ => Two w V)
      (fun i _ => [.agg #[.int .i64 0, .slice none 0 0, .slice none 0 0, .bool false, .int .i64 0, .bool false], .int .i64 0, strV c, .int .i64 (c.length : Int), .int .i64 (c.length : Int), .pointer (some ⟨w.heap.size, 0, none⟩), .int .i64 0, .bool (decide ((0 : Int) < (c.length : Int)))].getD i undef) (fun _ => undef) 55 (by kernel_rfl) (by kernel_rfl) rfl (by kernel_rfl) (by kernel_rfl) ?_ ?_ rfl ?_
    · simp only [R.HVs, R.HV]
      repeat' (first | trivial | refine And.intro ?_ ?_ | exact fun _ _ _ => rfl)
    · refine ⟨?_, ?_, ?_, ?_, ?_, ?_, ?_, ?_, trivial⟩
      · refine R.l_read (by kernel_rfl) rfl rfl (fun q u a V _ hhi hb hv hP => ?_)
        have hh : q ≤ 0 := hhi
        have hT : Two w V := by
          match q, hh, hP with
          | 0, _, hP => obtain rfl : V = W.drew := hP; exact h2d
        have e1 : a.eval (.tmp 3) = .pointer (some ⟨w.heap.size, 0, none⟩) := base_ev hb (by kernel_rfl) rfl
        have ld := run_loadVar_row (P := Try.prog) V w.heap.size 32 32 _ _ _ hT.h0 Try.underlying32 rfl (by kernel_rfl)
        unfold execOp
        simp only [e1]
        simp [Instr.loadAt, Instr.sureAddr, ld]
      · refine R.l_call (p := 0) (by kernel_rfl) rfl (fun u a V hb hv hP => ?_)
        obtain rfl : V = W.drew := hP
        have e1 : a.eval (.tmp 17) = .agg #[.int .i64 0, .slice none 0 0, .slice none 0 0, .bool false, .int .i64 0, .bool false] := (R.eval_at (i := 0) rfl).trans (hv 0 (by kernel_rfl))
        refine ⟨_, _, by unfold execOp; simp only [resolve, invoke, Sem.run_bind, Sem.run_pure, Result.andThen_ok, List.map_toArray, List.map_cons, List.map_nil, e1]; rfl, ?_⟩
        refine (ref_Used _).mono ?_
        rintro e w' ⟨rfl, hb'⟩
        have hT : Two w w' := h2d.next hb'
        exact ⟨_, rfl, hT, rfl⟩
      · exact R.l_move _ (.inl rfl) (by kernel_rfl) rfl rfl (R.ev_base (by kernel_rfl) rfl)
      · refine R.l_read (by kernel_rfl) rfl rfl (fun q u a V _ _ hb hv hP => ?_)
        have e1 : a.eval (.tmp 19) = strV c := (R.eval_at (i := 2) rfl).trans (hv 2 (by kernel_rfl))
        unfold execOp
        simp only [resolve, invoke, builtin, Sem.run_bind, Sem.run_pure, Result.andThen_ok, List.map_toArray, List.map_cons, List.map_nil, e1]
        simp [Builtin.len_, run_underlying Try.underlying9, goInt, strV, hcl2]
      · refine R.l_read (by kernel_rfl) rfl rfl (fun q u a V _ _ hb hv hP => ?_)
        have e1 : a.eval (.tmp 18) = .int .i64 0 := (R.eval_at (i := 1) rfl).trans (hv 1 (by kernel_rfl))
        have e2 : a.eval (.tmp 20) = .int .i64 (c.length : Int) := (R.eval_at (i := 3) rfl).trans (hv 3 (by kernel_rfl))
        unfold execOp
        simp only [e1, e2]
        simp [go_sem]
        exact IntWalk.i64_in _ ⟨by omega, by omega⟩
      · refine R.l_read (by kernel_rfl) rfl rfl (fun q u a V _ _ hb hv hP => ?_)
        have e1 : a.eval (.tmp 3) = .pointer (some ⟨w.heap.size, 0, none⟩) := base_ev hb (by kernel_rfl) rfl
        unfold execOp
        simp only [e1]
        first | rfl | simp [go_sem]
      · refine R.l_load _ _ (fun _ => ⟨w.heap.size, 0, none⟩) rfl (by kernel_rfl) rfl rfl Try.underlying3 rfl (R.ev_at (i := 5) rfl (by kernel_rfl)) (fun q u V _ hhi hP => ?_)
        have hh : q ≤ 1 := hhi
        match q, hh, hP with
        | 0, _, hP => obtain rfl : V = W.drew := hP; exact (h2d.cells 0).1
        | 1, _, hP => have hT : Two w V := hP; exact (hT.cells 0).1
      · refine R.l_read (by kernel_rfl) rfl rfl (fun q u a V _ _ hb hv hP => ?_)
        have e1 : a.eval (.tmp 21) = .int .i64 (c.length : Int) := (R.eval_at (i := 4) rfl).trans (hv 4 (by kernel_rfl))
        have e2 : a.eval (.tmp 23) = .int .i64 0 := (R.eval_at (i := 6) rfl).trans (hv 6 (by kernel_rfl))
        unfold execOp
        simp only [e1, e2]
        simp [go_sem]
    · rintro u W1 hW1
      have hT : Two w W1 := hW1
      clear hW1 h2 h2d
      simp only [R.fill, List.getD_cons_zero, List.getD_cons_succ, List.setIfInBounds_toArray, List.set_cons_zero, List.set_cons_succ]
      simp only [Exit.then]
      have h2 := hT
      have a0 := (h2.cells 0).1; have b0 := (h2.cells 0).2.1; have f0 := (h2.cells 0).2.2.1; have g0 := (h2.cells 0).2.2.2; have a1 := (h2.cells 1).1; have b1 := (h2.cells 1).2.1; have f1 := (h2.cells 1).2.2.1; have g1 := (h2.cells 1).2.2.2; have a2 := (h2.cells 2).1; have b2 := (h2.cells 2).2.1; have f2 := (h2.cells 2).2.2.1; have g2 := (h2.cells 2).2.2.2; have a3 := (h2.cells 3).1; have b3 := (h2.cells 3).2.1; have f3 := (h2.cells 3).2.2.1; have g3 := (h2.cells 3).2.2.2; have a4 := (h2.cells 4).1; have b4 := (h2.cells 4).2.1; have f4 := (h2.cells 4).2.2.1; have g4 := (h2.cells 4).2.2.2; have a5 := (h2.cells 5).1; have b5 := (h2.cells 5).2.1; have f5 := (h2.cells 5).2.2.1; have g5 := (h2.cells 5).2.2.2; simp only [List.getElem?_toArray, List.getElem?_cons_zero, List.getElem?_cons_succ] at a0 b0 a1 b1 a2 b2 a3 b3 a4 b4 a5 b5
      by_cases h0 : 0 < c.length
      · have h1 : decide ((0 : Int) < (c.length : Int)) = true := decide_eq_true (by omega)
        rw [h1]
        go_at_K
        go_wp2
        obtain ⟨e1, e2⟩ := Two.six h2.h1 h2.below (.int .i64 0) (.slice none 0 0) (.slice none 0 0) (.bool false) (.int .i64 0) (.bool false)
        refine bodyPost_ret (results_row_tmp rfl _ _ (w.heap.size + 1) _ _ _ _ _ rfl rfl e1 Try.underlying32 rfl (by kernel_rfl)) rfl ?_
        exact ⟨⟨_, _, _, _, _, _, _, _, _, _, _, rfl⟩, e2⟩
      · obtain rfl : c = [] := List.eq_nil_of_length_eq_zero (by omega)
        have h1 : decide ((0 : Int) < (([] : Str).length : Int)) = false := rfl
        rw [h1]
        go_at_K
        go_wp2_with (first
          | (go_at_call 47; refine (ref_Seen _).mono ?_; rintro e W2 ⟨rfl, hb⟩; have h2 := h2.next hb; have a0 := (h2.cells 0).1; have b0 := (h2.cells 0).2.1; have f0 := (h2.cells 0).2.2.1; have g0 := (h2.cells 0).2.2.2; have a1 := (h2.cells 1).1; have b1 := (h2.cells 1).2.1; have f1 := (h2.cells 1).2.2.1; have g1 := (h2.cells 1).2.2.2; have a2 := (h2.cells 2).1; have b2 := (h2.cells 2).2.1; have f2 := (h2.cells 2).2.2.1; have g2 := (h2.cells 2).2.2.2; have a3 := (h2.cells 3).1; have b3 := (h2.cells 3).2.1; have f3 := (h2.cells 3).2.2.1; have g3 := (h2.cells 3).2.2.2; have a4 := (h2.cells 4).1; have b4 := (h2.cells 4).2.1; have f4 := (h2.cells 4).2.2.1; have g4 := (h2.cells 4).2.2.2; have a5 := (h2.cells 5).1; have b5 := (h2.cells 5).2.1; have f5 := (h2.cells 5).2.2.1; have g5 := (h2.cells 5).2.2.2; clear hb; simp only [List.getElem?_toArray, List.getElem?_cons_zero, List.getElem?_cons_succ] at a0 b0 a1 b1 a2 b2 a3 b3 a4 b4 a5 b5)
          | (go_at_call 46; refine (ref_Find _ _).mono ?_; rintro e W ⟨rfl, rfl⟩; obtain ⟨X, sb, cp, hrun, hbX, hcX⟩ := app_nil (W2.alloc (.cells #[.int .i64 0, strV n, .string ⟨#[]⟩, .int .u8 0] 85)) W2.heap.size 0 (strV n) (.string ⟨#[]⟩) 0 (fun j u hu => (cell_new W2 _ _ j).trans (by simpa using hu))))
        have h3 := h2.next (((Below.refl _ W2).alloc (Nat.le_refl _) _).trans (hbX.mono (by simp)))
        clear hrun hbX
        have h2 := h3
        have a0 := (h2.cells 0).1; have b0 := (h2.cells 0).2.1; have f0 := (h2.cells 0).2.2.1; have g0 := (h2.cells 0).2.2.2; have a1 := (h2.cells 1).1; have b1 := (h2.cells 1).2.1; have f1 := (h2.cells 1).2.2.1; have g1 := (h2.cells 1).2.2.2; have a2 := (h2.cells 2).1; have b2 := (h2.cells 2).2.1; have f2 := (h2.cells 2).2.2.1; have g2 := (h2.cells 2).2.2.2; have a3 := (h2.cells 3).1; have b3 := (h2.cells 3).2.1; have f3 := (h2.cells 3).2.2.1; have g3 := (h2.cells 3).2.2.2; have a4 := (h2.cells 4).1; have b4 := (h2.cells 4).2.1; have f4 := (h2.cells 4).2.2.1; have g4 := (h2.cells 4).2.2.2; have a5 := (h2.cells 5).1; have b5 := (h2.cells 5).2.1; have f5 := (h2.cells 5).2.2.1; have g5 := (h2.cells 5).2.2.2; simp only [List.getElem?_toArray, List.getElem?_cons_zero, List.getElem?_cons_succ] at a0 b0 a1 b1 a2 b2 a3 b3 a4 b4 a5 b5
        go_loopw [8, 9] (fun l i wr => l = .slice (some ⟨sb, 0, none⟩) 1 cp ∧ i = .int .i64 0 ∧ X = wr) (fun _ _ _ => 0)
        case atStart => exact ⟨rfl, rfl, rfl⟩
        case round =>
          obtain ⟨rfl, rfl, rfl⟩ := hrel
          go_wp2_with (go_at_call 48; refine (ref_more _ sb cp 0 (strV n) (.string ⟨#[]⟩) 0 hcX).mono ?_; rintro e W3 ⟨⟨a', b', c', x', y', n1, c1, n2, c2, f', g', rfl⟩, hb⟩; have h2 := h2.next hb; have a0 := (h2.cells 0).1; have b0 := (h2.cells 0).2.1; have f0 := (h2.cells 0).2.2.1; have g0 := (h2.cells 0).2.2.2; have a1 := (h2.cells 1).1; have b1 := (h2.cells 1).2.1; have f1 := (h2.cells 1).2.2.1; have g1 := (h2.cells 1).2.2.2; have a2 := (h2.cells 2).1; have b2 := (h2.cells 2).2.1; have f2 := (h2.cells 2).2.2.1; have g2 := (h2.cells 2).2.2.2; have a3 := (h2.cells 3).1; have b3 := (h2.cells 3).2.1; have f3 := (h2.cells 3).2.2.1; have g3 := (h2.cells 3).2.2.2; have a4 := (h2.cells 4).1; have b4 := (h2.cells 4).2.1; have f4 := (h2.cells 4).2.2.1; have g4 := (h2.cells 4).2.2.2; have a5 := (h2.cells 5).1; have b5 := (h2.cells 5).2.1; have f5 := (h2.cells 5).2.2.1; have g5 := (h2.cells 5).2.2.2; clear hb; simp only [List.getElem?_toArray, List.getElem?_cons_zero, List.getElem?_cons_succ] at a0 b0 a1 b1 a2 b2 a3 b3 a4 b4 a5 b5)
          obtain ⟨e1, e2⟩ := Two.six h2.h1 h2.below (.int .i64 a') (.slice x' n1 c1) (.slice y' n2 c2) (.bool f') (.int .i64 b') (.bool g')
          refine bodyPost_ret (results_row_tmp rfl _ _ (w.heap.size + 1) _ _ _ _ _ rfl rfl e1 Try.underlying32 rfl (by kernel_rfl)) rfl ?_
          exact ⟨⟨_, _, _, _, _, _, _, _, _, _, _, rfl⟩, e2⟩
end Go.Proofs.Ytfmigkmkdhciiaa.K
