/-
  The law BufferNone.
-/
import Derived.Test.YtfnmekmgjcjglaaDoorYNH
namespace Go.Proofs.YtfnmekmgjcjglaaDoor.V
set_option linter.unusedVariables false
set_option linter.unusedSimpArgs false
set_option maxRecDepth 100000
open Go Go.RowKit Go.Maps Wire
theorem idx_pp (p : Addr) (len cap i : Nat) (h : i < len) (w : World) : (Instr.indexAt 61 (.slice (some p) len cap) (.int .i64 (i : Int))).run Tryd.prog w = .ok (.pointer (some (p.add i))) w := by
  have h1 : (i : Int) < (len : Int) := by omega
  go_simp
theorem neq_vv (v : Vec) (x y : Operand) (w : World) : (do eqGuard .neq 30 x y (.agg (vc v)) (.agg (vc v)); binOp .neq 30 (.agg (vc v)) (.agg (vc v)) : Sem Value).run Tryd.prog w = .ok (.bool false) w := by
  have h : (Op.equalIn 10000 30 (.agg (vc v)) (.agg (vc v))).run Tryd.prog w = .ok true w := (eq_vec v v w).trans (by rw [eqV_refl])
  go_simp
section
variable {ops : Array Oper} {rest : List Oper} {c : Oper} {a : Act} {w : World} {Q : Exit → Act → World → Prop}
theorem wp_iaddrW (hw : Region.wanted c (yielded ops a.tmps) = true) (x y : Operand) (t : Nat) (ho : c.op = .indexAddr t x y) {u z v : Value} (hx : a.eval x = u) (hy : a.eval y = z) (hr : (Instr.indexAt t u z).run Tryd.prog w = .ok v w) (h : wpList Tryd.prog ops Q rest (a.put c.dst v) w) : wpList Tryd.prog ops Q (c :: rest) a w :=
  BigFrame.wpList_want hw fun K hK => by
    unfold Oper.wp
    rw [x_iaddr ho hx hy hr]
    exact hK _ _ h
theorem wp_loadW (hw : Region.wanted c (yielded ops a.tmps) = true) (x : Operand) (t : Nat) (ho : c.op = .load t x) {u v : Value} (hx : a.eval x = u) (hr : (Instr.loadAt t u).run Tryd.prog w = .ok v w) (h : wpList Tryd.prog ops Q rest (a.put c.dst v) w) : wpList Tryd.prog ops Q (c :: rest) a w :=
  BigFrame.wpList_want hw fun K hK => by
    unfold Oper.wp
    rw [x_load ho hx hr]
    exact hK _ _ h
end
theorem ld_ptr {w : World} {p : Addr} {v : Value} (h : w.cell? p = some v) : (Instr.loadAt 24 (.pointer (some p))).run Tryd.prog w = .ok v w := by
  go_simp
set_option maxHeartbeats 1600000 in
theorem law_BufferNone (o : OpM) (W0 : World) (hT : Tab W0) :
    Calls Tryd.prog 6 #[.agg (oc o)] W0 fun e w' => e = .returned (.bool true) ∧ Below W0.heap.size W0 w' := by
  have HT := hid hT
  clear hT
  go_enter Tryd.func6, Tryd.ntmps6
  go_upto_region 3 with (first
    | (refine build_is rfl 60 #[] rfl (cs := #[.int .i64 0, .int .u32 0, .int .u32 0, .int .u32 0, .int .u32 0, .int .u32 0, .int .u32 0, .int .u32 0, .int .u32 0, .map none]) (by kernel_rfl) ?_))
  obtain ⟨g2, hg2⟩ : ∃ g2, g2 = W0.heap.size + 1 + 1 := ⟨_, rfl⟩
  rw [← hg2]
  have hsz : ((W0.alloc (.cells (oc o) 50)).alloc (.cells #[.int .i64 0, .int .u32 0, .int .u32 0, .int .u32 0, .int .u32 0, .int .u32 0, .int .u32 0, .int .u32 0, .int .u32 0, .map none] 60)).heap.size = g2 := by rw [hg2]; simp
  refine gen_code (fun W => OpIn W ⟨W0.heap.size, 0, none⟩ o ∧ (∀ i, i < 2 → ∃ v, NoneP W v ∧ W.cell? ((⟨g2, 0, none⟩ : Addr).add i) = some v) ∧ Below W0.heap.size W0 W) ⟨?_, ?_, below_al3 W0 _ _ _⟩ ?_
  · exact OpAt.in (heap_al (heap_al (heap_alloc_last' W0 (.cells (oc o) 50)) _) _)
  · have hc := heap_alloc_last' ((W0.alloc (.cells (oc o) 50)).alloc (.cells #[.int .i64 0, .int .u32 0, .int .u32 0, .int .u32 0, .int .u32 0, .int .u32 0, .int .u32 0, .int .u32 0, .int .u32 0, .map none] 60)) (.cells #[.pointer none, .pointer (some ⟨W0.heap.size + 1, 0, none⟩)] 24)
    rw [hsz] at hc
    have hb := heap_al (heap_alloc_last' (W0.alloc (.cells (oc o) 50)) (.cells #[.int .i64 0, .int .u32 0, .int .u32 0, .int .u32 0, .int .u32 0, .int .u32 0, .int .u32 0, .int .u32 0, .int .u32 0, .map none] 60)) (.cells #[.pointer none, .pointer (some ⟨W0.heap.size + 1, 0, none⟩)] 24)
    rw [World.size_alloc] at hb
    intro i hi
    match i, hi with
    | 0, _ => exact ⟨_, .inl rfl, (cell_of_heap hc).trans rfl⟩
    | 1, _ => exact ⟨_, .inr ⟨_, rfl, (cell_of_heap hb).trans rfl⟩, (cell_of_heap hc).trans rfl⟩
  clear hsz hg2
  rintro W3 ⟨k1, k2, k3⟩
  generalize (⟨g2, 0, none⟩ : Addr) = ad at k2 ⊢
  have HO3 := hid k1
  have HP3 := hid k2
  have HB3 := hid k3
  clear k1 k2 k3
  go_wp2
  go_loopw [5] (fun iv wr => ∃ i : Nat, i ≤ 2 ∧ iv = .int .i64 (i : Nat) ∧ Hid (Below W3.heap.size W3 wr)) (fun iv _ => 2 - (intOf iv).toNat)
  case atStart => exact ⟨0, by omega, rfl, hid (Below.refl _ _)⟩
  case round =>
    obtain ⟨ii, hi, rfl, HBr⟩ := hrel
    by_cases hlt : ii < 2
    · obtain ⟨v, hn, hc⟩ := HP3.out ii hlt
      have HN := hid (hn.keep HBr.out)
      have HC := hid (cell_keep HBr.out hc)
      have HO := hid (OpIn.keep HO3.out HBr.out)
      clear hn hc
      have h1 : (ii : Int) < 2 := by omega
      go_upto_region 6 with (fail)
      obtain ⟨W6, hW6⟩ : ∃ W, W = wr := ⟨_, rfl⟩
      rw [← hW6] at HN HC HO HBr
      rw [← hW6]
      clear hW6
      refine R.wp_chain [5, 6] (fun q u V => (match q with | 0 => V = W6.drew | 1 => V = W6.drew.alloc (.cells (oc o) 50) | _ => Below W6.heap.size W6 V)) (fun i u => [.slice (some ad) 2 2, .int .i64 ((ii : Nat) : Int), .pointer (some (ad.add ii)), v, .agg (oc o), .slice (some ⟨W6.heap.size, 0, none⟩) 1 1, .tuple #[.slice none 0 0, .int .i64 1], .tuple #[.slice none 0 0, .int .i64 1], .slice none 0 0, .int .i64 1, .slice none 0 0, .int .i64 1].getD i undef) (fun _ => undef) 62 (by kernel_rfl) (by kernel_rfl) rfl (by kernel_rfl) (by kernel_rfl) ?_ ?_ rfl ?_
      · simp only [R.HVs, R.HV]
        repeat' (first | trivial | refine And.intro ?_ ?_ | exact fun _ _ _ => rfl | (refine fun h => absurd (h.symm.trans (b := _) (c := false) ?_) (by decide); kernel_rfl))
      · refine ⟨?_, ?_, ?_, ?_, ?_, ?_, ?_, ?_, ?_, ?_, ?_, ?_, trivial⟩
        · exact R.l_move _ (.inl rfl) (by kernel_rfl) rfl rfl (R.ev_base (by kernel_rfl) rfl)
        · exact R.l_move _ (.inl rfl) (by kernel_rfl) rfl rfl (R.ev_base (by kernel_rfl) rfl)
        · exact R.l_read (by kernel_rfl) rfl rfl (fun q u a V hlo hhi hb hv hP => x_iaddr rfl ((R.eval_at (i := 0) rfl).trans (hv 0 (by kernel_rfl))) ((R.eval_at (i := 1) rfl).trans (hv 1 (by kernel_rfl))) (idx_pp ad 2 2 ii hlt _))
        · exact R.l_read (by kernel_rfl) rfl rfl (fun q u a V hlo hhi hb hv hP => x_load rfl ((R.eval_at (i := 2) rfl).trans (hv 2 (by kernel_rfl))) (by have hh : q ≤ 1 := hhi; exact match q, hh, hP with | 0, _, hP => (by obtain rfl : V = W6.drew := hP; exact ld_ptr (cell_keep (below_dr W6) HC.out)) | 1, _, hP => (by obtain rfl : V = W6.drew.alloc (.cells (oc o) 50) := hP; exact ld_ptr (cell_keep ((below_dr W6).trans (below_al W6.drew _)) HC.out))))
        · exact R.l_read (by kernel_rfl) rfl rfl (fun q u a V hlo hhi hb hv hP => (by have hh : q ≤ 0 := hhi; match q, hh, hP with | 0, _, hP => obtain rfl : V = W6.drew := hP; exact x_load rfl (base_ev hb (by kernel_rfl) rfl) (ldp_op (OpIn.keep HO.out (below_dr W6)))))
        · exact R.l_turn (p := 0) (by kernel_rfl) rfl _ (fun u a V hb hv hP => (by obtain rfl : V = W6.drew := hP; exact ⟨_, x_laid rfl ((R.eval_at (i := 4) rfl).trans (hv 4 (by kernel_rfl))), rfl, rfl⟩))
        · exact R.l_call (p := 1) (by kernel_rfl) rfl (fun u a V hb hv hP => (by obtain rfl : V = W6.drew.alloc (.cells (oc o) 50) := hP; have hbl := (below_dr W6).trans (below_al W6.drew (.cells (oc o) 50)); refine ⟨_, _, call_run rfl (fun args w => rfl) a _, ?_⟩; simp only [List.map_toArray, List.map_cons, List.map_nil, ((R.eval_at (i := 3) rfl).trans (hv 3 (by kernel_rfl))), ((R.eval_at (i := 5) rfl).trans (hv 5 (by kernel_rfl)))]; refine (none_Put (HN.out.keep hbl)).mono ?_; rintro e w' ⟨rfl, hb2⟩; exact ⟨_, rfl, below_next hbl hb2, rfl⟩))
        · exact R.l_move _ (.inl rfl) (by kernel_rfl) rfl rfl (R.ev_at (i := 6) rfl (by kernel_rfl))
        · exact R.l_read (by kernel_rfl) rfl rfl (fun q u a V hlo hhi hb hv hP => x_ext rfl ((R.eval_at (i := 7) rfl).trans (hv 7 (by kernel_rfl))) (by go_simp))
        · exact R.l_read (by kernel_rfl) rfl rfl (fun q u a V hlo hhi hb hv hP => x_ext rfl ((R.eval_at (i := 7) rfl).trans (hv 7 (by kernel_rfl))) (by go_simp))
        · exact R.l_move _ (.inr rfl) (by kernel_rfl) rfl rfl (R.ev_at (i := 8) rfl (by kernel_rfl))
        · exact R.l_move _ (.inr rfl) (by kernel_rfl) rfl rfl (R.ev_at (i := 9) rfl (by kernel_rfl))
      rintro uu W5 hW5
      simp only [R.fill, List.getD_cons_zero, List.getD_cons_succ, List.setIfInBounds_toArray, List.set_cons_zero, List.set_cons_succ]
      have HB6 := hid (show Below W6.heap.size W6 W5 from hW5)
      have HN5 := hid (HN.out.keep HB6.out)
      have HC5 := hid (cell_keep HB6.out HC.out)
      have HB5 := hid (below_next HBr.out HB6.out)
      have hh := none_Has HN5.out
      clear hW5 HN HC HO HBr
      (try simp only [Exit.inBlock, Exit.then])
      go_at_K
      go_wp2_with (first
        | (refine wp_iaddrW rfl _ _ 61 rfl rfl rfl (idx_pp ad 2 2 ii hlt _) ?_)
        | (refine wp_loadW rfl _ 24 rfl rfl (ld_ptr HC5.out) ?_)
        | (go_at_call 17; refine hh.mono ?_; clear hh; rintro e w7 ⟨rfl, hb⟩; have HN7 := hid (HN5.out.keep hb); have HC7 := hid (cell_keep hb HC5.out); have HB7 := hid (below_next HB5.out hb); have hw := none_Waits HN7.out; clear hb HN5 HC5 HB5)
        | (refine build_is rfl 30 #[] rfl (cs := vc zeroV) (by kernel_rfl) ?_)
        | (refine wp_binW rfl _ _ .neq 30 _ rfl rfl rfl (neq_vv zeroV _ _ _) ?_)
        | (refine wp_loadW rfl _ 24 rfl rfl (ld_ptr HC7.out) ?_)
        | (go_at_call 18; refine hw.mono ?_; clear hw; rintro e w8 ⟨rfl, hb⟩; have HN8 := hid (HN7.out.keep hb); have HC8 := hid (cell_keep hb HC7.out); have HB8 := hid (below_next HB7.out hb); have hcp := none_Copy HN8.out; clear hb HN7 HC7 HB7)
        | (refine wp_loadW rfl _ 24 rfl rfl (ld_ptr HC8.out) ?_)
        | (go_at_call 12; refine hcp.mono ?_; clear hcp; rintro e w9 ⟨rfl, hb⟩; have HB9 := hid (below_next HB8.out hb); clear hb HN8 HC8 HB8))
      go_roundw
      case rel => exact ⟨ii + 1, by omega, by go_num, HB9⟩
      case measure => exact meas1 hlt
    · obtain rfl : ii = 2 := by omega
      have HBE := hid (below_next HB3.out HBr.out)
      have hhd := law_head wr (HT.out.keep HBE.out)
      go_wp2_with (go_at_call 11; refine hhd.mono ?_; clear hhd; rintro e w9 ⟨rfl, hb⟩; have HB9 := hid (below_next HBE.out hb); clear hb)
      go_ret
      exact ⟨rfl, HB9.out⟩
end Go.Proofs.YtfnmekmgjcjglaaDoor.V
