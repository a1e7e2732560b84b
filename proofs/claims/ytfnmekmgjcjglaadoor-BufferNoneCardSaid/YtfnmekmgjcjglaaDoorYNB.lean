/-
  What may be handed on: the next operation of each replica, the first of these.
-/
import Derived.Test.YtfnmekmgjcjglaaDoorYZPC
namespace Go.Proofs.YtfnmekmgjcjglaaDoor.V
set_option linter.unusedVariables false
set_option linter.unusedSimpArgs false
set_option maxRecDepth 100000
open Go Go.RowKit Go.Maps Wire
/-! ### one operation that looks -/
section
variable {P : Program} {c : Oper} {a : Act} {w : World}
theorem base_ev {ops : Array Oper} {a0 a : Act} (hb : R.BaseA ops a0 a) {t : Nat} {v : Value} (hs : R.writes ops t = false) (h0 : a0.tmps.getD t undef = v) : a.eval (.tmp t) = v := by
  show a.tmps.getD t undef = _
  rw [← h0, Array.getD_eq_getD_getElem?, Array.getD_eq_getD_getElem?, hb.rest t (R.writes_ne hs)]
theorem x_nil {x : Operand} {p : Addr} (ho : c.op = .nilCheck x) (h : a.eval x = .pointer (some p)) : (execOp a.eval c).run P w = .ok (.value (.pointer (some p))) w := by
  unfold execOp
  simp only [ho]
  rw [h]
  rfl
theorem x_faddr {x : Operand} {t f : Nat} {u v : Value} (ho : c.op = .fieldAddr t x f) (h : a.eval x = u) (hr : (Instr.fieldAt t u f).run P w = .ok v w) : (execOp a.eval c).run P w = .ok (.value v) w := by
  unfold execOp
  simp only [ho, h, Sem.run_bind, hr, Result.andThen_ok, Sem.run_pure]
theorem x_load {x : Operand} {t : Nat} {u v : Value} (ho : c.op = .load t x) (h : a.eval x = u) (hr : (Instr.loadAt t u).run P w = .ok v w) : (execOp a.eval c).run P w = .ok (.value v) w := by
  unfold execOp
  simp only [ho, h, Sem.run_bind, hr, Result.andThen_ok, Sem.run_pure]
theorem x_iaddr {x y : Operand} {t : Nat} {u z v : Value} (ho : c.op = .indexAddr t x y) (h : a.eval x = u) (h2 : a.eval y = z) (hr : (Instr.indexAt t u z).run P w = .ok v w) : (execOp a.eval c).run P w = .ok (.value v) w := by
  unfold execOp
  simp only [ho, h, h2, Sem.run_bind, hr, Result.andThen_ok, Sem.run_pure]
theorem x_look {x y : Operand} {t : Nat} {u z v : Value} (ho : c.op = .lookup t x y true) (h : a.eval x = u) (h2 : a.eval y = z) (hr : (Instr.lookup t u z true).run P w = .ok v w) : (execOp a.eval c).run P w = .ok (.value v) w := by
  unfold execOp
  simp only [ho, h, h2, Sem.run_bind, hr, Result.andThen_ok, Sem.run_pure]
theorem x_ext {x : Operand} {n : Nat} {u v : Value} (ho : c.op = .extract x n) (h : a.eval x = u) (hr : (Instr.extract u n).run P w = .ok v w) : (execOp a.eval c).run P w = .ok (.value v) w := by
  unfold execOp
  simp only [ho, h, Sem.run_bind, hr, Result.andThen_ok, Sem.run_pure]
theorem x_conv {x : Operand} {s t : Nat} {u v : Value} (ho : c.op = .convert s t x) (h : a.eval x = u) (hr : (convert s t u).run P w = .ok v w) : (execOp a.eval c).run P w = .ok (.value v) w := by
  unfold execOp
  simp only [ho, h, Sem.run_bind, hr, Result.andThen_ok, Sem.run_pure]
theorem x_allocO (ho : c.op = .alloc 50) : (execOp a.eval c).run Tryd.prog w = .ok (.value (.pointer (some ⟨w.heap.size, 0, none⟩))) (w.alloc (.cells (oc zeroO) 50)) := by
  have hz := zero_op w
  unfold execOp
  simp only [ho, Instr.alloc, newVar, newRow, Sem.run_bind, hz, run_newObj_alloc, Sem.run_pure, Result.andThen_ok]
  rfl
end
set_option maxHeartbeats 1000000 in
theorem vec_Next (v : Vec) (r : Nat) (hv : okV v) (hr : r < 256) (w : World) :
    Calls Tryd.prog 75 #[.agg #[.int .u32 (v 0 : Int), .int .u32 (v 1 : Int), .int .u32 (v 2 : Int), .int .u32 (v 3 : Int), .int .u32 (v 4 : Int), .int .u32 (v 5 : Int), .int .u32 (v 6 : Int), .int .u32 (v 7 : Int)], .int .u8 (r : Int)] w
      fun e w' => e = .returned (.tuple #[.agg #[.int .u8 ((nextD v r).1 : Int), .int .u32 ((nextD v r).2 : Int)], .int .i64 (nextE v r)]) ∧ Below w.heap.size w w' := by
  have hvr := hv.1 r
  clear hv
  unfold nextD nextE
  by_cases h8 : 8 ≤ r
  · rw [if_pos h8, if_pos h8]
    go_enter Tryd.func75, Tryd.ntmps75
    go_wp2
    exact bodyPost_ret (results_row_tmp rfl _ _ _ _ _ _ _ _ rfl rfl (last2 _ _ _) Tryd.underlying46 rfl (by kernel_rfl)) rfl ⟨ret_dotE rfl rfl rfl, below_al2 _ _ _⟩
  · rw [if_neg h8, if_neg h8]
    have hc := fun o => cell_box1 w v o (r := r) (by omega)
    by_cases hm : v r = 4294967295
    · rw [if_pos hm, if_pos hm]
      have hm' : ((v r : Int) == 4294967295) = true := by simp [hm]
      go_enter Tryd.func75, Tryd.ntmps75
      go_wp2
      exact bodyPost_ret (results_row_tmp rfl _ _ _ _ _ _ _ _ rfl rfl (last2 _ _ _) Tryd.underlying46 rfl (by kernel_rfl)) rfl ⟨ret_dotE rfl rfl rfl, below_al2 _ _ _⟩
    · rw [if_neg hm, if_neg hm]
      have hm' : ((v r : Int) == 4294967295) = false := by simp; omega
      go_enter Tryd.func75, Tryd.ntmps75
      go_wp2
      exact bodyPost_ret (results_row_tmp rfl _ _ _ _ _ _ _ _ rfl rfl (last2 _ _ _) Tryd.underlying46 rfl (by kernel_rfl)) rfl ⟨ret_dotE rfl (by omega) rfl, below_al2 _ _ _⟩
/-! ### a replica's next one -/
def zeroY : OC := (zeroO, [])
def nextOfM (h : Vec) (c : List OC) (r : Nat) : Option OC := match c.find? (fun y => dt y == (r, h r + 1)) with | some y => if aboveB h y.1.dep then some y else none | none => none
theorem nextOf_some {h : Vec} {c : List OC} {r : Nat} {x : OC} (e : nextOfM h c r = some x) : x ∈ c ∧ x.1.r = r ∧ mayB h x = true := by
  unfold nextOfM at e
  split at e
  · next y hf =>
    by_cases ha : aboveB h y.1.dep = true
    · rw [if_pos ha] at e
      cases e
      have hd : dt x = (r, h r + 1) := by simpa using List.find?_some hf
      have h1 : x.1.r = r := congrArg Prod.fst hd
      have h2 : x.1.n = h r + 1 := congrArg Prod.snd hd
      refine ⟨List.mem_of_find?_eq_some hf, h1, ?_⟩
      unfold mayB
      rw [ha, h1, h2]
      simp
    · rw [if_neg ha] at e; cases e
  · cases e
theorem nextOf_none {h : Vec} {c : List OC} (hn : (c.map dt).Nodup) {r : Nat} (e : nextOfM h c r = none) : ∀ x ∈ c, x.1.r = r → mayB h x = false := by
  intro x hx hr
  cases hm : mayB h x with
  | false => rfl
  | true =>
    unfold mayB at hm
    simp only [Bool.and_eq_true, decide_eq_true_eq] at hm
    have hd : dt x = (r, h r + 1) := by unfold dt; rw [← hr, hm.1]
    have hf := nodup_find hn hx
    rw [hd] at hf
    unfold nextOfM at e
    rw [hf] at e
    simp only at e
    rw [if_pos hm.2] at e
    cases e
theorem nextOf_eq (h : Vec) (c : List OC) (r : Nat) : nextOfM h c r = if (!decide ((r, h r + 1) ∈ c.map dt) || !aboveB h (atM c (r, h r + 1)).1.dep) = true then none else some (atM c (r, h r + 1)) := by
  unfold nextOfM atM
  cases e : c.find? (fun y => dt y == (r, h r + 1)) with
  | none =>
    have hm : (r, h r + 1) ∉ c.map dt := fun hm => by
      obtain ⟨y, hy, hd⟩ := List.mem_map.1 hm
      have := List.find?_eq_none.1 e y hy
      simp [hd] at this
    rw [decide_eq_false hm]
    rfl
  | some y =>
    have hm : (r, h r + 1) ∈ c.map dt := List.mem_map.2 ⟨y, List.mem_of_find?_eq_some e, by simpa using List.find?_some e⟩
    rw [decide_eq_true hm]
    simp only [Option.getD_some, Bool.not_true, Bool.false_or, Bool.not_eq_true']
    cases aboveB h y.1.dep <;> rfl
theorem results_op_bool {fn : Func} {p u : Nat} (h : fn.results = #[.cell p 50, .tmp u]) (tmps : Array Value) (w : World) (g : Nat) (o : OpM) (v : Value)
    (hv : tmps.getD u undef = v) (hp : tmps.getD p undef = .pointer (some ⟨g, 0, none⟩)) (hg : OpAt w g o) : (results fn tmps).run Tryd.prog w = .ok (.tuple #[.agg (oc o), v]) w :=
  results_row_tmp h tmps w g _ _ _ _ v hv hp hg Tryd.underlying50 rfl (opSize o)
theorem ld_vec {w : World} {p : Addr} {v : Vec} (h : ∀ k, k < 8 → w.cell? (p.add k) = some (.int .u32 (v k : Int))) : (Instr.loadAt 30 (.pointer (some p))).run Tryd.prog w = .ok (.agg (vc v)) w := by
  simp only [Instr.loadAt, Instr.sureAddr, Sem.run_bind, Sem.run_pure, Result.andThen_ok, run_loadVar_dep h]
section
variable {ops : Array Oper} {Q : Exit → Act → World → Prop} {tgt : Nat → Option Nat} {F : Nat → Fa} {a0 : Act} {w0 : World} {k : Nat} {op : Oper}
theorem v_nil {x : Operand} {p : Addr} (ho : op.op = .nilCheck x) (hF : F k = .eq (.pointer (some p))) (hd : op.dst.isSome = true) (hg : guardOK ops F op) (h1 : Ev ops F a0 w0 op x (.pointer (some p))) : StepOK Tryd.prog ops Q tgt F a0 w0 k op :=
  flow_val _ hF hd hg (fun o a w hb hB hn => x_nil ho (h1 o a w hb hn))
end
theorem ld_dot {w : World} {g o : Nat} {d : Dot} (h0 : w.cell? ⟨g, o, none⟩ = some (.int .u8 (d.1 : Int))) (h1 : w.cell? ⟨g, o + 1, none⟩ = some (.int .u32 (d.2 : Int))) : (Instr.loadAt 46 (.pointer (some ⟨g, o, none⟩))).run Tryd.prog w = .ok (dv d) w := by
  unfold dv
  go_simp
set_option maxHeartbeats 1000000 in
theorem buffer_nextOf {w : World} {p mb n : Nat} {h : Vec} {c : List OC} (b : BufAt w p mb n h c) (r : Nat) (hr : r < 8) :
    Calls Tryd.prog 70 #[.pointer (some ⟨p, 0, none⟩), .int .u8 (r : Int)] w fun e w' => e = .returned (.tuple #[.agg (oc ((nextOfM h c r).getD zeroY).1), .bool (nextOfM h c r).isSome]) ∧ Below w.heap.size w w' := by
  have HB := hid b
  have hnx := fun W => vec_Next h r b.ok.okh (by omega) W
  by_cases hm : h r = 4294967295
  · have hE : nextE h r = 6 ∧ nextD h r = (0, 0) := by
      have h8 : ¬ 8 ≤ r := by omega
      simp [nextE, nextD, h8, hm]
    simp only [hE.1, hE.2] at hnx
    have hno : nextOfM h c r = none := by
      cases e : nextOfM h c r with
      | none => rfl
      | some x =>
        obtain ⟨h1, h2, h3⟩ := nextOf_some e
        have h4 := (b.oks x h1).n
        unfold mayB at h3
        simp only [Bool.and_eq_true, decide_eq_true_eq] at h3
        rw [h2] at h3
        omega
    rw [hno]
    clear b hm
    go_enter Tryd.func70, Tryd.ntmps70
    go_upto_region 2 with (first
      | (refine load_vecIn _ rfl rfl ⟨p, 1, none⟩ rfl h (HB.out.keep (below_al _ _)).cv ?_)
      | (go_at_call 75; refine (hnx _).mono ?_; rintro e w1 ⟨rfl, hb1⟩; have HB1 := hid (below_next (below_al w (.cells (oc zeroO) 50)) hb1); have HZ := hid (heap_keep (heap_alloc_last' w (.cells (oc zeroO) 50)) hb1); clear hb1))
    go_wp2_with (first
      | (refine wpList_store_row rfl _ _ _ rfl w.heap.size (oc zeroO) rfl rfl 50 (oc zeroO) (heap_al HZ.out _) (opSize _) rfl (oneO _ rfl) ?_))
    (try simp only [Exit.inBlock, Exit.then])
    refine bodyPost_ret (results_op_bool rfl _ _ _ zeroO _ rfl rfl (setRow_heap _ _ _ _ _ _ (heap_al HZ.out _))) rfl ?_
    exact ⟨rfl, Below.setRow (HB1.out.alloc HB1.out.size _) (Nat.le_refl _) _⟩
  · have hE : nextE h r = 0 ∧ nextD h r = (r, h r + 1) := by
      have h8 : ¬ 8 ≤ r := by omega
      simp [nextE, nextD, h8, hm]
    simp only [hE.1, hE.2] at hnx
    have HR := hid (And.intro hr (show h r + 1 < 4294967296 by have := b.ok.okh.1 r; omega))
    clear b hm hE
    obtain ⟨nn, hnn⟩ : ∃ nn, nn = h r + 1 := ⟨_, rfl⟩
    rw [← hnn] at hnx
    have HNN := hid hnn
    clear hnn
    go_enter Tryd.func70, Tryd.ntmps70
    go_upto_region 4 with (first
      | (refine load_vecIn _ rfl rfl ⟨p, 1, none⟩ rfl h (HB.out.keep (below_al _ _)).cv ?_)
      | (go_at_call 75; refine (hnx _).mono ?_; rintro e w1 ⟨rfl, hb1⟩; have HB1 := hid (below_next (below_al w (.cells (oc zeroO) 50)) hb1); have HZ := hid (heap_keep (heap_alloc_last' w (.cells (oc zeroO) 50)) hb1); clear hb1))
    obtain ⟨W, hW⟩ : ∃ W, W = w1.alloc (.cells #[.int .u8 (r : Int), .int .u32 (nn : Int)] 46) := ⟨_, rfl⟩
    rw [← hW]
    obtain ⟨D, hD⟩ : ∃ D, D = w1.heap.size := ⟨_, rfl⟩
    rw [← hD]
    have HBel := hid (show Below w.heap.size w W by rw [hW]; exact HB1.out.alloc HB1.out.size _)
    have HZW := hid (show W.heap[w.heap.size]? = some (.cells (oc zeroO) 50 (0, 0)) by rw [hW]; exact heap_al HZ.out _)
    have HBW := hid (HB.out.keep HBel.out)
    have HDb := hid (show w.heap.size ≤ D ∧ D < W.heap.size by rw [hW, hD]; exact ⟨HB1.out.size, by simp⟩)
    have HD := hid (show W.cell? ⟨D, 0, none⟩ = some (.int .u8 (((r, nn) : Dot).1 : Int)) ∧ W.cell? ⟨D, 0 + 1, none⟩ = some (.int .u32 (((r, nn) : Dot).2 : Int)) by
      have hl := heap_alloc_last' w1 (.cells #[.int .u8 (r : Int), .int .u32 (nn : Int)] 46)
      rw [hW, hD]
      exact ⟨(cell_of_heap hl).trans rfl, (cell_of_heap hl).trans rfl⟩)
    have HDK := hid (show Dot.ok (r, nn) from ⟨by show r < 256; omega, by show nn < 4294967296; rw [HNN.out]; exact HR.out.2⟩)
    clear hW hD HB1 HZ hnx
    obtain ⟨x, hx⟩ : ∃ x, x = atM c (r, nn) := ⟨_, rfl⟩
    obtain ⟨iz, hz⟩ : ∃ iz, iz = decide ((r, nn) ∈ c.map dt) := ⟨_, rfl⟩
    have hone : x.1.lv.oneCell' = true := by
      by_cases hm : (r, nn) ∈ c.map dt
      · obtain ⟨y, hy, e⟩ := List.mem_map.1 hm
        rw [hx, ← e, at_of HB.out.map.2.1 hy]
        exact HB.out.one y hy
      · rw [hx, at_not hm]; rfl
    have HX := hid (And.intro hx.symm (And.intro hz.symm hone))
    clear hx hz hone
    refine R.wp_chain [9, 10] (fun q _ V => Below W.heap.size W V ∧ (match q with | 0 => V = W.drew | 1 => V = W.drew.alloc (.cells (oc zeroO) 50) | _ => V = (W.drew.alloc (.cells (oc zeroO) 50)).setRow W.heap.size (oc x.1))) (fun i u => [.pointer (some ⟨p, 0, none⟩), .pointer (some ⟨p, 0, none⟩), .pointer (some ⟨p, 9, none⟩), .map (some mb), dv (r, nn), .tuple #[.agg (oc x.1), .bool iz], .tuple #[.agg (oc x.1), .bool iz], .agg (oc x.1), .bool iz, .pointer (some ⟨W.heap.size, 0, none⟩), undef, .bool iz].getD i undef) (fun _ => undef) 45 (by kernel_rfl) (by kernel_rfl) rfl (by kernel_rfl) (by kernel_rfl) ?_ ?_ ⟨below_dr _, rfl⟩ ?_
    · simp only [R.HVs, R.HV]
      repeat' (first | trivial | refine And.intro ?_ ?_ | exact fun _ _ _ => rfl)
    · refine ⟨?_, ?_, ?_, ?_, ?_, ?_, ?_, ?_, ?_, ?_, ?_, ?_, trivial⟩
      · exact R.l_move _ (.inl rfl) (by kernel_rfl) rfl rfl (R.ev_base (by kernel_rfl) rfl)
      · exact R.l_read (by kernel_rfl) rfl rfl (fun q u a V hlo hhi hb hv hP => x_nil rfl ((R.eval_at (i := 0) rfl).trans (hv 0 (by kernel_rfl))))
      · exact R.l_read (by kernel_rfl) rfl rfl (fun q u a V hlo hhi hb hv hP => x_faddr rfl ((R.eval_at (i := 1) rfl).trans (hv 1 (by kernel_rfl))) (by go_simp))
      · exact R.l_read (by kernel_rfl) rfl rfl (fun q u a V hlo hhi hb hv hP => x_load rfl ((R.eval_at (i := 2) rfl).trans (hv 2 (by kernel_rfl))) (by have h9 := (HBW.out.keep hP.1).c9; go_simp))
      · exact R.l_read (by kernel_rfl) rfl rfl (fun q u a V hlo hhi hb hv hP => x_load rfl (base_ev hb (by kernel_rfl) rfl) (ld_dot (cell_keep hP.1 HD.out.1) (cell_keep hP.1 HD.out.2)))
      · exact R.l_read (by kernel_rfl) rfl rfl (fun q u a V hlo hhi hb hv hP => x_look rfl ((R.eval_at (i := 3) rfl).trans (hv 3 (by kernel_rfl))) ((R.eval_at (i := 4) rfl).trans (hv 4 (by kernel_rfl))) (by have h1 := (HBW.out.keep hP.1).map.look HDK.out; rw [HX.out.1, HX.out.2.1] at h1; exact h1))
      · exact R.l_move _ (.inl rfl) (by kernel_rfl) rfl rfl (R.ev_at (i := 5) rfl (by kernel_rfl))
      · exact R.l_read (by kernel_rfl) rfl rfl (fun q u a V hlo hhi hb hv hP => x_ext rfl ((R.eval_at (i := 6) rfl).trans (hv 6 (by kernel_rfl))) (by go_simp))
      · exact R.l_read (by kernel_rfl) rfl rfl (fun q u a V hlo hhi hb hv hP => x_ext rfl ((R.eval_at (i := 6) rfl).trans (hv 6 (by kernel_rfl))) (by go_simp))
      · exact R.l_turn (p := 0) (by kernel_rfl) rfl _ (fun u a V hb hv hP => (by obtain rfl : V = W.drew := hP.2; exact ⟨_, x_allocO rfl, ⟨(below_dr W).trans (below_al W.drew _), rfl⟩, rfl⟩))
      · exact R.l_skip (p := 1) (by kernel_rfl) rfl (fun u a V hb hv hP => (by obtain rfl : V = W.drew.alloc (.cells (oc zeroO) 50) := hP.2; exact ⟨_, run_store_op _ _ rfl W.heap.size ((R.eval_at (i := 9) rfl).trans (hv 9 (by kernel_rfl))) x.1 ((R.eval_at (i := 7) rfl).trans (hv 7 (by kernel_rfl))) zeroO (heap_alloc_last' _ _) HX.out.2.2, ⟨Below.setRow hP.1 (Nat.le_refl _) _, rfl⟩, rfl⟩))
      · exact R.l_move _ (.inr rfl) (by kernel_rfl) rfl rfl (R.ev_at (i := 8) rfl (by kernel_rfl))
    rintro _ W5 hW5
    simp only [R.fill, List.getD_cons_zero, List.getD_cons_succ, List.setIfInBounds_toArray, List.set_cons_zero, List.set_cons_succ]
    have HO5 := hid (show OpAt W5 W.heap.size x.1 by
      rw [hW5.2]
      exact setRow_heap _ _ _ _ _ _ (heap_alloc_last' W.drew (.cells (oc zeroO) 50)))
    have HL5 := hid (And.intro hW5.1 (below_next HBel.out hW5.1))
    clear hW5
    generalize hg5 : W.heap.size = g5 at HO5 ⊢
    have HX5 := hid (show OpIn W5 ⟨g5, 0, none⟩ x.1 from fun k hk => by rw [add8]; exact HO5.out.cell k)
    have HB5 := hid (HB.out.keep HL5.out.2)
    have HZ5 := hid (heap_keep HZW.out HL5.out.1)
    have HG5 := hid hg5
    clear hg5
    (try simp only [Exit.inBlock, Exit.then])
    go_at_K
    go_upto_region 5 with (fail)
    refine wp_flow (fun _ => none) (Fa.eq (.bool (iz)) :: Fa.eq (.bool (!iz)) :: Fa.eq (.bool (!iz)) :: Fa.eq (gd (!(!iz)) (.pointer (some ⟨p, 0, none⟩))) :: Fa.eq (gd (!(!iz)) (.pointer (some ⟨p, 0, none⟩))) :: Fa.eq (gd (!(!iz)) (.pointer (some ⟨p, 1, none⟩))) :: Fa.eq (gd (!(!iz)) (.agg (vc h))) :: Fa.eq (gd (!(!iz)) (.pointer (some (((⟨g5, 0, none⟩ : Addr) : Addr).add 2)))) :: Fa.eq (gd (!(!iz)) (.agg (vc x.1.dep))) :: Fa.eq (gd (!(!iz)) (.bool (aboveB h x.1.dep))) :: Fa.eq (gd (!(!iz)) (.bool (!(aboveB h x.1.dep)))) :: Fa.eq (.bool ((!iz) || (!(aboveB h x.1.dep)))) :: []) 45 (by kernel_rfl) rfl (by kernel_rfl) rfl (by kernel_rfl) ?_ ?_ ?_
    · exact fits_plain _ _ rfl
    · refine ⟨?_, ?_, ?_, ?_, ?_, ?_, ?_, ?_, ?_, ?_, ?_, ?_, trivial⟩
      · exact v_move (.inl rfl) rfl (by kernel_rfl) True.intro (Ev.out (by kernel_rfl) rfl)
      · exact v_not rfl rfl (by kernel_rfl) True.intro (Ev.at (i := 0) (by kernel_rfl) (by kernel_rfl) rfl)
      · exact v_move (.inl rfl) rfl (by kernel_rfl) True.intro (Ev.at (i := 1) (by kernel_rfl) (by kernel_rfl) rfl)
      · exact flow_gd (!(!iz)) (.pointer (some ⟨p, 0, none⟩)) 2 false (.bool (!iz)) rfl (by kernel_rfl) rfl gu_f rfl (fun hg hF hj => v_move (.inl rfl) hF (by kernel_rfl) (guard_of rfl (by kernel_rfl) (by kernel_rfl) hj) (Ev.out (by kernel_rfl) rfl))
      · exact flow_gd (!(!iz)) (.pointer (some ⟨p, 0, none⟩)) 2 false (.bool (!iz)) rfl (by kernel_rfl) rfl gu_f rfl (fun hg hF hj => v_nil rfl hF (by kernel_rfl) (guard_of rfl (by kernel_rfl) (by kernel_rfl) hj) (Ev.at (i := 3) (by kernel_rfl) (by kernel_rfl) (fe rfl (gd_t hg))))
      · exact flow_gd (!(!iz)) (.pointer (some ⟨p, 1, none⟩)) 2 false (.bool (!iz)) rfl (by kernel_rfl) rfl gu_f rfl (fun hg hF hj => v_faddr (u := .pointer (some ⟨p, 0, none⟩)) (c := .pointer (some ⟨p, 1, none⟩)) rfl (fun w => (by go_simp)) hF (by kernel_rfl) (guard_of rfl (by kernel_rfl) (by kernel_rfl) hj) (Ev.at (i := 4) (by kernel_rfl) (by kernel_rfl) (fe rfl (gd_t hg))))
      · exact flow_gd (!(!iz)) (.agg (vc h)) 2 false (.bool (!iz)) rfl (by kernel_rfl) rfl gu_f rfl (fun hg hF hj => v_load (u := .pointer (some ⟨p, 1, none⟩)) (c := .agg (vc h)) rfl (fun w hB => ld_vec (BufAt.keep HB5.out ((below_dr _).trans hB)).cv) hF (by kernel_rfl) (guard_of rfl (by kernel_rfl) (by kernel_rfl) hj) (Ev.at (i := 5) (by kernel_rfl) (by kernel_rfl) (fe rfl (gd_t hg))))
      · exact flow_gd (!(!iz)) (.pointer (some (((⟨g5, 0, none⟩ : Addr) : Addr).add 2))) 2 false (.bool (!iz)) rfl (by kernel_rfl) rfl gu_f rfl (fun hg hF hj => v_faddr (u := .pointer (some (⟨g5, 0, none⟩ : Addr))) (c := .pointer (some (((⟨g5, 0, none⟩ : Addr) : Addr).add 2))) rfl (fun w => (fld_op (⟨g5, 0, none⟩ : Addr) w).2.1) hF (by kernel_rfl) (guard_of rfl (by kernel_rfl) (by kernel_rfl) hj) (Ev.out (by kernel_rfl) rfl))
      · exact flow_gd (!(!iz)) (.agg (vc x.1.dep)) 2 false (.bool (!iz)) rfl (by kernel_rfl) rfl gu_f rfl (fun hg hF hj => v_load (u := .pointer (some (((⟨g5, 0, none⟩ : Addr) : Addr).add 2))) (c := .agg (vc x.1.dep)) rfl (fun w hB => ldp_vec (OpIn.keep (OpIn.dr HX5.out) hB)) hF (by kernel_rfl) (guard_of rfl (by kernel_rfl) (by kernel_rfl) hj) (Ev.at (i := 7) (by kernel_rfl) (by kernel_rfl) (fe rfl (gd_t hg))))
      · exact flow_gd (!(!iz)) (.bool (aboveB h x.1.dep)) 2 false (.bool (!iz)) rfl (by kernel_rfl) rfl gu_f rfl (fun hg hF hj => v_call (vs := #[.agg (vc h), .agg (vc x.1.dep)]) (c := .bool (aboveB h x.1.dep)) rfl (fun args w => rfl) (fun w hB => vec_Above h x.1.dep w) hF (by kernel_rfl) (guard_of rfl (by kernel_rfl) (by kernel_rfl) hj) (ev2 (Ev.at (i := 6) (by kernel_rfl) (by kernel_rfl) (fe rfl (gd_t hg))) (Ev.at (i := 8) (by kernel_rfl) (by kernel_rfl) (fe rfl (gd_t hg)))))
      · exact flow_gd (!(!iz)) (.bool (!(aboveB h x.1.dep))) 2 false (.bool (!iz)) rfl (by kernel_rfl) rfl gu_f rfl (fun hg hF hj => v_not rfl hF (by kernel_rfl) (guard_of rfl (by kernel_rfl) (by kernel_rfl) hj) (Ev.at (i := 9) (by kernel_rfl) (by kernel_rfl) (fe rfl (gd_t hg))))
      · exact v_or (p := !iz) (q := !(aboveB h x.1.dep)) rfl rfl (by kernel_rfl) True.intro (Ev.at (i := 2) (by kernel_rfl) (by kernel_rfl) rfl) (fun hp => (Ev.at (i := 10) (by kernel_rfl) (by kernel_rfl) (fe rfl (gd_t (not_t hp)))))
    intro _ vs W6 hB6 hf
    have e0 : vs 0 = .bool (iz) := hf 0 (by decide)
    have e1 : vs 1 = .bool (!iz) := hf 1 (by decide)
    have e2 : vs 2 = .bool (!iz) := hf 2 (by decide)
    have e3 : vs 3 = gd (!(!iz)) (.pointer (some ⟨p, 0, none⟩)) := hf 3 (by decide)
    have e4 : vs 4 = gd (!(!iz)) (.pointer (some ⟨p, 0, none⟩)) := hf 4 (by decide)
    have e5 : vs 5 = gd (!(!iz)) (.pointer (some ⟨p, 1, none⟩)) := hf 5 (by decide)
    have e6 : vs 6 = gd (!(!iz)) (.agg (vc h)) := hf 6 (by decide)
    have e7 : vs 7 = gd (!(!iz)) (.pointer (some (((⟨g5, 0, none⟩ : Addr) : Addr).add 2))) := hf 7 (by decide)
    have e8 : vs 8 = gd (!(!iz)) (.agg (vc x.1.dep)) := hf 8 (by decide)
    have e9 : vs 9 = gd (!(!iz)) (.bool (aboveB h x.1.dep)) := hf 9 (by decide)
    have e10 : vs 10 = gd (!(!iz)) (.bool (!(aboveB h x.1.dep))) := hf 10 (by decide)
    have e11 : vs 11 = .bool ((!iz) || (!(aboveB h x.1.dep))) := hf 11 (by decide)
    obtain ⟨q, hq⟩ : ∃ z : Bool, ((!iz) || (!(aboveB h x.1.dep))) = z := ⟨_, rfl⟩
    rw [hq] at e11
    have HQ := hid hq
    clear hq
    simp only [fill, List.setIfInBounds_toArray, List.set_cons_zero, List.set_cons_succ, e0, e1, e2, e3, e4, e5, e6, e7, e8, e9, e10, e11]
    clear e0 e1 e2 e3 e4 e5 e6 e7 e8 e9 e10 e11
    clear hf
    have HB6 := hid (below_next HL5.out.2 hB6)
    have HZ6 := hid (heap_keep HZ5.out hB6)
    have HX6 := hid (HX5.out.keep hB6)
    have HE := hid (nextOf_eq h c r)
    rw [← HNN.out, HX.out.1, HX.out.2.1, HQ.out] at HE
    have HOX := hid HX.out.2.2
    clear hB6 HB5 HO5 HX5 HL5 HZ5 HG5 HQ
    cases q
    · have HE2 := hid (show nextOfM h c r = some x from HE.out)
      clear HE
      go_wp2_with (first
        | (refine load_opIn _ rfl rfl ⟨g5, 0, none⟩ rfl x.1 HX6.out ?_)
        | (refine wpList_store_row rfl _ _ _ rfl w.heap.size (oc x.1) rfl rfl 50 (oc zeroO) HZ6.out (opSize _) rfl (oneO _ HOX.out) ?_))
      (try simp only [Exit.inBlock, Exit.then])
      refine bodyPost_ret (results_op_bool rfl _ _ _ x.1 _ rfl rfl (setRow_heap _ _ _ _ _ _ HZ6.out)) rfl ?_
      rw [HE2.out]
      exact ⟨rfl, Below.setRow HB6.out (Nat.le_refl _) _⟩
    · have HE2 := hid (show nextOfM h c r = none from HE.out)
      clear HE
      go_wp2_with (first
        | (refine wpList_store_row rfl _ _ _ rfl w.heap.size (oc zeroO) rfl rfl 50 (oc zeroO) HZ6.out (opSize _) rfl (oneO _ rfl) ?_))
      (try simp only [Exit.inBlock, Exit.then])
      refine bodyPost_ret (results_op_bool rfl _ _ _ zeroO _ rfl rfl (setRow_heap _ _ _ _ _ _ HZ6.out)) rfl ?_
      rw [HE2.out]
      exact ⟨rfl, Below.setRow HB6.out (Nat.le_refl _) _⟩
end Go.Proofs.YtfnmekmgjcjglaaDoor.V
namespace Go.Proofs.YtfnmekmgjcjglaaDoor.V
set_option linter.unusedVariables false
set_option linter.unusedSimpArgs false
set_option maxRecDepth 100000
open Go Go.RowKit Go.Maps Wire
def stepU (h : Vec) (c : List OC) (b : Option OC) (r : Nat) : Option OC := match nextOfM h c r with | some o => if winsB b o then some o else b | none => b
/-- The first one of the replicas up to here. -/
def upTo (h : Vec) (c : List OC) (k : Nat) : Option OC := (List.range k).foldl (stepU h c) none
theorem upTo_succ (h : Vec) (c : List OC) (k : Nat) : upTo h c (k + 1) = stepU h c (upTo h c k) k := by
  unfold upTo
  rw [List.range_succ, List.foldl_append]
  rfl
theorem upTo_is {h : Vec} {c : List OC} (hn : (c.map dt).Nodup) : ∀ k, (∀ x, upTo h c k = some x → x ∈ c ∧ mayB h x = true ∧ x.1.r < k ∧ ∀ y ∈ c, y.1.r < k → mayB h y = true → ¬ ltO y x) ∧ (upTo h c k = none → ∀ y ∈ c, y.1.r < k → mayB h y = false)
  | 0 => ⟨fun x e => (by cases e), fun _ y _ h => absurd h (Nat.not_lt_zero _)⟩
  | k + 1 => by
    obtain ⟨h1, h2⟩ := upTo_is (h := h) hn k
    rw [upTo_succ]
    unfold stepU
    cases e : nextOfM h c k with
    | none =>
      have hno := nextOf_none hn e
      refine ⟨fun x hx => ?_, fun hx y hy hr => ?_⟩
      · obtain ⟨g1, g2, g3, g4⟩ := h1 x hx
        refine ⟨g1, g2, by omega, fun y hy hr hm => ?_⟩
        by_cases hk : y.1.r = k
        · rw [hno y hy hk] at hm; cases hm
        · exact g4 y hy (by omega) hm
      · by_cases hk : y.1.r = k
        · exact hno y hy hk
        · exact h2 hx y hy (by omega)
    | some o =>
      obtain ⟨o1, o2, o3⟩ := nextOf_some e
      have huniq : ∀ y ∈ c, y.1.r = k → mayB h y = true → y = o := fun y hy hk hm => by
        refine nodup_inj hn hy o1 ?_
        unfold mayB at hm o3
        simp only [Bool.and_eq_true, decide_eq_true_eq] at hm o3
        unfold dt
        rw [hk, o2, ← hm.1, ← o3.1, hk, o2]
      simp only
      by_cases hw : winsB (upTo h c k) o = true
      · rw [if_pos hw]
        refine ⟨fun x hx => ?_, fun hx => (by cases hx)⟩
        cases hx
        refine ⟨o1, o3, by omega, fun y hy hr hm => ?_⟩
        by_cases hk : y.1.r = k
        · rw [huniq y hy hk hm]; exact ltO_irr _
        · cases eb : upTo h c k with
          | none => rw [h2 eb y hy (by omega)] at hm; cases hm
          | some z =>
            rw [eb] at hw
            have hlt : ltO o z := by simpa [winsB] using hw
            intro hyo
            exact (h1 z eb).2.2.2 y hy (by omega) hm (ltO_trans hyo hlt)
      · rw [if_neg hw]
        cases eb : upTo h c k with
        | none => rw [eb] at hw; exact absurd rfl hw
        | some z =>
          rw [eb] at hw
          have hlt : ¬ ltO o z := by simpa [winsB] using hw
          refine ⟨fun x hx => ?_, fun hx => (by cases hx)⟩
          cases hx
          obtain ⟨g1, g2, g3, g4⟩ := h1 z eb
          refine ⟨g1, g2, by omega, fun y hy hr hm => ?_⟩
          by_cases hk : y.1.r = k
          · rw [huniq y hy hk hm]; exact hlt
          · exact g4 y hy (by omega) hm
theorem upTo_next {h : Vec} {c : List OC} (hn : (c.map dt).Nodup) {n : Nat} (hr : ∀ x ∈ c, x.1.r < n) : upTo h c n = nextM h c := by
  obtain ⟨h1, h2⟩ := upTo_is (h := h) hn n
  cases e : upTo h c n with
  | none => exact (next_no fun y hy => h2 e y hy (hr y hy)).symm
  | some x =>
    obtain ⟨g1, g2, g3, g4⟩ := h1 x e
    exact (next_is hn g1 g2 fun y hy hm => g4 y hy (hr y hy) hm).symm
theorem BufP.rlt {n : Nat} {h : Vec} {l : List OC} (b : BufP n h l) : ∀ x ∈ l, x.1.r < n := fun x hx => by
  have hc := b.ok x hx
  have h1 := b.n1
  have h8 := b.n8
  unfold checkM at hc
  rw [if_neg (by omega), if_neg (by omega)] at hc
  by_cases hn : nameM x.1 ((n : Int)).toNat = true
  · unfold nameM at hn
    simp only [Bool.and_eq_true, decide_eq_true_eq] at hn
    have := hn.1
    omega
  · rw [if_neg hn] at hc; omega
set_option maxHeartbeats 1000000 in
theorem buffer_first {w : World} {p mb n : Nat} {h : Vec} {c : List OC} (b : BufAt w p mb n h c) :
    Calls Tryd.prog 50 #[.pointer (some ⟨p, 0, none⟩)] w fun e w' => e = .returned (.tuple #[.agg (oc ((nextM h c).getD zeroY).1), .bool (nextM h c).isSome]) ∧ Below w.heap.size w w' := by
  have HB := hid b
  have HU := hid (upTo_next (h := h) b.map.2.1 b.ok.rlt)
  have hn8 := b.ok.n8
  clear b
  go_enter Tryd.func50, Tryd.ntmps50
  go_upto_region 3 with (fail)
  refine gen_code (fun W => OpAt W (w.heap.size + 1) zeroO ∧ OpAt W w.heap.size zeroO ∧ Below w.heap.size w W) ⟨last2 _ _ _, (opAt_new w zeroO).al _, below_al2 _ _ _⟩ ?_
  rintro W3 ⟨h31, h32, h33⟩
  have HW3 := hid (And.intro h31 (And.intro h32 h33))
  have hc0 := (HB.out.keep h33).c0
  clear h31 h32 h33
  go_wp2
  clear hc0
  go_loopw [5, 13] (fun f i wr => ∃ (k : Nat) (fo : Bool) (fx : OC), k ≤ n ∧ i = .int .i64 (k : Nat) ∧ f = .bool fo ∧ Hid (fo = (upTo h c k).isSome ∧ fx = (upTo h c k).getD zeroY) ∧ Hid (OpAt wr (w.heap.size + 1) fx.1) ∧ Hid (OpAt wr w.heap.size zeroO) ∧ Hid (Below w.heap.size w wr)) (fun _ i _ => n - (intOf i).toNat)
  case atStart =>
    exact ⟨0, false, zeroY, by omega, rfl, rfl, hid ⟨rfl, rfl⟩, hid HW3.out.1, hid HW3.out.2.1, hid HW3.out.2.2⟩
  case round =>
    obtain ⟨k, fo, fx, hk, rfl, rfl, HST, HF, HZ, HBL⟩ := hrel
    by_cases hlt : k < n
    · have hno := buffer_nextOf (HB.out.keep HBL.out) k (by omega)
      have h1 : (k : Int) < (n : Int) := by omega
      have hu8 : IntKind.u8.wrap (k : Int) = (k : Int) := by rw [wrap_u8]; omega
      obtain ⟨ox, hox⟩ : ∃ ox, ox = (nextOfM h c k).getD zeroY := ⟨_, rfl⟩
      obtain ⟨ma, hma⟩ : ∃ ma, ma = (nextOfM h c k).isSome := ⟨_, rfl⟩
      rw [← hox, ← hma] at hno
      have hone : ox.1.lv.oneCell' = true := by
        rw [hox]
        cases e : nextOfM h c k with
        | none => rfl
        | some y => exact HB.out.one y (nextOf_some e).1
      have HOX := hid (And.intro hox (And.intro hma hone))
      clear hox hma hone
      go_upto_region 7 with (first
        | (go_at_call 70; refine hno.mono ?_; clear hno; rintro e w1 ⟨rfl, hb1⟩; have HB1 := hid hb1; clear hb1)
        | (refine wpList_store_row rfl _ _ _ rfl w1.heap.size (oc ox.1) rfl rfl 50 (oc zeroO) ?_ (opSize _) rfl (oneO _ HOX.out.2.2) ?_; (focus exact heap_alloc_last' _ _); rw [World.setRow_alloc_new]))
      have HL1 := hid (Below.trans HB1.out ((below_al w1 (.cells (oc ox.1) 50)).mono HB1.out.size))
      obtain ⟨w7, hw7⟩ : ∃ w7, w7 = w1.alloc (.cells (oc ox.1) 50) := ⟨_, rfl⟩
      rw [← hw7] at HL1 ⊢
      obtain ⟨g7, hg7⟩ : ∃ g7, g7 = w1.heap.size := ⟨_, rfl⟩
      rw [← hg7]
      have HG7 := hid (show OpIn w7 ⟨g7, 0, none⟩ ox.1 from fun k hk => by rw [add8, hw7, hg7]; exact (opAt_new w1 ox.1).cell k)
      have HA4 := hid (HF.out.keep HL1.out)
      have HF4 := hid (show OpIn w7 ⟨w.heap.size + 1, 0, none⟩ fx.1 from fun k hk => by rw [add8]; exact HA4.out.cell k)
      have HZ7 := hid (HZ.out.keep HL1.out)
      have HBL7 := hid (below_next HBL.out HL1.out)
      clear hw7 hg7 HB1 HZ HF
      refine wp_text (fun _ => none) (Fa.eq (.bool (ma)) :: Fa.eq (.bool (ma)) :: Fa.eq (gd (ma) (.bool (fo))) :: Fa.eq (gd (ma) (.bool (!fo))) :: Fa.eq (gd (ma) (.bool (!fo))) :: Fa.eq (gd ((ma) && (!(!fo))) (.agg (oc ox.1))) :: Fa.eq (gd ((ma) && (!(!fo))) (.agg (oc fx.1))) :: Fa.eq (gd ((ma) && (!(!fo))) (.int .i64 (cmpM ox fx))) :: Fa.eq (gd ((ma) && (!(!fo))) (.bool (decide ((cmpM ox fx) < (0))))) :: Fa.eq (gd (ma) (.bool ((!fo) || (decide ((cmpM ox fx) < (0)))))) :: Fa.eq (.bool ((ma) && ((!fo) || (decide ((cmpM ox fx) < (0)))))) :: []) 38 rfl (by kernel_rfl) rfl (by kernel_rfl) ?_ ?_ ?_
      · exact fits_plain _ _ rfl
      · refine ⟨?_, ?_, ?_, ?_, ?_, ?_, ?_, ?_, ?_, ?_, ?_, trivial⟩
        · exact v_move (.inl rfl) rfl (by kernel_rfl) True.intro (Ev.out (by kernel_rfl) rfl)
        · exact v_move (.inl rfl) rfl (by kernel_rfl) True.intro (Ev.at (i := 0) (by kernel_rfl) (by kernel_rfl) rfl)
        · exact flow_gd (ma) (.bool (fo)) 1 true (.bool (ma)) rfl (by kernel_rfl) rfl gu_t rfl (fun hg hF hj => v_move (.inl rfl) hF (by kernel_rfl) (guard_of rfl (by kernel_rfl) (by kernel_rfl) hj) (Ev.out (by kernel_rfl) rfl))
        · exact flow_gd (ma) (.bool (!fo)) 1 true (.bool (ma)) rfl (by kernel_rfl) rfl gu_t rfl (fun hg hF hj => v_not rfl hF (by kernel_rfl) (guard_of rfl (by kernel_rfl) (by kernel_rfl) hj) (Ev.at (i := 2) (by kernel_rfl) (by kernel_rfl) (fe rfl (gd_t hg))))
        · exact flow_gd (ma) (.bool (!fo)) 1 true (.bool (ma)) rfl (by kernel_rfl) rfl gu_t rfl (fun hg hF hj => v_move (.inl rfl) hF (by kernel_rfl) (guard_of rfl (by kernel_rfl) (by kernel_rfl) hj) (Ev.at (i := 3) (by kernel_rfl) (by kernel_rfl) (fe rfl (gd_t hg))))
        · exact flow_gd ((ma) && (!(!fo))) (.agg (oc ox.1)) 4 false (gd (ma) (.bool (!fo))) rfl (by kernel_rfl) rfl gu_gf rfl (fun hg hF hj => v_load (u := .pointer (some (⟨g7, 0, none⟩ : Addr))) (c := .agg (oc ox.1)) rfl (fun w hB => ldp_op (OpIn.keep HG7.out hB)) hF (by kernel_rfl) (guard_of rfl (by kernel_rfl) (by kernel_rfl) hj) (Ev.out (by kernel_rfl) rfl))
        · exact flow_gd ((ma) && (!(!fo))) (.agg (oc fx.1)) 4 false (gd (ma) (.bool (!fo))) rfl (by kernel_rfl) rfl gu_gf rfl (fun hg hF hj => v_load (u := .pointer (some (⟨w.heap.size + 1, 0, none⟩ : Addr))) (c := .agg (oc fx.1)) rfl (fun w hB => ldp_op (OpIn.keep HF4.out hB)) hF (by kernel_rfl) (guard_of rfl (by kernel_rfl) (by kernel_rfl) hj) (Ev.out (by kernel_rfl) rfl))
        · exact flow_gd ((ma) && (!(!fo))) (.int .i64 (cmpM ox fx)) 4 false (gd (ma) (.bool (!fo))) rfl (by kernel_rfl) rfl gu_gf rfl (fun hg hF hj => v_call (vs := #[.agg (oc ox.1), .agg (oc fx.1)]) (c := .int .i64 (cmpM ox fx)) rfl (fun args w => rfl) (fun w hB => order_Compare ox fx w) hF (by kernel_rfl) (guard_of rfl (by kernel_rfl) (by kernel_rfl) hj) (ev2 (Ev.at (i := 5) (by kernel_rfl) (by kernel_rfl) (fe rfl (gd_t hg))) (Ev.at (i := 6) (by kernel_rfl) (by kernel_rfl) (fe rfl (gd_t hg)))))
        · exact flow_gd ((ma) && (!(!fo))) (.bool (decide ((cmpM ox fx) < (0)))) 4 false (gd (ma) (.bool (!fo))) rfl (by kernel_rfl) rfl gu_gf rfl (fun hg hF hj => v_bin (u := .int .i64 (cmpM ox fx)) (v := .int .i64 (0)) (c := .bool (decide ((cmpM ox fx) < (0)))) rfl (fun w => (by go_simp)) hF (by kernel_rfl) (guard_of rfl (by kernel_rfl) (by kernel_rfl) hj) (Ev.at (i := 7) (by kernel_rfl) (by kernel_rfl) (fe rfl (gd_t hg))) Ev.const)
        · exact flow_gd (ma) (.bool ((!fo) || (decide ((cmpM ox fx) < (0))))) 1 true (.bool (ma)) rfl (by kernel_rfl) rfl gu_t rfl (fun hg hF hj => v_or (p := !fo) (q := decide ((cmpM ox fx) < (0))) rfl hF (by kernel_rfl) (guard_of rfl (by kernel_rfl) (by kernel_rfl) hj) (Ev.at (i := 4) (by kernel_rfl) (by kernel_rfl) (fe rfl (gd_t hg))) (fun hp => (Ev.at (i := 8) (by kernel_rfl) (by kernel_rfl) (fe rfl (gd_t (and_tt hg (not_t hp)))))))
        · exact v_and (p := ma) (q := (!fo) || (decide ((cmpM ox fx) < (0)))) rfl rfl (by kernel_rfl) True.intro (Ev.at (i := 1) (by kernel_rfl) (by kernel_rfl) rfl) (fun hp => (Ev.at (i := 9) (by kernel_rfl) (by kernel_rfl) (fe rfl (gd_t hp))))
      intro _ vs w8 hB8 hf
      have e0 : vs 0 = .bool (ma) := hf 0 (by decide)
      have e1 : vs 1 = .bool (ma) := hf 1 (by decide)
      have e2 : vs 2 = gd (ma) (.bool (fo)) := hf 2 (by decide)
      have e3 : vs 3 = gd (ma) (.bool (!fo)) := hf 3 (by decide)
      have e4 : vs 4 = gd (ma) (.bool (!fo)) := hf 4 (by decide)
      have e5 : vs 5 = gd ((ma) && (!(!fo))) (.agg (oc ox.1)) := hf 5 (by decide)
      have e6 : vs 6 = gd ((ma) && (!(!fo))) (.agg (oc fx.1)) := hf 6 (by decide)
      have e7 : vs 7 = gd ((ma) && (!(!fo))) (.int .i64 (cmpM ox fx)) := hf 7 (by decide)
      have e8 : vs 8 = gd ((ma) && (!(!fo))) (.bool (decide ((cmpM ox fx) < (0)))) := hf 8 (by decide)
      have e9 : vs 9 = gd (ma) (.bool ((!fo) || (decide ((cmpM ox fx) < (0))))) := hf 9 (by decide)
      have e10 : vs 10 = .bool ((ma) && ((!fo) || (decide ((cmpM ox fx) < (0))))) := hf 10 (by decide)
      obtain ⟨q, hq⟩ : ∃ z : Bool, ((ma) && ((!fo) || (decide ((cmpM ox fx) < (0))))) = z := ⟨_, rfl⟩
      rw [hq] at e10
      have HQ := hid hq
      clear hq
      simp only [fill, List.setIfInBounds_toArray, List.set_cons_zero, List.set_cons_succ, e0, e1, e2, e3, e4, e5, e6, e7, e8, e9, e10]
      clear e0 e1 e2 e3 e4 e5 e6 e7 e8 e9 e10
      clear hf
      have HSU := hid (upTo_succ h c k)
      have HL8 := hid (And.intro hB8 (below_next HBL7.out hB8))
      have hq := HQ.out
      clear hB8
      cases q
      · have HE := hid (show upTo h c (k + 1) = upTo h c k by
          rw [HSU.out]
          unfold stepU
          rw [HOX.out.2.1] at hq
          cases e : nextOfM h c k with
          | none => rfl
          | some o =>
            rw [e] at hq
            simp only [Option.isSome_some, Bool.true_and, Bool.or_eq_false_iff, Bool.not_eq_false', decide_eq_false_iff_not] at hq
            have hox : ox = o := by rw [HOX.out.1, e]; rfl
            rw [HST.out.1] at hq
            obtain ⟨z, hz⟩ := Option.isSome_iff_exists.1 hq.1
            have hfx : fx = z := by rw [HST.out.2, hz]; rfl
            simp only
            rw [hz]
            rw [if_neg]
            have h2 := hq.2
            rw [hox, hfx, cmpM_neg] at h2
            simpa [winsB] using h2)
        clear hq
        go_wp2
        go_roundw
        case rel =>
          exact ⟨k + 1, fo, fx, by omega, by go_num, rfl, hid (by rw [HE.out]; exact HST.out), hid (HA4.out.keep HL8.out.1), hid (HZ7.out.keep HL8.out.1), hid HL8.out.2⟩
        case measure => exact meas1 hlt
      · have HE := hid (show upTo h c (k + 1) = some ox by
          rw [HSU.out]
          unfold stepU
          simp only [Bool.and_eq_true, Bool.or_eq_true, Bool.not_eq_true', decide_eq_true_eq] at hq
          rw [HOX.out.2.1] at hq
          obtain ⟨o, ho⟩ := Option.isSome_iff_exists.1 hq.1
          have hox : ox = o := by rw [HOX.out.1, ho]; rfl
          rw [ho]
          simp only
          rw [if_pos, hox]
          have h2 := hq.2
          rw [HST.out.1] at h2
          cases e : upTo h c k with
          | none => rfl
          | some z =>
            rw [e] at h2
            have hfx : fx = z := by rw [HST.out.2, e]; rfl
            rw [hox, hfx, cmpM_neg] at h2
            simpa [winsB] using h2)
        have HA8 := hid (HA4.out.keep HL8.out.1)
        have HG8 := hid (HG7.out.keep HL8.out.1)
        clear hq
        go_wp2_with (first
          | (refine load_opIn _ rfl rfl ⟨g7, 0, none⟩ rfl ox.1 HG8.out ?_)
          | (refine wpList_store_row rfl _ _ _ rfl (w.heap.size + 1) (oc ox.1) rfl rfl 50 (oc fx.1) HA8.out (opSize _) rfl (oneO _ HOX.out.2.2) ?_))
        go_roundw
        case rel =>
          exact ⟨k + 1, true, ox, by omega, by go_num, rfl, hid (by rw [HE.out]; exact ⟨rfl, rfl⟩), hid (setRow_heap _ _ _ _ _ _ HA8.out), hid (row_ne (HZ7.out.keep HL8.out.1) (by omega)), hid (Below.setRow HL8.out.2 (by omega) _)⟩
        case measure => exact meas1 hlt
    · obtain rfl : k = n := by omega
      have HST2 := hid (show fo = (nextM h c).isSome ∧ fx = (nextM h c).getD zeroY by rw [← HU.out]; exact HST.out)
      have hone : fx.1.lv.oneCell' = true := by
        rw [HST2.out.2]
        cases e : nextM h c with
        | none => rfl
        | some y => exact HB.out.one y (next_some e).1
      have HFI := hid (show OpIn wr ⟨w.heap.size + 1, 0, none⟩ fx.1 from fun k hk => by rw [add8]; exact HF.out.cell k)
      go_wp2_with (first
        | (refine load_opIn _ rfl rfl ⟨w.heap.size + 1, 0, none⟩ rfl fx.1 HFI.out ?_)
        | (refine wpList_store_row rfl _ _ _ rfl w.heap.size (oc fx.1) rfl rfl 50 (oc zeroO) HZ.out (opSize _) rfl (oneO _ hone) ?_))
      (try simp only [Exit.inBlock, Exit.then])
      refine bodyPost_ret (results_op_bool rfl _ _ _ fx.1 _ rfl rfl (setRow_heap _ _ _ _ _ _ HZ.out)) rfl ?_
      rw [HST2.out.1, HST2.out.2]
      exact ⟨rfl, Below.setRow HBL.out (Nat.le_refl _) _⟩
end Go.Proofs.YtfnmekmgjcjglaaDoor.V
