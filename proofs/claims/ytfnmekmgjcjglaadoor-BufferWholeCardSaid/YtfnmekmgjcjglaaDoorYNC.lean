/-
  What waits, in the order; a copy; the closure that hands on.
-/
import Derived.Test.YtfnmekmgjcjglaaDoorYNB
import Derived.Test.YtfnmekmgjcjglaaDoorYZKL
import Derived.Test.YtfnmekmgjcjglaaDoorYMK
namespace Go.Proofs.YtfnmekmgjcjglaaDoor.V
set_option linter.unusedVariables false
set_option linter.unusedSimpArgs false
set_option maxRecDepth 100000
open Go Go.RowKit Go.Maps Wire
theorem SortOf.perm {l m s : List OC} (hn : (l.map dt).Nodup) (hp : m.Perm l) (h : SortOf m s) : SortOf l s := by
  have hn2 : (m.map dt).Nodup := ((hp.map dt).nodup_iff).2 hn
  exact ⟨h.inc, fun x => (h.of_nodup hn2 x).trans (hp.mem_iff.trans ⟨nodup_find hn, find_first⟩)⟩
theorem buffer_Waits {w : World} {p mb n : Nat} {h : Vec} {c : List OC} (b : BufAt w p mb n h c) (hl : c.length ≤ 100000) :
    Calls Tryd.prog 18 #[.pointer (some ⟨p, 0, none⟩)] w fun e w' => ∃ u s s', e = .returned u ∧ OpsV w' u s' ∧ SortOf c s ∧ s'.map core = s.map core ∧ Below w.heap.size w w' := by
  have HB := hid b
  have HL := hid hl
  have hnone := buffer_none b
  have hc9 := b.c9
  have hvc := values_call mb w
  clear b hl
  go_enter Tryd.func18, Tryd.ntmps18
  go_wp2_with (first
    | (go_at_call 25; refine hnone.mono ?_; clear hnone; rintro e w ⟨rfl, rfl⟩)
    | (go_at_call 36; refine hvc.mono ?_; clear hvc; rintro e w1 ⟨rfl, hw1⟩; have hsz1 : w1.heap.size = w.heap.size + 1 := (by rw [hw1]; simp); have HB1 := hid (show Below w.heap.size w w1 from (by rw [hw1]; exact below_al _ _)); have hcv := collect_values w.heap.size mb c w1 (by omega) (by rw [hw1]; exact (cell_of_heap (heap_alloc_last' _ _)).trans rfl) (HB.out.keep HB1.out).map HB.out.one HL.out; clear hw1 hsz1)
    | (go_at_call 35; refine hcv.mono ?_; clear hcv; rintro e w2 ⟨v, ss, rfl, hpm, hrow, hb2⟩; have HB2 := hid (below_next HB1.out hb2); have hos := order_Sort v ss w2 (OwnO.opsV (B := w1.heap.size) ⟨hrow, fun x hx => ⟨HB.out.oks x (hpm.mem_iff.1 hx), ((HB.out.keep HB2.out).lines x (hpm.mem_iff.1 hx)).any _⟩⟩) (by have := hpm.length_eq; have := HL.out; omega) (fun x hx => Nat.le_trans (HB.out.short x (hpm.mem_iff.1 hx)) (by omega)); have HPM := hid hpm; clear hpm hrow hb2)
    | (go_at_call 34; refine hos.mono ?_; clear hos; rintro e w3 ⟨u, s, s', rfl, ho, hso, hco, hb3⟩; have HR := hid (And.intro ho.opsV (And.intro (SortOf.perm HB.out.map.2.1 HPM.out hso) (And.intro hco (below_next HB2.out hb3)))); clear ho hso hco hb3))
  go_ret
  exact ⟨u, s, s', rfl, HR.out⟩
section
variable {c : Oper} {a : Act} {w : World}
end
theorem buffer_handing (p : Nat) (w : World) :
    Calls Tryd.prog 29 #[.pointer (some ⟨p, 0, none⟩)] w fun e w' => e = .returned (.func (.func 49) #[] #[.pointer (some ⟨w.heap.size, 0, none⟩)]) ∧ w' = w.alloc (.cells #[.pointer (some ⟨p, 0, none⟩)] 24) := by
  go_enter Tryd.func29, Tryd.ntmps29
  go_wp2
  go_ret
  exact ⟨rfl, rfl⟩
end Go.Proofs.YtfnmekmgjcjglaaDoor.V
namespace Go.Proofs.YtfnmekmgjcjglaaDoor.V
set_option linter.unusedVariables false
set_option linter.unusedSimpArgs false
set_option maxRecDepth 100000
open Go Go.RowKit Go.Maps Wire
section
variable {P : Program} {c : Oper} {a : Act} {w : World}
theorem x_delete {x y : Operand} {t k : Nat} (ho : c.op = .call { callee := .builtin .delete, args := #[x, y], argTypes := #[t, k] }) {u z : Value} (hx : a.eval x = u) (hy : a.eval y = z) {w' : World} (hr : (Builtin.delete_ #[t, k] c.type #[u, z]).run P w = .ok (.tuple #[]) w') : (execOp a.eval c).run P w = .ok (.value (.tuple #[])) w' := by
  simp [execOp, ho, resolve, invoke, builtin, hx, hy, hr, Result.andThen]
theorem x_mapput {x y z : Operand} {t : Nat} (ho : c.op = .mapUpdate t x y z) {u v s : Value} (hx : a.eval x = u) (hy : a.eval y = v) (hz : a.eval z = s) {w' : World} (hr : (Instr.mapUpdate t u v s).run P w = .ok () w') : (execOp a.eval c).run P w = .ok .skip w' := by
  unfold execOp
  simp only [ho, hx, hy, hz, Sem.run_bind, hr, Result.andThen_ok, Sem.run_pure]
theorem x_storeU {x y : Operand} (ho : c.op = .store 28 x y) {g i : Nat} {cs : Array Value} {t : TypeId} {k : Nat} (hx : a.eval x = .pointer (some ⟨g, i, none⟩)) (hy : a.eval y = .int .u32 (k : Int)) (hg : w.heap[g]? = some (.cells cs t (0, 0))) {v : Value} (hc : cs[i]? = some v) : (execOp a.eval c).run Tryd.prog w = .ok .skip (w.setCell ⟨g, i, none⟩ (.int .u32 (k : Int))) := by
  have h1 : w.cell? ⟨g, i, none⟩ = some v := by rw [cell_of_heap hg]; exact hc
  have h2 := freeV hg i
  unfold execOp
  simp only [ho, hx, hy]
  go_simp
end
theorem idx_vecp (p r : Nat) (hr : r < 8) (w : World) : (Instr.indexAt 30 (.pointer (some ⟨p, 1, none⟩)) (.int .u8 (r : Int))).run Tryd.prog w = .ok (.pointer (some ⟨p, 1 + r, none⟩)) w := by
  match r, hr with
  | 0, _ => go_simp
  | 1, _ => go_simp
  | 2, _ => go_simp
  | 3, _ => go_simp
  | 4, _ => go_simp
  | 5, _ => go_simp
  | 6, _ => go_simp
  | 7, _ => go_simp
theorem buf_get (n : Nat) (h : Vec) (mb : Nat) {r : Nat} (hr : r < 8) : (bufC n h mb)[1 + r]? = some (.int .u32 (h r : Int)) := by
  match r, hr with
  | 0, _ => rfl
  | 1, _ => rfl
  | 2, _ => rfl
  | 3, _ => rfl
  | 4, _ => rfl
  | 5, _ => rfl
  | 6, _ => rfl
  | 7, _ => rfl
theorem buf_set (n : Nat) (h : Vec) (mb : Nat) {r : Nat} (hr : r < 8) (k : Nat) : (bufC n h mb).setIfInBounds (1 + r) (.int .u32 (k : Int)) = bufC n (upd h r k) mb := by
  match r, hr with
  | 0, _ => rfl
  | 1, _ => rfl
  | 2, _ => rfl
  | 3, _ => rfl
  | 4, _ => rfl
  | 5, _ => rfl
  | 6, _ => rfl
  | 7, _ => rfl
theorem BufP.rem {n : Nat} {h : Vec} {l : List OC} (b : BufP n h l) (d : Dot) : BufP n h (remM l d) :=
  ⟨b.n1, b.n8, b.okh, rem_nodup b.nodup _, fun y hy => b.ok y (mem_rem.1 hy).1, fun y hy => b.new y (mem_rem.1 hy).1⟩
theorem BufAt.ne_cells {w : World} {p mb n : Nat} {h : Vec} {c : List OC} (b : BufAt w p mb n h c) {g : Nat} {cs : Array Value} {t : TypeId} {fr : Nat × Nat} (ht : t ≠ 60) (hg : w.heap[g]? = some (.cells cs t fr)) : g ≠ p ∧ g ≠ mb := by
  refine ⟨fun e => ?_, fun e => ?_⟩
  · rw [e, b.obj] at hg
    cases hg
    exact ht rfl
  · obtain ⟨es, clock, hm⟩ := b.map.obj
    rw [e, hm] at hg
    cases hg
/-- A store into a cell of an operation. -/
theorem BufAt.setOp {w : World} {p mb n : Nat} {h : Vec} {c : List OC} (b : BufAt w p mb n h c) {g i : Nat} {o : OpM} (hg : OpAt w g o) (u : Value) : BufAt (w.setCell ⟨g, i, none⟩ u) p mb n h c := by
  obtain ⟨h1, h2⟩ := b.ne_cells (by decide) hg
  refine b.same ?_ ?_ (fun k cs hk => heap_n hk (fun e => ?_))
  · simp [World.setCell, Array.getElem?_modify, h1]
  · simp [World.setCell, Array.getElem?_modify, h2]
  · unfold OpAt at hg
    rw [e, hk] at hg
    cases hg
theorem BufAt.rowOp {w : World} {p mb n : Nat} {h : Vec} {c : List OC} (b : BufAt w p mb n h c) {g : Nat} {o : OpM} (hg : OpAt w g o) (R : Array Value) : BufAt (w.setRow g R) p mb n h c := by
  obtain ⟨h1, h2⟩ := b.ne_cells (by decide) hg
  refine b.same (row_ne rfl h1) (row_ne rfl h2) (fun k cs hk => row_ne hk (fun e => ?_))
  unfold OpAt at hg
  rw [e, hk] at hg
  cases hg
theorem Mov.setNew {p mb : Nat} {w w1 : World} (m : Mov p mb w w1) {g i : Nat} (hg : w.heap.size ≤ g) (u : Value) : Mov p mb w (w1.setCell ⟨g, i, none⟩ u) :=
  ⟨m.os, m.tape, m.output, by simpa [World.setCell] using m.size, fun k hk h1 h2 => by
    rw [← m.block k hk h1 h2]
    simp [World.setCell, Array.getElem?_modify, show g ≠ k by omega]⟩
theorem Mov.rowNew {p mb : Nat} {w w1 : World} (m : Mov p mb w w1) {g : Nat} (hg : w.heap.size ≤ g) (R : Array Value) : Mov p mb w (w1.setRow g R) :=
  ⟨m.os, m.tape, m.output, by simpa [World.setRow] using m.size, fun k hk h1 h2 => by
    rw [← m.block k hk h1 h2]
    exact row_ne rfl (by omega)⟩
/-- The closure's box. -/
abbrev BoxP (w : World) (q p : Nat) : Prop := w.heap[q]? = some (.cells #[.pointer (some ⟨p, 0, none⟩)] 24 (0, 0))
theorem BoxP.cell {w : World} {q p : Nat} (h : BoxP w q p) : w.cell? ⟨q, 0, none⟩ = some (.pointer (some ⟨p, 0, none⟩)) := (cell_of_heap h).trans rfl
theorem BufAt.dropped {w w' : World} {p mb n : Nat} {h : Vec} {c : List OC} (b : BufAt w p mb n h c) {d : Dot} (hm : MapAt w' mb (remM c d)) (ht : w.mapTurned w' mb) : BufAt w' p mb n h (remM c d) := by
  have m : Mov p mb w w' := Mov.turned ht
  refine ⟨(ht.grown.block _ b.ltp (fun e => b.ne (Option.some.inj e))).trans b.obj, hm, b.ok.rem d, fun x hx => Mov.claims b m (b.lines x (mem_rem.1 hx).1)⟩
theorem BufAt.counted {w : World} {p mb n : Nat} {h : Vec} {c c0 : List OC} (b : BufAt w p mb n h c) {x : OC} (hr : x.1.r < 8) (hok : BufP n (upX h x) c) : BufAt (w.setCell ⟨p, 1 + x.1.r, none⟩ (.int .u32 (x.1.n : Int))) p mb n (upX h x) c := by
  have m : Mov p mb w (w.setCell ⟨p, 1 + x.1.r, none⟩ (.int .u32 (x.1.n : Int))) := Mov.setCell
  refine ⟨?_, b.map.same (heap_n rfl b.ne), hok, fun y hy => Mov.claims b m (b.lines y hy)⟩
  rw [heap_s b.obj, buf_set n h mb hr]
  rfl
/-- What the closure answers. -/
def HandP (w : World) (p mb n : Nat) (h : Vec) (c : List OC) (e : Ending) (w' : World) : Prop :=
  (nextM h c = none → e = .returned (.tuple #[.agg (oc zeroO), .bool false]) ∧ Below w.heap.size w w') ∧
  (∀ x, nextM h c = some x → ∃ u, e = .returned (.tuple #[.agg (oc (setL x.1 u)), .bool true]) ∧ ClaimsB 0 w' u x.2 ∧ BufAt w' p mb n (upX h x) (remM c (dt x)) ∧ Mov p mb w w')
set_option maxHeartbeats 1000000 in
theorem handing_call {w : World} {p mb n : Nat} {h : Vec} {c : List OC} (b : BufAt w p mb n h c) (qq : Nat) (hq : BoxP w qq p) :
    Calls Tryd.prog 49 #[.pointer (some ⟨qq, 0, none⟩)] w fun e w' => HandP w p mb n h c e w' := by
  have hb0 := below_al w (.cells (oc zeroO) 50)
  have HB := hid (And.intro b hq)
  have HBB := hid (And.intro (b.keep hb0) (And.intro (heap_keep hq hb0) (And.intro (opAt_new w zeroO) hb0)))
  clear b hq hb0
  cases hnx : nextM h c with
  | none =>
    have HN := hid hnx
    clear hnx
    go_enter Tryd.func49, Tryd.ntmps49
    go_upto_region 1 with (fail)
    refine gen_code (fun W => BufAt W p mb n h c ∧ BoxP W qq p ∧ OpAt W w.heap.size zeroO ∧ Below w.heap.size w W) HBB.out ?_
    rintro W1 ⟨i1, i2, i3, i4⟩
    have hfi := buffer_first i1
    rw [HN.out] at hfi
    have hq1 := BoxP.cell i2
    have HZ := hid i3
    have HB0 := hid i4
    clear i1 i2 i3 i4
    go_upto_region 2 with (first
      | (go_at_call 50; refine hfi.mono ?_; clear hfi; rintro e w1 ⟨rfl, hb1⟩; have HB1 := hid hb1; clear hb1 hq1)
      | (refine wpList_store_row rfl _ _ _ rfl w1.heap.size (oc zeroO) rfl rfl 50 (oc zeroO) ?_ (opSize _) rfl (oneO _ rfl) ?_; (focus exact heap_alloc_last' _ _); rw [World.setRow_alloc_new]))
    have HZ2 := hid (heap_al (heap_keep HZ.out HB1.out) (.cells (oc zeroO) 50))
    have HL := hid (show Below w.heap.size w (w1.alloc (.cells (oc zeroO) 50)) from (below_next HB0.out HB1.out).alloc (below_next HB0.out HB1.out).size _)
    generalize w1.alloc (.cells (oc zeroO) 50) = w2 at HZ2 HL ⊢
    go_wp2_with (first
      | (refine wpList_store_row rfl _ _ _ rfl w.heap.size (oc zeroO) rfl rfl 50 (oc zeroO) HZ2.out (opSize _) rfl (oneO _ rfl) ?_))
    (try simp only [Exit.inBlock, Exit.then])
    refine bodyPost_ret (results_op_bool rfl _ _ _ zeroO _ rfl rfl (setRow_heap _ _ _ _ _ _ HZ2.out)) rfl ?_
    exact ⟨fun _ => ⟨rfl, Below.setRow HL.out (Nat.le_refl _) _⟩, fun x hx => (by rw [HN.out] at hx; cases hx)⟩
  | some x =>
    obtain ⟨x1, x2, x3⟩ := next_some hnx
    have HX := hid (show x ∈ c ∧ x.1.r < 8 ∧ mayB h x = true ∧ x.1.lv.oneCell' = true ∧ okO x.1 ∧ x.2.length ≤ 16 from ⟨x1, (HB.out.1.ok.name x1).1, x2, HB.out.1.one x x1, HB.out.1.oks x x1, HB.out.1.short x x1⟩)
    have HN := hid hnx
    clear x1 x2 x3 hnx
    go_enter Tryd.func49, Tryd.ntmps49
    go_upto_region 1 with (fail)
    refine gen_code (fun W => BufAt W p mb n h c ∧ BoxP W qq p ∧ OpAt W w.heap.size zeroO ∧ Below w.heap.size w W) HBB.out ?_
    rintro W1 ⟨i1, i2, i3, i4⟩
    have hfi := buffer_first i1
    rw [HN.out] at hfi
    have hq1 := BoxP.cell i2
    have HZ := hid i3
    have HB0 := hid i4
    clear i1 i2 i3 i4
    go_upto_region 4 with (first
      | (go_at_call 50; refine hfi.mono ?_; clear hfi; rintro e w1 ⟨rfl, hb1⟩; have HB1 := hid hb1; clear hb1 hq1)
      | (refine wpList_store_row rfl _ _ _ rfl w1.heap.size (oc x.1) rfl rfl 50 (oc zeroO) ?_ (opSize _) rfl (oneO _ HX.out.2.2.2.1) ?_; (focus exact heap_alloc_last' _ _); rw [World.setRow_alloc_new]))
    have hL1 := below_next HB0.out HB1.out
    have hL := hL1.alloc hL1.size (.cells (oc x.1) 50)
    have HL4 := hid hL
    have HW4 := hid (show BufAt (w1.alloc (.cells (oc x.1) 50)) p mb n h c ∧ BoxP (w1.alloc (.cells (oc x.1) 50)) qq p ∧ OpAt (w1.alloc (.cells (oc x.1) 50)) w1.heap.size x.1 ∧ OpAt (w1.alloc (.cells (oc x.1) 50)) w.heap.size zeroO ∧ w.heap.size < w1.heap.size from
      ⟨HB.out.1.keep hL, heap_keep HB.out.2 hL, opAt_new w1 x.1, heap_al (heap_keep HZ.out HB1.out) _, Nat.lt_of_lt_of_le HZ.out.lt HB1.out.size⟩)
    clear hL1 hL HB1
    generalize w1.alloc (.cells (oc x.1) 50) = W4 at HL4 HW4 ⊢
    generalize w1.heap.size = g3 at HW4 ⊢
    refine R.wp_chain [6] (fun q _ V => (match q with | 0 => V = W4.drew | _ => MapAt V mb (remM c (dt x)) ∧ W4.drew.mapTurned V mb)) (fun i u => [.pointer (some ⟨p, 0, none⟩), .pointer (some ⟨p, 0, none⟩), .pointer (some ⟨p, 9, none⟩), .map (some mb), .pointer (some ⟨g3, 0, none⟩), dv (dt x), undef].getD i undef) (fun _ => undef) 34 (by kernel_rfl) (by kernel_rfl) rfl (by kernel_rfl) (by kernel_rfl) ?_ ?_ rfl ?_
    · simp only [R.HVs, R.HV]
      repeat' (first | trivial | refine And.intro ?_ ?_ | exact fun _ _ _ => rfl)
    · refine ⟨?_, ?_, ?_, ?_, ?_, ?_, ?_, trivial⟩
      · exact R.l_read (by kernel_rfl) rfl rfl (fun q u a V hlo hhi hb hv hP => (by have hh : q ≤ 0 := hhi; match q, hh, hP with | 0, _, hP => obtain rfl : V = W4.drew := hP; exact x_load rfl (base_ev hb (by kernel_rfl) rfl) (by have h9 : W4.drew.cell? ⟨qq, 0, none⟩ = some (.pointer (some ⟨p, 0, none⟩)) := BoxP.cell HW4.out.2.1; go_simp)))
      · exact R.l_read (by kernel_rfl) rfl rfl (fun q u a V hlo hhi hb hv hP => x_nil rfl ((R.eval_at (i := 0) rfl).trans (hv 0 (by kernel_rfl))))
      · exact R.l_read (by kernel_rfl) rfl rfl (fun q u a V hlo hhi hb hv hP => x_faddr rfl ((R.eval_at (i := 1) rfl).trans (hv 1 (by kernel_rfl))) (by go_simp))
      · exact R.l_read (by kernel_rfl) rfl rfl (fun q u a V hlo hhi hb hv hP => (by have hh : q ≤ 0 := hhi; match q, hh, hP with | 0, _, hP => obtain rfl : V = W4.drew := hP; exact x_load rfl ((R.eval_at (i := 2) rfl).trans (hv 2 (by kernel_rfl))) (by have h9 : W4.drew.cell? ⟨p, 9, none⟩ = some (.map (some mb)) := HW4.out.1.c9; go_simp)))
      · exact R.l_read (by kernel_rfl) rfl rfl (fun q u a V hlo hhi hb hv hP => x_faddr rfl (base_ev hb (by kernel_rfl) rfl) (by go_simp))
      · exact R.l_read (by kernel_rfl) rfl rfl (fun q u a V hlo hhi hb hv hP => (by have hh : q ≤ 0 := hhi; match q, hh, hP with | 0, _, hP => obtain rfl : V = W4.drew := hP; exact x_load rfl ((R.eval_at (i := 4) rfl).trans (hv 4 (by kernel_rfl))) (ld_dot HW4.out.2.2.1.c0 HW4.out.2.2.1.c1)))
      · exact R.l_turn (p := 0) (by kernel_rfl) rfl _ (fun u a V hb hv hP => (by obtain rfl : V = W4.drew := hP; obtain ⟨w', hr, hm, ht⟩ := MapAt.drop (w := W4.drew) HW4.out.1.map HX.out.1 _; exact ⟨w', x_delete rfl ((R.eval_at (i := 3) rfl).trans (hv 3 (by kernel_rfl))) ((R.eval_at (i := 5) rfl).trans (hv 5 (by kernel_rfl))) hr, ⟨hm, ht⟩, rfl⟩))
    rintro _ W5 hW5
    simp only [R.fill, List.getD_cons_zero, List.getD_cons_succ, List.setIfInBounds_toArray, List.set_cons_zero, List.set_cons_succ]
    obtain ⟨hm5, ht5⟩ : MapAt W5 mb (remM c (dt x)) ∧ W4.drew.mapTurned W5 mb := hW5
    have hm0 : Mov p mb W4.drew W5 := Mov.turned ht5
    have hb5 : BufAt W5 p mb n h (remM c (dt x)) := BufAt.dropped (HW4.out.1.keep (below_dr W4)) hm5 ht5
    have hbd : BufAt W4.drew p mb n h c := HW4.out.1.keep (below_dr W4)
    have HW5 := hid (show BufAt W5 p mb n h (remM c (dt x)) ∧ BoxP W5 qq p ∧ OpAt W5 g3 x.1 ∧ OpAt W5 w.heap.size zeroO ∧ w.heap.size < g3 from
      ⟨hb5, Mov.typ hbd hm0 (by decide) HW4.out.2.1, Mov.typ hbd hm0 (by decide) HW4.out.2.2.1, Mov.typ hbd hm0 (by decide) HW4.out.2.2.2.1, HW4.out.2.2.2.2⟩)
    have HM5 := hid (show Mov p mb w W5 from (Mov.of HL4.out).trans ((Mov.of (below_dr W4)).trans hm0))
    clear hm0 hb5 hbd hm5 ht5 HL4 HW4
    (try simp only [Exit.inBlock, Exit.then])
    go_at_K
    go_upto_region 5 with (fail)
    refine R.wp_chain [10] (fun q _ V => (match q with | 0 => V = W5.drew | _ => V = W5.drew.setCell ⟨p, 1 + x.1.r, none⟩ (.int .u32 (x.1.n : Int)))) (fun i u => [.pointer (some ⟨p, 0, none⟩), .pointer (some ⟨g3, 0, none⟩), .pointer (some ⟨g3, 0, none⟩), .int .u8 (x.1.r : Int), .pointer (some ⟨g3, 0, none⟩), .pointer (some ⟨g3, 1, none⟩), .int .u32 (x.1.n : Int), .pointer (some ⟨p, 0, none⟩), .pointer (some ⟨p, 1, none⟩), .pointer (some ⟨p, (1 + x.1.r), none⟩), undef].getD i undef) (fun _ => undef) 34 (by kernel_rfl) (by kernel_rfl) rfl (by kernel_rfl) (by kernel_rfl) ?_ ?_ rfl ?_
    · simp only [R.HVs, R.HV]
      repeat' (first | trivial | refine And.intro ?_ ?_ | exact fun _ _ _ => rfl)
    · refine ⟨?_, ?_, ?_, ?_, ?_, ?_, ?_, ?_, ?_, ?_, ?_, trivial⟩
      · exact R.l_read (by kernel_rfl) rfl rfl (fun q u a V hlo hhi hb hv hP => (by have hh : q ≤ 0 := hhi; match q, hh, hP with | 0, _, hP => obtain rfl : V = W5.drew := hP; exact x_load rfl (base_ev hb (by kernel_rfl) rfl) (by have h9 : W5.drew.cell? ⟨qq, 0, none⟩ = some (.pointer (some ⟨p, 0, none⟩)) := BoxP.cell HW5.out.2.1; go_simp)))
      · exact R.l_read (by kernel_rfl) rfl rfl (fun q u a V hlo hhi hb hv hP => x_faddr rfl (base_ev hb (by kernel_rfl) rfl) (by go_simp))
      · exact R.l_read (by kernel_rfl) rfl rfl (fun q u a V hlo hhi hb hv hP => x_faddr rfl ((R.eval_at (i := 1) rfl).trans (hv 1 (by kernel_rfl))) (by go_simp))
      · exact R.l_read (by kernel_rfl) rfl rfl (fun q u a V hlo hhi hb hv hP => (by have hh : q ≤ 0 := hhi; match q, hh, hP with | 0, _, hP => obtain rfl : V = W5.drew := hP; exact x_load rfl ((R.eval_at (i := 2) rfl).trans (hv 2 (by kernel_rfl))) (by have h9 : W5.drew.cell? ⟨g3, 0, none⟩ = some (.int .u8 (x.1.r : Int)) := HW5.out.2.2.1.c0; go_simp)))
      · exact R.l_read (by kernel_rfl) rfl rfl (fun q u a V hlo hhi hb hv hP => x_faddr rfl (base_ev hb (by kernel_rfl) rfl) (by go_simp))
      · exact R.l_read (by kernel_rfl) rfl rfl (fun q u a V hlo hhi hb hv hP => x_faddr rfl ((R.eval_at (i := 4) rfl).trans (hv 4 (by kernel_rfl))) (by go_simp))
      · exact R.l_read (by kernel_rfl) rfl rfl (fun q u a V hlo hhi hb hv hP => (by have hh : q ≤ 0 := hhi; match q, hh, hP with | 0, _, hP => obtain rfl : V = W5.drew := hP; exact x_load rfl ((R.eval_at (i := 5) rfl).trans (hv 5 (by kernel_rfl))) (by have h9 : W5.drew.cell? ⟨g3, 1, none⟩ = some (.int .u32 (x.1.n : Int)) := HW5.out.2.2.1.c1; go_simp)))
      · exact R.l_read (by kernel_rfl) rfl rfl (fun q u a V hlo hhi hb hv hP => x_nil rfl ((R.eval_at (i := 0) rfl).trans (hv 0 (by kernel_rfl))))
      · exact R.l_read (by kernel_rfl) rfl rfl (fun q u a V hlo hhi hb hv hP => x_faddr rfl ((R.eval_at (i := 7) rfl).trans (hv 7 (by kernel_rfl))) (by go_simp))
      · exact R.l_read (by kernel_rfl) rfl rfl (fun q u a V hlo hhi hb hv hP => x_iaddr rfl ((R.eval_at (i := 8) rfl).trans (hv 8 (by kernel_rfl))) ((R.eval_at (i := 3) rfl).trans (hv 3 (by kernel_rfl))) (idx_vecp p x.1.r HX.out.2.1 _))
      · exact R.l_skip (p := 0) (by kernel_rfl) rfl (fun u a V hb hv hP => (by obtain rfl : V = W5.drew := hP; exact ⟨_, x_storeU (w := W5.drew) rfl ((R.eval_at (i := 9) rfl).trans (hv 9 (by kernel_rfl))) ((R.eval_at (i := 6) rfl).trans (hv 6 (by kernel_rfl))) HW5.out.1.obj (buf_get n h mb HX.out.2.1), rfl, rfl⟩))
    rintro _ W6 hW6
    simp only [R.fill, List.getD_cons_zero, List.getD_cons_succ, List.setIfInBounds_toArray, List.set_cons_zero, List.set_cons_succ]
    have hW6 : W6 = W5.drew.setCell ⟨p, 1 + x.1.r, none⟩ (.int .u32 (x.1.n : Int)) := hW6
    have hbd : BufAt W5.drew p mb n h (remM c (dt x)) := HW5.out.1.keep (below_dr W5)
    have hm6 : Mov p mb W5.drew W6 := by rw [hW6]; exact Mov.setCell
    have hb6 : BufAt W6 p mb n (upX h x) (remM c (dt x)) := by
      rw [hW6]
      exact BufAt.counted (c0 := c) hbd HX.out.2.1 (HB.out.1.ok.step HX.out.1 HX.out.2.2.2.2.1.n HX.out.2.2.1)
    have HW6 := hid (show BufAt W6 p mb n (upX h x) (remM c (dt x)) ∧ OpAt W6 g3 x.1 ∧ OpAt W6 w.heap.size zeroO ∧ w.heap.size < g3 from
      ⟨hb6, Mov.typ hbd hm6 (by decide) HW5.out.2.2.1, Mov.typ hbd hm6 (by decide) HW5.out.2.2.2.1, HW5.out.2.2.2.2⟩)
    have HM6 := hid (show Mov p mb w W6 from HM5.out.trans ((Mov.of (below_dr W5)).trans hm6))
    have HC6 := hid (show ClaimsB 0 W6 x.1.lv x.2 from Mov.claims HB.out.1 HM6.out (HB.out.1.lines x HX.out.1))
    clear hW6 hbd hm6 hb6 HM5 HW5
    have c28 := HW6.out.2.1.c28
    have hcall := lines_Clone x.1.lv x.2 W6 HC6.out.1 (by have := HX.out.2.2.2.2.2; omega)
    (try simp only [Exit.inBlock, Exit.then])
    go_at_K
    go_upto_region 7 with (first
      | (go_at_call 48; refine hcall.mono ?_; rintro e w7 ⟨u, rfl, hu, huB, hB7⟩; obtain ⟨ua, un, uc, rfl, hus⟩ := id hu; clear hus; have k28 := OpAt.c28 (HW6.out.2.1.keep hB7); have f28 := freeV (HW6.out.2.1.keep hB7) 28; have HU := hid (And.intro (huB 0) hB7); have hone := hu.oneCell; clear hu huB hB7 c28))
    refine gen_code (fun W2 => OpAt W2 g3 (setL x.1 (Value.slice ua un uc)) ∧ OpAt W2 w.heap.size zeroO ∧ ClaimsB 0 W2 (Value.slice ua un uc) x.2 ∧ BufAt W2 p mb n (upX h x) (remM c (dt x)) ∧ Mov p mb w W2) ?_ ?_
    · have hO7 := HW6.out.2.1.keep HU.out.2
      have hb7 := HW6.out.1.keep HU.out.2
      obtain ⟨hp, hm⟩ := hb7.ne_cells (by decide) hO7
      refine ⟨?_, heap_n (HW6.out.2.2.1.keep HU.out.2) (by have := HW6.out.2.2.2; omega), HU.out.1.typ (fun k hk => absurd hk (Nat.not_lt_zero k)) (fun k cs hk => heap_n hk (fun e => ?_)), hb7.setOp hO7 _, (HM6.out.trans (Mov.of HU.out.2)).setNew (by have := HW6.out.2.2.2; omega) _⟩
      · show (w7.setCell ⟨g3, 28, none⟩ (Value.slice ua un uc)).heap[g3]? = _
        rw [← setL_cells]
        exact heap_s hO7
      · unfold OpAt at hO7
        rw [e, hk] at hO7
        cases hO7
    rintro W2 ⟨h1, h2, h3, h4, h5⟩
    have HX2 := hid (And.intro h1 (And.intro h2 (And.intro h3 (And.intro h4 h5))))
    have hone2 := hone
    clear h1 h2 h3 h4 h5 HU HW6 HM6 k28 f28
    have HXI := hid (show OpIn W2 ⟨g3, 0, none⟩ (setL x.1 (Value.slice ua un uc)) from fun k hk => by rw [add8]; exact HX2.out.1.cell k)
    go_wp2_with (first
      | (refine load_opIn _ rfl rfl ⟨g3, 0, none⟩ rfl _ HXI.out ?_)
      | (refine wpList_store_row rfl _ _ _ rfl w.heap.size (oc (setL x.1 (Value.slice ua un uc))) rfl rfl 50 (oc zeroO) HX2.out.2.1 (opSize _) rfl (oneO _ hone2) ?_))
    (try simp only [Exit.inBlock, Exit.then])
    refine bodyPost_ret (results_op_bool rfl _ _ _ (setL x.1 (Value.slice ua un uc)) _ rfl rfl (setRow_heap _ _ _ _ _ _ HX2.out.2.1)) rfl ?_
    refine ⟨fun hx => (by rw [HN.out] at hx; cases hx), fun y hy => ?_⟩
    obtain rfl : x = y := by rw [HN.out] at hy; exact Option.some.inj hy
    refine ⟨_, rfl, ?_, HX2.out.2.2.2.1.rowOp HX2.out.2.1 _, HX2.out.2.2.2.2.rowNew (Nat.le_refl _) _⟩
    exact HX2.out.2.2.1.typ (fun k hk => absurd hk (Nat.not_lt_zero k)) (fun k cs hk => row_ne hk (fun e => by
        have hO := HX2.out.2.1
        unfold OpAt at hO
        rw [e, hk] at hO
        cases hO))
end Go.Proofs.YtfnmekmgjcjglaaDoor.V
namespace Go.Proofs.YtfnmekmgjcjglaaDoor.V
set_option linter.unusedVariables false
set_option linter.unusedSimpArgs false
set_option maxRecDepth 100000
open Go Go.RowKit Go.Maps Wire
theorem there_eq {n : Nat} {h : Vec} {c : List OC} (h1 : 1 ≤ n) (h8 : n ≤ 8) {x : OC} (hx : checkM x.1 x.2 n = 0) : thereB h c (dt x) = (decide (dt x ∈ c.map dt) || covB h (dt x)) := by
  obtain ⟨n1, n2, _⟩ := name_of (n := n) (by omega) (by omega) hx
  unfold thereB covB mayD
  congr 1
  · rw [Bool.eq_iff_iff]
    simp
  · have e1 : decide ((dt x).1 < 8) = true := decide_eq_true n1
    have e2 : decide ((dt x).2 ≠ 0) = true := decide_eq_true n2
    rw [e1, e2]
    rfl
theorem BufAt.added {w w' : World} {p mb n : Nat} {h : Vec} {c : List OC} (b : BufAt w p mb n h c) {x : OC} (hx : checkM x.1 x.2 n = 0) (ht : thereB h c (dt x) = false) (hl : ClaimsB 0 w x.1.lv x.2) (hm : MapAt w' mb (c ++ [x])) (htu : w.mapTurned w' mb) : BufAt w' p mb n h (c ++ [x]) := by
  have m : Mov p mb w w' := Mov.turned htu
  have hok := b.ok.admit1 hx
  unfold admit1 at hok
  rw [ht, if_neg (by decide)] at hok
  refine ⟨(htu.grown.block _ b.ltp (fun e => b.ne (Option.some.inj e))).trans b.obj, hm, hok, fun y hy => ?_⟩
  rcases List.mem_append.1 hy with hy | hy
  · exact Mov.claims b m (b.lines y hy)
  · rw [List.mem_singleton] at hy; subst hy; exact Mov.claims b m hl
set_option maxHeartbeats 1000000 in
theorem buffer_admit {w : World} {p mb n : Nat} {h : Vec} {c : List OC} (b : BufAt w p mb n h c) (x : OC) (hxo : okO x.1) (hxl : ClaimsV w x.1.lv x.2) (hx : checkM x.1 x.2 n = 0) (hl : c.length ≤ 100000) :
    Calls Tryd.prog 28 #[.pointer (some ⟨p, 0, none⟩), .agg (oc x.1)] w fun e w' => (∃ v, e = .returned v) ∧ ∃ c', BufAt w' p mb n h c' ∧ c'.map core = (admit1 h c x).map core ∧ Mov p mb w w' := by
  have HB := hid b
  have HW0 := hid (show BufAt (w.alloc (.cells (oc x.1) 50)) p mb n h c ∧ OpAt (w.alloc (.cells (oc x.1) 50)) w.heap.size x.1 ∧ ClaimsV (w.alloc (.cells (oc x.1) 50)) x.1.lv x.2 ∧ Below w.heap.size w (w.alloc (.cells (oc x.1) 50)) ∧ w.heap.size < (w.alloc (.cells (oc x.1) 50)).heap.size from ⟨b.keep (below_al _ _), opAt_new w x.1, hxl.keep (below_al _ _), below_al _ _, by simp⟩)
  have HX := hid (show (dt x).ok ∧ okO x.1 ∧ checkM x.1 x.2 n = 0 ∧ x.2.length ≤ 16 ∧ c.length ≤ 1000000 from ⟨⟨hxo.r, hxo.n⟩, hxo, hx, check_short (by have := b.ok.n1; omega) (by have := b.ok.n8; omega) hx, by omega⟩)
  have HTH := hid (there_eq (h := h) (c := c) b.ok.n1 b.ok.n8 hx)
  clear b hxo hxl hx hl
  go_enter Tryd.func28, Tryd.ntmps28
  go_upto_region 1 with (fail)
  have HW := hid (And.intro HW0.out.1 (And.intro HW0.out.2.1 (And.intro HW0.out.2.2.1 HW0.out.2.2.2)))
  clear HW0
  generalize w.alloc (.cells (oc x.1) 50) = W at HW ⊢
  obtain ⟨g3, hg3⟩ : ∃ g3, g3 = w.heap.size := ⟨_, rfl⟩
  rw [← hg3] at HW ⊢
  have HG3 := hid hg3
  obtain ⟨y, hy⟩ : ∃ y, y = atM c (dt x) := ⟨_, rfl⟩
  obtain ⟨iz, hz⟩ : ∃ iz, iz = decide (dt x ∈ c.map dt) := ⟨_, rfl⟩
  have hone : y.1.lv.oneCell' = true := by
    by_cases hm : dt x ∈ c.map dt
    · obtain ⟨z, hz, e⟩ := List.mem_map.1 hm
      rw [hy, ← e, at_of HB.out.map.2.1 hz]
      exact HB.out.one z hz
    · rw [hy, at_not hm]; rfl
  have HY := hid (And.intro hy.symm (And.intro hz.symm hone))
  rw [← hz] at HTH
  clear hy hz hone hg3
  refine R.wp_chain [10, 11] (fun q _ V => Below W.heap.size W V ∧ (match q with | 0 => V = W.drew | 1 => V = W.drew.alloc (.cells (oc zeroO) 50) | _ => V = (W.drew.alloc (.cells (oc zeroO) 50)).setRow W.heap.size (oc y.1))) (fun i u => [.pointer (some ⟨p, 0, none⟩), .pointer (some ⟨p, 0, none⟩), .pointer (some ⟨p, 9, none⟩), .map (some mb), .pointer (some ⟨g3, 0, none⟩), dv (dt x), .tuple #[.agg (oc y.1), .bool iz], .tuple #[.agg (oc y.1), .bool iz], .agg (oc y.1), .bool iz, .pointer (some ⟨W.heap.size, 0, none⟩), undef, .bool iz].getD i undef) (fun _ => undef) 37 (by kernel_rfl) (by kernel_rfl) rfl (by kernel_rfl) (by kernel_rfl) ?_ ?_ ⟨below_dr _, rfl⟩ ?_
  · simp only [R.HVs, R.HV]
    repeat' (first | trivial | refine And.intro ?_ ?_ | exact fun _ _ _ => rfl)
  · refine ⟨?_, ?_, ?_, ?_, ?_, ?_, ?_, ?_, ?_, ?_, ?_, ?_, ?_, trivial⟩
    · exact R.l_move _ (.inl rfl) (by kernel_rfl) rfl rfl (R.ev_base (by kernel_rfl) rfl)
    · exact R.l_read (by kernel_rfl) rfl rfl (fun q u a V hlo hhi hb hv hP => x_nil rfl ((R.eval_at (i := 0) rfl).trans (hv 0 (by kernel_rfl))))
    · exact R.l_read (by kernel_rfl) rfl rfl (fun q u a V hlo hhi hb hv hP => x_faddr rfl ((R.eval_at (i := 1) rfl).trans (hv 1 (by kernel_rfl))) (by go_simp))
    · exact R.l_read (by kernel_rfl) rfl rfl (fun q u a V hlo hhi hb hv hP => x_load rfl ((R.eval_at (i := 2) rfl).trans (hv 2 (by kernel_rfl))) (by have h9 := (HW.out.1.keep hP.1).c9; go_simp))
    · exact R.l_read (by kernel_rfl) rfl rfl (fun q u a V hlo hhi hb hv hP => x_faddr rfl (base_ev hb (by kernel_rfl) rfl) (by go_simp))
    · exact R.l_read (by kernel_rfl) rfl rfl (fun q u a V hlo hhi hb hv hP => x_load rfl ((R.eval_at (i := 4) rfl).trans (hv 4 (by kernel_rfl))) (ld_dot (HW.out.2.1.keep hP.1).c0 (HW.out.2.1.keep hP.1).c1))
    · exact R.l_read (by kernel_rfl) rfl rfl (fun q u a V hlo hhi hb hv hP => x_look rfl ((R.eval_at (i := 3) rfl).trans (hv 3 (by kernel_rfl))) ((R.eval_at (i := 5) rfl).trans (hv 5 (by kernel_rfl))) (by have h1 := (HW.out.1.keep hP.1).map.look HX.out.1; rw [HY.out.1, HY.out.2.1] at h1; exact h1))
    · exact R.l_move _ (.inl rfl) (by kernel_rfl) rfl rfl (R.ev_at (i := 6) rfl (by kernel_rfl))
    · exact R.l_read (by kernel_rfl) rfl rfl (fun q u a V hlo hhi hb hv hP => x_ext rfl ((R.eval_at (i := 7) rfl).trans (hv 7 (by kernel_rfl))) (by go_simp))
    · exact R.l_read (by kernel_rfl) rfl rfl (fun q u a V hlo hhi hb hv hP => x_ext rfl ((R.eval_at (i := 7) rfl).trans (hv 7 (by kernel_rfl))) (by go_simp))
    · exact R.l_turn (p := 0) (by kernel_rfl) rfl _ (fun u a V hb hv hP => (by obtain rfl : V = W.drew := hP.2; exact ⟨_, x_allocO rfl, ⟨(below_dr W).trans (below_al W.drew _), rfl⟩, rfl⟩))
    · exact R.l_skip (p := 1) (by kernel_rfl) rfl (fun u a V hb hv hP => (by obtain rfl : V = W.drew.alloc (.cells (oc zeroO) 50) := hP.2; exact ⟨_, run_store_op _ _ rfl W.heap.size ((R.eval_at (i := 10) rfl).trans (hv 10 (by kernel_rfl))) y.1 ((R.eval_at (i := 8) rfl).trans (hv 8 (by kernel_rfl))) zeroO (heap_alloc_last' _ _) HY.out.2.2, ⟨Below.setRow hP.1 (Nat.le_refl _) _, rfl⟩, rfl⟩))
    · exact R.l_move _ (.inr rfl) (by kernel_rfl) rfl rfl (R.ev_at (i := 9) rfl (by kernel_rfl))
  rintro _ W5 hW5
  simp only [R.fill, List.getD_cons_zero, List.getD_cons_succ, List.setIfInBounds_toArray, List.set_cons_zero, List.set_cons_succ]
  have HW5 := hid (show BufAt W5 p mb n h c ∧ OpAt W5 g3 x.1 ∧ ClaimsV W5 x.1.lv x.2 ∧ Below w.heap.size w W5 from ⟨HW.out.1.keep hW5.1, HW.out.2.1.keep hW5.1, HW.out.2.2.1.keep hW5.1, by have h1 := HW.out.2.2.2.1; rw [HG3.out] at h1; exact below_next h1 hW5.1⟩)
  have HXI5 := hid (show OpIn W5 ⟨g3, 0, none⟩ x.1 from fun k hk => by rw [add8]; exact HW5.out.2.1.cell k)
  clear hW5
  generalize W.heap.size = g4
  (try simp only [Exit.inBlock, Exit.then])
  go_at_K
  go_upto_region 2 with (fail)
  refine wp_flow (fun _ => none) (Fa.eq (.bool (iz)) :: Fa.eq (.bool (iz)) :: Fa.eq (gd (!(iz)) (.pointer (some ⟨p, 0, none⟩))) :: Fa.eq (gd (!(iz)) (.pointer (some ⟨p, 0, none⟩))) :: Fa.eq (gd (!(iz)) (.pointer (some ⟨p, 1, none⟩))) :: Fa.eq (gd (!(iz)) (.agg (vc h))) :: Fa.eq (gd (!(iz)) (.pointer (some (⟨g3, 0, none⟩ : Addr)))) :: Fa.eq (gd (!(iz)) (.agg (#[.int .u8 (x.1.r : Int), .int .u32 (x.1.n : Int)]))) :: Fa.eq (gd (!(iz)) (.bool (covB h (dt x)))) :: Fa.eq (.bool ((iz) || (covB h (dt x)))) :: []) 37 (by kernel_rfl) rfl (by kernel_rfl) rfl (by kernel_rfl) ?_ ?_ ?_
  · exact fits_plain _ _ rfl
  · refine ⟨?_, ?_, ?_, ?_, ?_, ?_, ?_, ?_, ?_, ?_, trivial⟩
    · exact v_move (.inl rfl) rfl (by kernel_rfl) True.intro (Ev.out (by kernel_rfl) rfl)
    · exact v_move (.inl rfl) rfl (by kernel_rfl) True.intro (Ev.at (i := 0) (by kernel_rfl) (by kernel_rfl) rfl)
    · exact flow_gd (!(iz)) (.pointer (some ⟨p, 0, none⟩)) 1 false (.bool (iz)) rfl (by kernel_rfl) rfl gu_f rfl (fun hg hF hj => v_move (.inl rfl) hF (by kernel_rfl) (guard_of rfl (by kernel_rfl) (by kernel_rfl) hj) (Ev.out (by kernel_rfl) rfl))
    · exact flow_gd (!(iz)) (.pointer (some ⟨p, 0, none⟩)) 1 false (.bool (iz)) rfl (by kernel_rfl) rfl gu_f rfl (fun hg hF hj => v_nil rfl hF (by kernel_rfl) (guard_of rfl (by kernel_rfl) (by kernel_rfl) hj) (Ev.at (i := 2) (by kernel_rfl) (by kernel_rfl) (fe rfl (gd_t hg))))
    · exact flow_gd (!(iz)) (.pointer (some ⟨p, 1, none⟩)) 1 false (.bool (iz)) rfl (by kernel_rfl) rfl gu_f rfl (fun hg hF hj => v_faddr (u := .pointer (some ⟨p, 0, none⟩)) (c := .pointer (some ⟨p, 1, none⟩)) rfl (fun w => (by go_simp)) hF (by kernel_rfl) (guard_of rfl (by kernel_rfl) (by kernel_rfl) hj) (Ev.at (i := 3) (by kernel_rfl) (by kernel_rfl) (fe rfl (gd_t hg))))
    · exact flow_gd (!(iz)) (.agg (vc h)) 1 false (.bool (iz)) rfl (by kernel_rfl) rfl gu_f rfl (fun hg hF hj => v_load (u := .pointer (some ⟨p, 1, none⟩)) (c := .agg (vc h)) rfl (fun w hB => ld_vec (BufAt.keep HW5.out.1 ((below_dr _).trans hB)).cv) hF (by kernel_rfl) (guard_of rfl (by kernel_rfl) (by kernel_rfl) hj) (Ev.at (i := 4) (by kernel_rfl) (by kernel_rfl) (fe rfl (gd_t hg))))
    · exact flow_gd (!(iz)) (.pointer (some (⟨g3, 0, none⟩ : Addr))) 1 false (.bool (iz)) rfl (by kernel_rfl) rfl gu_f rfl (fun hg hF hj => v_faddr (u := .pointer (some (⟨g3, 0, none⟩ : Addr))) (c := .pointer (some (⟨g3, 0, none⟩ : Addr))) rfl (fun w => (fld_op (⟨g3, 0, none⟩ : Addr) w).1) hF (by kernel_rfl) (guard_of rfl (by kernel_rfl) (by kernel_rfl) hj) (Ev.out (by kernel_rfl) rfl))
    · exact flow_gd (!(iz)) (.agg (#[.int .u8 (x.1.r : Int), .int .u32 (x.1.n : Int)])) 1 false (.bool (iz)) rfl (by kernel_rfl) rfl gu_f rfl (fun hg hF hj => v_load (u := .pointer (some (⟨g3, 0, none⟩ : Addr))) (c := .agg (#[.int .u8 (x.1.r : Int), .int .u32 (x.1.n : Int)])) rfl (fun w hB => ldp_dot (OpIn.keep (OpIn.dr HXI5.out) hB)) hF (by kernel_rfl) (guard_of rfl (by kernel_rfl) (by kernel_rfl) hj) (Ev.at (i := 6) (by kernel_rfl) (by kernel_rfl) (fe rfl (gd_t hg))))
    · exact flow_gd (!(iz)) (.bool (covB h (dt x))) 1 false (.bool (iz)) rfl (by kernel_rfl) rfl gu_f rfl (fun hg hF hj => v_call (vs := #[.agg (vc h), .agg (#[.int .u8 (x.1.r : Int), .int .u32 (x.1.n : Int)])]) (c := .bool (covB h (dt x))) rfl (fun args w => rfl) (fun w hB => vec_Covers h (dt x) w) hF (by kernel_rfl) (guard_of rfl (by kernel_rfl) (by kernel_rfl) hj) (ev2 (Ev.at (i := 5) (by kernel_rfl) (by kernel_rfl) (fe rfl (gd_t hg))) (Ev.at (i := 7) (by kernel_rfl) (by kernel_rfl) (fe rfl (gd_t hg)))))
    · exact v_or (p := iz) (q := covB h (dt x)) rfl rfl (by kernel_rfl) True.intro (Ev.at (i := 1) (by kernel_rfl) (by kernel_rfl) rfl) (fun hp => (Ev.at (i := 8) (by kernel_rfl) (by kernel_rfl) (fe rfl (gd_t (not_t hp)))))
  intro _ vs W6 hB6 hf
  have e0 : vs 0 = .bool (iz) := hf 0 (by decide)
  have e1 : vs 1 = .bool (iz) := hf 1 (by decide)
  have e2 : vs 2 = gd (!(iz)) (.pointer (some ⟨p, 0, none⟩)) := hf 2 (by decide)
  have e3 : vs 3 = gd (!(iz)) (.pointer (some ⟨p, 0, none⟩)) := hf 3 (by decide)
  have e4 : vs 4 = gd (!(iz)) (.pointer (some ⟨p, 1, none⟩)) := hf 4 (by decide)
  have e5 : vs 5 = gd (!(iz)) (.agg (vc h)) := hf 5 (by decide)
  have e6 : vs 6 = gd (!(iz)) (.pointer (some (⟨g3, 0, none⟩ : Addr))) := hf 6 (by decide)
  have e7 : vs 7 = gd (!(iz)) (.agg (#[.int .u8 (x.1.r : Int), .int .u32 (x.1.n : Int)])) := hf 7 (by decide)
  have e8 : vs 8 = gd (!(iz)) (.bool (covB h (dt x))) := hf 8 (by decide)
  have e9 : vs 9 = .bool ((iz) || (covB h (dt x))) := hf 9 (by decide)
  obtain ⟨q, hq⟩ : ∃ z : Bool, ((iz) || (covB h (dt x))) = z := ⟨_, rfl⟩
  rw [hq] at e9
  have HQ := hid hq
  clear hq
  simp only [fill, List.setIfInBounds_toArray, List.set_cons_zero, List.set_cons_succ, e0, e1, e2, e3, e4, e5, e6, e7, e8, e9]
  clear e0 e1 e2 e3 e4 e5 e6 e7 e8 e9
  clear hf
  rw [HQ.out] at HTH
  have HB6 := hid hB6
  clear hB6
  cases q
  · have HW6 := hid (show BufAt W6 p mb n h c ∧ OpAt W6 g3 x.1 ∧ ClaimsV W6 x.1.lv x.2 ∧ Below w.heap.size w W6 from ⟨HW5.out.1.keep HB6.out, HW5.out.2.1.keep HB6.out, HW5.out.2.2.1.keep HB6.out, below_next HW5.out.2.2.2 HB6.out⟩)
    have c28 := HW6.out.2.1.c28
    have hcall := lines_Clone x.1.lv x.2 W6 HW6.out.2.2.1 (by have := HX.out.2.2.2.1; omega)
    clear HW5 HXI5 HB6 HW
    go_upto_region 4 with (first
      | (go_at_call 48; refine hcall.mono ?_; rintro e w7 ⟨u8, rfl, hu, huB, hB7⟩; obtain ⟨ua, un, uc, rfl, hus⟩ := id hu; clear hus; have k28 := OpAt.c28 (HW6.out.2.1.keep hB7); have f28 := freeV (HW6.out.2.1.keep hB7) 28; have HU := hid (And.intro (huB 0) hB7); have hone := hu.oneCell; clear hu huB hB7 c28))
    obtain ⟨u8, hu8⟩ : ∃ u8, u8 = Value.slice ua un uc := ⟨_, rfl⟩
    have HU8 := hid hu8
    refine gen_code (fun W2 => BufAt W2 p mb n h c ∧ OpAt W2 g3 (setL x.1 u8) ∧ ClaimsB 0 W2 u8 x.2 ∧ Mov p mb w W2) ?_ ?_
    · have hO7 := HW6.out.2.1.keep HU.out.2
      have hb7 := HW6.out.1.keep HU.out.2
      rw [hu8]
      refine ⟨hb7.setOp hO7 _, ?_, HU.out.1.typ (fun k hk => absurd hk (Nat.not_lt_zero k)) (fun k cs hk => heap_n hk (fun e => ?_)), (Mov.of (below_next HW6.out.2.2.2 HU.out.2)).setNew (by have := HG3.out; omega) _⟩
      · show (w7.setCell ⟨g3, 28, none⟩ (Value.slice ua un uc)).heap[g3]? = _
        rw [← setL_cells]
        exact heap_s hO7
      · unfold OpAt at hO7
        rw [e, hk] at hO7
        cases hO7
    rintro W8 ⟨h1, h2, h3, h4⟩
    have HW8 := hid (And.intro h1 (And.intro h2 (And.intro h3 h4)))
    have HNW := hid (show dt ((setL x.1 u8, x.2) : OC) ∉ c.map dt from fun hm => by
      obtain ⟨z, hz, e⟩ := List.mem_map.1 hm
      exact (thereB_false.1 HTH.out).1 z hz e)
    clear h1 h2 h3 h4 HU HW6 k28 f28 hu8
    refine R.wp_chain [7] (fun q _ V => (match q with | 0 => V = W8.drew | _ => MapAt V mb (c ++ [(setL x.1 u8, x.2)]) ∧ W8.drew.mapTurned V mb)) (fun i u => [.pointer (some ⟨p, 0, none⟩), .pointer (some ⟨p, 0, none⟩), .pointer (some ⟨p, 9, none⟩), .map (some mb), .pointer (some ⟨g3, 0, none⟩), dv (dt x), .agg (oc (setL x.1 u8)), undef].getD i undef) (fun _ => undef) 37 (by kernel_rfl) (by kernel_rfl) rfl (by kernel_rfl) (by kernel_rfl) ?_ ?_ rfl ?_
    · simp only [R.HVs, R.HV]
      repeat' (first | trivial | refine And.intro ?_ ?_ | exact fun _ _ _ => rfl)
    · refine ⟨?_, ?_, ?_, ?_, ?_, ?_, ?_, ?_, trivial⟩
      · exact R.l_move _ (.inl rfl) (by kernel_rfl) rfl rfl (R.ev_base (by kernel_rfl) rfl)
      · exact R.l_read (by kernel_rfl) rfl rfl (fun q u a V hlo hhi hb hv hP => x_nil rfl ((R.eval_at (i := 0) rfl).trans (hv 0 (by kernel_rfl))))
      · exact R.l_read (by kernel_rfl) rfl rfl (fun q u a V hlo hhi hb hv hP => x_faddr rfl ((R.eval_at (i := 1) rfl).trans (hv 1 (by kernel_rfl))) (by go_simp))
      · exact R.l_read (by kernel_rfl) rfl rfl (fun q u a V hlo hhi hb hv hP => (by have hh : q ≤ 0 := hhi; match q, hh, hP with | 0, _, hP => obtain rfl : V = W8.drew := hP; exact x_load rfl ((R.eval_at (i := 2) rfl).trans (hv 2 (by kernel_rfl))) (by have h9 : W8.drew.cell? ⟨p, 9, none⟩ = some (.map (some mb)) := HW8.out.1.c9; go_simp)))
      · exact R.l_read (by kernel_rfl) rfl rfl (fun q u a V hlo hhi hb hv hP => x_faddr rfl (base_ev hb (by kernel_rfl) rfl) (by go_simp))
      · exact R.l_read (by kernel_rfl) rfl rfl (fun q u a V hlo hhi hb hv hP => (by have hh : q ≤ 0 := hhi; match q, hh, hP with | 0, _, hP => obtain rfl : V = W8.drew := hP; exact x_load rfl ((R.eval_at (i := 4) rfl).trans (hv 4 (by kernel_rfl))) (ld_dot HW8.out.2.1.c0 HW8.out.2.1.c1)))
      · exact R.l_read (by kernel_rfl) rfl rfl (fun q u a V hlo hhi hb hv hP => (by have hh : q ≤ 0 := hhi; match q, hh, hP with | 0, _, hP => obtain rfl : V = W8.drew := hP; exact x_load rfl (base_ev hb (by kernel_rfl) rfl) (by have hin : OpIn W8.drew ⟨g3, 0, none⟩ (setL x.1 u8) := (fun k hk => by rw [add8]; exact HW8.out.2.1.cell k); exact ldp_op hin)))
      · exact R.l_skip (p := 0) (by kernel_rfl) rfl (fun u a V hb hv hP => (by obtain rfl : V = W8.drew := hP; obtain ⟨w', hr, hm, ht⟩ := MapAt.store (w := W8.drew) (HW8.out.1.keep (below_dr W8)).map (x := (setL x.1 u8, x.2)) (ok_setL HX.out.2.1 u8) HNW.out HX.out.2.2.2.2; exact ⟨w', x_mapput rfl ((R.eval_at (i := 3) rfl).trans (hv 3 (by kernel_rfl))) ((R.eval_at (i := 5) rfl).trans (hv 5 (by kernel_rfl))) ((R.eval_at (i := 6) rfl).trans (hv 6 (by kernel_rfl))) hr, ⟨hm, ht⟩, rfl⟩))
    rintro _ W9 hW9
    simp only [R.fill, List.getD_cons_zero, List.getD_cons_succ, List.setIfInBounds_toArray, List.set_cons_zero, List.set_cons_succ]
    obtain ⟨hm9, ht9⟩ : MapAt W9 mb (c ++ [(setL x.1 u8, x.2)]) ∧ W8.drew.mapTurned W9 mb := hW9
    have hb9 := BufAt.added (x := (setL x.1 u8, x.2)) (HW8.out.1.keep (below_dr W8)) HX.out.2.2.1 HTH.out HW8.out.2.2.1 hm9 ht9
    have HR := hid (And.intro hb9 (HW8.out.2.2.2.trans ((Mov.of (below_dr W8)).trans (Mov.turned ht9))))
    clear hb9 hm9 ht9
    (try simp only [Exit.inBlock, Exit.then])
    go_at_K
    go_wp2
    first | go_end0 | ((try simp only [Exit.inBlock, Exit.then]); refine bodyPost_ret (results_none rfl _ _ _) rfl ?_)
    refine ⟨⟨_, rfl⟩, _, HR.out.1, ?_, HR.out.2⟩
    unfold admit1
    rw [HTH.out, if_neg (by decide), List.map_append, List.map_append]
    rfl
  · go_wp2
    first | go_end0 | ((try simp only [Exit.inBlock, Exit.then]); refine bodyPost_ret (results_none rfl _ _ _) rfl ?_)
    refine ⟨⟨_, rfl⟩, c, HW5.out.1.keep HB6.out, ?_, Mov.of (below_next HW5.out.2.2.2 HB6.out)⟩
    unfold admit1
    rw [HTH.out, if_pos rfl]
end Go.Proofs.YtfnmekmgjcjglaaDoor.V
