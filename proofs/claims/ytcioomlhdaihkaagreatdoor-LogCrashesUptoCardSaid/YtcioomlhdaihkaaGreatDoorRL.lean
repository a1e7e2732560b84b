/-
  Contract of package record: Scan.
-/
import Derived.Test.YtcioomlhdaihkaaGreatDoorWR3
import Derived.Test.YtcioomlhdaihkaaGreatDoorKR
namespace Go.Proofs.YtcioomlhdaihkaaGreatDoor.Q
set_option linter.unusedVariables false
set_option linter.unusedSimpArgs false
set_option maxRecDepth 100000
open Go Go.RowKit Wire
set_option maxRecDepth 100000
set_option linter.unusedVariables false
set_option linter.unusedSimpArgs false
attribute [local go_sem] Oper.semAt_some

theorem base_ev {ops : Array Oper} {a0 a : Go.Act} (hb : R.BaseA ops a0 a) {t : Nat} {v : Value} (hs : R.writes ops t = false) (h0 : a0.tmps.getD t undef = v) : a.eval (.tmp t) = v := by
  show a.tmps.getD t undef = _
  rw [← h0, Array.getD_eq_getD_getElem?, Array.getD_eq_getD_getElem?, hb.rest t (R.writes_ne hs)]
def lastEnd (pre : List (Bs × Nat)) : Nat := (pre.getLast?.map Prod.snd).getD 0
theorem lastEnd_snoc (pre : List (Bs × Nat)) (x : Bs × Nat) : lastEnd (pre ++ [x]) = x.2 := by simp [lastEnd]
theorem lastEnd_pairs (l : List Bs) : lastEnd (pairs l) = (rowB l).length := by
  by_cases h : l = []
  · subst h; rfl
  · have hl : 0 < l.length := by cases l with | nil => exact absurd rfl h | cons => simp
    obtain ⟨x, hx⟩ : ∃ x, l[l.length - 1]? = some x := ⟨_, List.getElem?_eq_getElem (by omega)⟩
    unfold lastEnd
    rw [List.getLast?_eq_getElem?, pairs_length, pairs_at hx, show l.length - 1 + 1 = l.length by omega, List.take_length]
    rfl
/-- A store of what is there. -/
theorem store_same {W V : World} {n b : Nat} {v : Value} {t : TypeId} (hb : W.heap[b]? = some (.cells #[v] t (0, 0))) (hlt : b < n) (h : Below n W V) : Below n W (V.setCell ⟨b, 0, none⟩ v) := by
  have hV : V.heap[b]? = some (.cells #[v] t (0, 0)) := (h.block b hlt).trans hb
  refine h.trans ⟨rfl, rfl, rfl, by simp [World.setCell], fun k hk => ?_⟩
  by_cases e : k = b
  · subst e
    rw [heap_setCell_same _ _ _ _ _ _ hV, hV]
    rfl
  · exact Below.heap_setCell _ _ _ _ e
theorem boxed_own (b : Nat) (t : TypeId) (g : List (Bs × Nat) → Value) : Own (fun pre W => Boxed W b t (g pre)) := by
  rintro s X Y row hv hg hrow
  refine hv.kept hg (fun e' => ?_)
  obtain ⟨o, ho, hc⟩ := hrow b e'.symm
  rw [show X.heap[b]? = _ from hv] at ho; cases ho; cases hc

theorem ownsRow_mono {w : World} {B B' : Nat} {e : TypeId} {size : Nat} {v : Value} {n : Nat} {xs : List Value} (h : w.ownsRow B e size v n xs) (hB : B' ≤ B) : w.ownsRow B' e size v n xs := by
  refine ⟨h.1, ?_⟩
  rcases h.2 with hn | ⟨g', cap, cur, rfl, hB', rest⟩
  · exact .inl hn
  · exact .inr ⟨g', cap, cur, rfl, by omega, rest⟩

/-- What a slice lies in is new. -/
def NewS (B : Nat) (w : World) (v : Value) : Prop := ∀ a len cap, v = .slice (some a) len cap → B ≤ a.block ∧ ∃ c t f, w.heap[a.block]? = some (.cells c t f)
set_option maxHeartbeats 4000000 in
theorem record_Scan (s : Bs) (l : List Bs) (rest : Bs) (hsc : IsScan s l rest) (hs : s.length ≤ 900000) (w : World) :
    Calls Tryz.prog 94 #[.string (ba s)] w fun e w' => ∃ v, e = .returned (.tuple #[v, .int .i64 ((rowB l).length : Nat), .int .u8 (stB rest : Nat)]) ∧ SV w' v l ∧ NewS w.heap.size w' v ∧ Below w.heap.size w w' := by
  have HSC := hid hsc
  have hss : (ba s).size = s.length := ba_size s
  have hll : l.length ≤ 900000 := by have := row_count l; have := scan_len hsc; omega
  have hrl : rest.length ≤ 900000 := by have := scan_len hsc; omega
  obtain ⟨i0, hi, hz0, hz1, hz2⟩ := info_parts str_info
  clear hsc
  refine (callsIn_wide (n := 5)).1 ?_
  refine callsIn_of_wp_marks Tryz.func94 rfl trivial ?_ rfl
  simp only [Tryz.ntmps94, List.size_toArray, List.length_cons, List.length_nil, Nat.reduceAdd, Nat.reduceSub, Array.replicate_succ, Array.replicate_zero, List.push_toArray, List.append_toArray, List.nil_append, List.cons_append]
  gi_wp2_with (refine ⟨trivial, (callsIn_wide.2 (record_records s _)).mono ?_⟩; rintro e w' ⟨rfl, rfl⟩)
  have q0 : Boxed (w.alloc (.cells #[.slice none 0 0] 36)) w.heap.size 36 (.slice none 0 0) := Boxed.new _ _ _
  have q1 : Boxed ((w.alloc (.cells #[.slice none 0 0] 36)).alloc (.cells #[.int .i64 0] 3)) (w.heap.size + 1) 3 (.int .i64 0) := by have := Boxed.new (w.alloc (.cells #[.slice none 0 0] 36)) 3 (.int .i64 0); rwa [World.size_alloc] at this
  have q2 : Boxed (((w.alloc (.cells #[.slice none 0 0] 36)).alloc (.cells #[.int .i64 0] 3)).alloc (.cells #[.string (ba s)] 9)) (w.heap.size + 2) 9 (.string (ba s)) := by have := Boxed.new ((w.alloc (.cells #[.slice none 0 0] 36)).alloc (.cells #[.int .i64 0] 3)) 9 (.string (ba s)); rwa [World.size_alloc, World.size_alloc] at this
  have hB0 : Below w.heap.size w (((w.alloc (.cells #[.slice none 0 0] 36)).alloc (.cells #[.int .i64 0] 3)).alloc (.cells #[.string (ba s)] 9)) := (((Below.refl _ w).alloc (Nat.le_refl _) _).alloc (by simp) _).alloc (by simp; omega) _
  have b0 := (q0.alloc (.cells #[.int .i64 0] 3)).alloc (.cells #[.string (ba s)] 9)
  have b1 := q1.alloc (.cells #[.string (ba s)] 9)
  have hsz : (((w.alloc (.cells #[.slice none 0 0] 36)).alloc (.cells #[.int .i64 0] 3)).alloc (.cells #[.string (ba s)] 9)).heap.size = w.heap.size + 3 := by simp
  obtain ⟨W0, hW0⟩ : ∃ W0, (((w.alloc (.cells #[.slice none 0 0] 36)).alloc (.cells #[.int .i64 0] 3)).alloc (.cells #[.string (ba s)] 9)) = W0 := ⟨_, rfl⟩
  rw [hW0] at b0 b1 q2 hB0 hsz ⊢
  clear hW0 q0 q1
  refine wpIn_rangeFunc_ownF rfl (by omega) (gf := 145) (lb := #[.pointer (some ⟨w.heap.size + 2, 0, none⟩)]) rfl trivial (enters_of Tryz.func145 (by kernel_rfl) rfl)
    (records_stops (5 - 1) (by omega) (w.heap.size + 2) s l rest HSC.out hs W0 q2) (fun h k cs t fr hx => k cs t fr (h cs t fr hx))
    (fun W j o o' hj ho hc _ cs t fr hx => by
      by_cases e : w.heap.size + 2 = j
      · subst e; rw [hx] at ho; cases ho; cases hc
      · exact (World.putObj_heap_other (by omega)).trans hx)
    (Below.refl _ _) (fun _ => rfl)
    (fun pre W => (∃ v, Boxed W w.heap.size 36 v ∧ W.ownsRow (w.heap.size + 3) 9 1 v pre.length (strCells (pre.map Prod.fst)) ∧ True) ∧ Boxed W (w.heap.size + 1) 3 (.int .i64 (lastEnd pre : Nat)) ∧ Below w.heap.size w W ∧ w.heap.size + 3 ≤ W.heap.size)
    (fun _ _ _ => False)
    (OwnFrom.and (Own.from (holdsRow_own (w.heap.size + 3) w.heap.size 36 9 1 (fun pre => pre.length) (fun pre : List (Bs × Nat) => strCells (pre.map Prod.fst)) (fun _ _ => True)) _) (OwnFrom.and (Own.from (boxed_own (w.heap.size + 1) 3 (fun pre => .int .i64 (lastEnd pre : Nat))) _) (OwnFrom.and (ownFrom_below (Nat.le_refl _) (by omega)) (fun _ _ _ _ h hg _ => Nat.le_trans h hg.size))))
    (fun _ _ _ _ _ hs _ _ => hs)
    ⟨⟨_, b0, World.ownsRow_nil _ _ _ _, trivial⟩, b1, hB0, by omega⟩
    (fun x => { tmps := #[.string (ba s), undef, .pointer (some ⟨w.heap.size, 0, none⟩), .pointer (some ⟨w.heap.size + 1, 0, none⟩), .int .u8 0, .string (ba x.1), .int .i64 (x.2 : Nat), .string (ba s), .func (.func 145) #[] #[.pointer (some ⟨w.heap.size + 2, 0, none⟩)], .string (ba x.1), .int .i64 (x.2 : Nat), undef, undef, undef, undef, undef, undef, undef, undef, undef, undef, undef], defers := [] })
    ?assign ?body ?done ?stop
  case assign =>
    rintro lp ⟨x, n⟩ W K hK
    unfold encP
    gi_wp2
    exact hK
  case body =>
    rintro lp pre ⟨x, n⟩ W ⟨⟨v, hv, hrow, _⟩, hn, hB, hW4⟩ hlt
    have hc := hv.cell
    have hd := hn.cell
    have hpl : pre.length ≤ 900000 := by omega
    have hW3 : w.heap.size + 1 < W.heap.size := hn.lt
    gi_wp2_with (gi_at_builtin; refine wpListIn_append_own _ rfl _ _ 36 rfl (w.heap.size + 3) 9 i0 (.string ⟨#[]⟩) 1 16 Tryz.underlying36 hi hz0 hz1 hz2 rfl (by decide) _ _ _ rfl (hrow.alloc _) ⟨W.heap.size, 0, none⟩ 1 1 [.string (ba x)] rfl rfl (cell_one_new _ _ _) (by intro u hu; simp at hu; subst hu; rfl) (by unfold maxLen; omega) (by omega) (by simp; omega) ?_; intro v' w1 hown' hgrow _; obtain ⟨g', cap', rfl⟩ := ownsRow_succ hown'; obtain ⟨hv1, hv2, hr2, hk2, hb2⟩ := hv.appended (n₀ := w.heap.size) (by decide) (ownsRow_mono hrow (by omega)) hB.size (Nat.le_refl _) (ownsRow_mono hown' (by omega)) hgrow; have hn1 : Boxed w1 (w.heap.size + 1) 3 (.int .i64 (lastEnd pre : Nat)) := (hn.alloc _).kept hgrow (hn.not_row (by decide) hrow); have hc1 := hv1.cell; have hf1 := hv1.frozen; have hn2 : Boxed (w1.setCell ⟨w.heap.size, 0, none⟩ (.slice (some ⟨g', 0, none⟩) (pre.length + 1) cap')) (w.heap.size + 1) 3 (.int .i64 (lastEnd pre : Nat)) := (Below.heap_setCell _ _ _ _ (by simp)).trans hn1; have hd2 := hn2.cell; have hg2 := hn2.frozen)
    have hr3 := hown'.kept (grownBy_setCell' w1 w.heap.size (.slice (some ⟨g', 0, none⟩) (pre.length + 1) cap')) (.inr (hv1.not_row (by decide) hown').symm)
    have hr4 := hr3.kept (grownBy_setCell' _ (w.heap.size + 1) (.int .i64 (n : Nat))) (.inr (hn2.not_row (by decide) hr3).symm)
    refine ⟨hk2.trans (KeepsOthers.setCell _ _ _), fun cs t fr hx => ?_, ⟨_, (Below.heap_setCell _ _ _ _ (by simp)).trans hv2, ?_⟩, ?_, (hB.trans hb2).setCell (p := ⟨w.heap.size + 1, 0, none⟩) (by simp) _, ?_⟩
    · rw [Below.heap_setCell _ _ _ _ (by simp), Below.heap_setCell _ _ _ _ (by simp)]
      refine (hgrow.block _ (by simp; omega) (fun e => ?_)).trans ((Below.heap_alloc _ _ _ (by omega)).trans hx)
      have := (hrow.lt _ e.symm).1
      omega
    · rw [List.map_append, List.length_append]
      rw [show strCells (pre.map Prod.fst ++ [(x, n)].map Prod.fst) = strCells (pre.map Prod.fst) ++ [.string (ba x)] from strCells_snoc _ _]
      exact hr4
    · have := hn2.set (.int .i64 (n : Nat))
      rw [lastEnd_snoc]
      exact this
    · have := hk2.size
      simp [World.setCell] at this ⊢
      omega
  case done =>
    rintro D ys W hD rfl ⟨⟨v, hv, hrow, _⟩, hn, hB, hW4⟩ hK
    rw [lastEnd_pairs] at hn
    rw [pairs_length, pairs_fst] at hrow
    have hsv : SV W v l := OutV.sv (B := w.heap.size + 3) hrow
    have hat : (rowB l).length ≤ s.length := by have := scan_len HSC.out; omega
    have hex : (ba s).extract (rowB l).length s.length = ba rest := by rw [ba_extract_from, scan_rest HSC.out]
    have hst := fun V => record_stateOf rest hrl HSC.out.stop V
    have hc := hv.cell
    have hd := hn.cell
    have hvlt := hv.lt
    have hnlt := hn.lt
    have hns : NewS w.heap.size W v := by
      intro a len cap e
      rcases hrow.2 with ⟨rfl, _⟩ | ⟨g', cap', cur, rfl, hB', hgg, _⟩
      · cases e
      · cases e
        exact ⟨by simp only; omega, _, _, _, hgg⟩
    have HNS := hid hns
    clear hns
    obtain ⟨q, cp, rfl⟩ := out_form hrow
    generalize hN : (rowB l).length = N at *
    generalize hS : stB rest = st at *
    gi_wp2
    refine wpIn_wide.2 ?_
    refine R.wp_chain [5, 6, 7] (fun _ _ V => Below W.heap.size W V)
      (fun i _ => [.slice q l.length cp, .int .i64 (N : Nat), .string (ba s), .int .i64 (N : Nat), .string (ba rest), .int .u8 (st : Nat), undef, undef, .int .u8 (st : Nat)].getD i undef) (fun _ => undef) 22 (by kernel_rfl) (by kernel_rfl) rfl (by kernel_rfl) (by kernel_rfl) ?_ ?_ ((Below.refl _ W).drew) ?_
    · simp only [R.HVs, R.HV]
      repeat' (first | trivial | refine And.intro ?_ ?_ | exact fun _ _ _ => rfl)
    · refine ⟨?_, ?_, ?_, ?_, ?_, ?_, ?_, ?_, ?_, trivial⟩
      · exact R.l_load _ _ (fun _ => ⟨w.heap.size, 0, none⟩) rfl (by kernel_rfl) rfl rfl Tryz.underlying36 rfl (R.ev_base (by kernel_rfl) rfl) (fun p u V _ _ hP => (Below.cell hP (p := ⟨w.heap.size, 0, none⟩) hvlt).trans hc)
      · exact R.l_load _ _ (fun _ => ⟨w.heap.size + 1, 0, none⟩) rfl (by kernel_rfl) rfl rfl Tryz.underlying3 rfl (R.ev_base (by kernel_rfl) rfl) (fun p u V _ _ hP => (Below.cell hP (p := ⟨w.heap.size + 1, 0, none⟩) hnlt).trans hd)
      · exact R.l_move _ (.inl rfl) (by kernel_rfl) rfl rfl (R.ev_base (by kernel_rfl) rfl)
      · exact R.l_load _ _ (fun _ => ⟨w.heap.size + 1, 0, none⟩) rfl (by kernel_rfl) rfl rfl Tryz.underlying3 rfl (R.ev_base (by kernel_rfl) rfl) (fun p u V _ _ hP => (Below.cell hP (p := ⟨w.heap.size + 1, 0, none⟩) hnlt).trans hd)
      · refine R.l_read (by kernel_rfl) rfl rfl (fun p u a V _ _ hb hn hP => ?_)
        have e1 : a.eval (.tmp 18) = .string (ba s) := (R.eval_at (i := 2) rfl).trans (hn 2 (by kernel_rfl))
        have e2 : a.eval (.tmp 19) = .int .i64 (N : Nat) := (R.eval_at (i := 3) rfl).trans (hn 3 (by kernel_rfl))
        have hsl : (Instr.sliceAt 9 (.string (ba s)) (some (.int .i64 (N : Nat))) none none).run Tryz.prog V = .ok (.string (ba rest)) V := by
          simp [Instr.sliceAt, Instr.slice, go_sem, hss, hat, hex]
        unfold execOp
        simp only [Option.map_some, Option.map_none, e1, e2, Sem.run_bind, hsl, Result.andThen_ok]
        rfl
      · refine R.l_call (p := 0) (by kernel_rfl) rfl (fun u a V hb hn hP => ?_)
        have e1 : a.eval (.tmp 20) = .string (ba rest) := (R.eval_at (i := 4) rfl).trans (hn 4 (by kernel_rfl))
        refine ⟨_, _, by unfold execOp; simp only [resolve, invoke, Sem.run_bind, Sem.run_pure, Result.andThen_ok, List.map_toArray, List.map_cons, List.map_nil, e1]; rfl, ?_⟩
        refine (hst V).mono ?_
        rintro e w' ⟨rfl, hb'⟩
        exact ⟨_, rfl, Below.trans hP (hb'.mono (Below.size hP)), rfl⟩
      · refine R.l_skip (p := 1) (by kernel_rfl) rfl (fun u a V hb hn hP => ?_)
        have e1 : a.eval (.tmp 2) = .pointer (some ⟨w.heap.size, 0, none⟩) := base_ev hb (by kernel_rfl) rfl
        have e2 : a.eval (.tmp 16) = .slice q l.length cp := (R.eval_at (i := 0) rfl).trans (hn 0 (by kernel_rfl))
        have c1 : V.cell? ⟨w.heap.size, 0, none⟩ = some (.slice q l.length cp) := (Below.cell hP (p := ⟨w.heap.size, 0, none⟩) hvlt).trans hc
        have f1 : V.frozen? ⟨w.heap.size, 0, none⟩ = false := (Below.frozen hP (p := ⟨w.heap.size, 0, none⟩) hvlt).trans hv.frozen
        refine ⟨V.setCell ⟨w.heap.size, 0, none⟩ (.slice q l.length cp), ?_, store_same hv hvlt hP, rfl⟩
        unfold execOp
        simp only [e1, e2]
        simp [go_sem, c1, f1]
      · refine R.l_skip (p := 2) (by kernel_rfl) rfl (fun u a V hb hn' hP => ?_)
        have e1 : a.eval (.tmp 3) = .pointer (some ⟨w.heap.size + 1, 0, none⟩) := base_ev hb (by kernel_rfl) rfl
        have e2 : a.eval (.tmp 17) = .int .i64 (N : Nat) := (R.eval_at (i := 1) rfl).trans (hn' 1 (by kernel_rfl))
        have c1 : V.cell? ⟨w.heap.size + 1, 0, none⟩ = some (.int .i64 (N : Nat)) := (Below.cell hP (p := ⟨w.heap.size + 1, 0, none⟩) hnlt).trans hd
        have f1 : V.frozen? ⟨w.heap.size + 1, 0, none⟩ = false := (Below.frozen hP (p := ⟨w.heap.size + 1, 0, none⟩) hnlt).trans hn.frozen
        refine ⟨V.setCell ⟨w.heap.size + 1, 0, none⟩ (.int .i64 (N : Nat)), ?_, store_same hn hnlt hP, rfl⟩
        unfold execOp
        simp only [e1, e2]
        simp [go_sem, c1, f1]
      · exact R.l_move _ (.inr rfl) (by kernel_rfl) rfl rfl (R.ev_at (i := 5) rfl (by kernel_rfl))
    · intro u V hP
      simp only [R.fill, List.getD_cons_zero, List.getD_cons_succ, List.setIfInBounds_toArray, List.set_cons_zero, List.set_cons_succ]
      simp only [Exit.then]
      go_at_K
      gi_wp2
      have hP' : Below W.heap.size W V := hP
      have hKV : V.heap[D]? = some (.deferred (some [])) := (hP'.block D (lt_of_some hK)).trans hK
      have x1 : V.cell? ⟨w.heap.size, 0, none⟩ = some (.slice q l.length cp) := (hP'.cell (p := ⟨w.heap.size, 0, none⟩) hvlt).trans hc
      have x2 : V.cell? ⟨w.heap.size + 1, 0, none⟩ = some (.int .i64 (N : Nat)) := (hP'.cell (p := ⟨w.heap.size + 1, 0, none⟩) hnlt).trans hd
      refine ⟨by simp, .inl ⟨_, _, rfl, run_takeDeferred hKV, ?_⟩⟩
      have y1 := cell_kept x1 (grownBy_putObj' _ D (.deferred none)) (fun r e => by cases e; exact ⟨_, hKV, rfl⟩)
      have y2 := cell_kept x2 (grownBy_putObj' _ D (.deferred none)) (fun r e => by cases e; exact ⟨_, hKV, rfl⟩)
      have hbp : Below w.heap.size V (V.putObj D (.deferred none)) := ⟨rfl, rfl, rfl, by simp [World.putObj], fun k hk => World.putObj_heap_other (by omega)⟩
      refine ⟨.tuple #[.slice q l.length cp, .int .i64 (N : Nat),   .int .u8 (st : Nat)], ?_, .slice q l.length cp, by rw [hN, hS], ?_, ?_, (hB.trans (hP'.mono hB.size)).trans hbp⟩
      · simp [results, Tryz.f94, go_sem, y1, y2]
      · obtain ⟨ad, len, cap, e, hI⟩ := hsv.keep hP'
        refine ⟨ad, len, cap, e, hI.hlen, hI.hle, hI.hmax, hI.hnil, fun i x hx => ?_⟩
        obtain ⟨a, ha, hca⟩ := hI.hcell i x hx
        exact ⟨a, ha, cell_kept hca (grownBy_putObj' _ D (.deferred none)) (fun r e => by cases e; exact ⟨_, hKV, rfl⟩)⟩
      · intro a len cap e
        obtain ⟨i1, c, t, f, i2⟩ := HNS.out a len cap e
        have i3 := (hP'.block _ (lt_of_some i2)).trans i2
        refine ⟨i1, c, t, f, (World.putObj_heap_other (fun e2 => ?_)).trans i3⟩
        rw [e2, hKV] at i3
        cases i3
  case stop =>
    rintro D c pre W _ _ h _
    exact h.elim
end Go.Proofs.YtcioomlhdaihkaaGreatDoor.Q
