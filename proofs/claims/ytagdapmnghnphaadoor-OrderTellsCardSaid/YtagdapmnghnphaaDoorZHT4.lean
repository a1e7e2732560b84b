/-
  The document's Sort: the walk.
-/
import Derived.Test.YtagdapmnghnphaaDoorMO
namespace Go.Proofs.YtagdapmnghnphaaDoor.V
set_option linter.unusedVariables false
set_option linter.unusedSimpArgs false
set_option maxRecDepth 100000
open Go Go.RowKit Go.Maps Wire

theorem gtr_pos (k : Nat) (h : 0 < k) (x y : Operand) (w : World) : (do eqGuard .gtr 3 x y (.int .i64 (k : Int)) (.int .i64 0); binOp .gtr 3 (.int .i64 (k : Int)) (.int .i64 0) : Sem Value).run Tryd.prog w = .ok (.bool true) w := by
  have h9 : (0 : Int) < (k : Int) := by omega
  go_simp
theorem gtr_no (k : Nat) (h : ¬ 0 < k) (x y : Operand) (w : World) : (do eqGuard .gtr 3 x y (.int .i64 (k : Int)) (.int .i64 0); binOp .gtr 3 (.int .i64 (k : Int)) (.int .i64 0) : Sem Value).run Tryd.prog w = .ok (.bool false) w := by
  have h9 : decide ((0 : Int) < (k : Int)) = false := decide_eq_false (by omega)
  obtain rfl : k = 0 := by omega
  go_simp
theorem sub_one {k j : Nat} (hj : k = j + 1) (hk : k ≤ 9223372036854775800) (x y : Operand) (w : World) : (do eqGuard .sub 3 x y (.int .i64 (k : Int)) (.int .i64 1); binOp .sub 3 (.int .i64 (k : Int)) (.int .i64 1) : Sem Value).run Tryd.prog w = .ok (.int .i64 (j : Int)) w := by
  have h1 : wrap64 ((k : Int) - 1) = (j : Int) := by rw [w64 (by omega) (by omega)]; omega
  have h2 : IntKind.i64.wrap ((k : Int) - 1) = (j : Int) := by rw [i64w (by omega) (by omega)]; omega
  clear hj
  go_simp
section
variable {ops : Array Oper} {Q : Exit → Act → World → Prop} {Fv : Nat → Option Value} {M : Nat → (Nat → Value) → World → Prop} {a0 : Act} {k : Nat} {op : Oper}
theorem m_sl {x y : Operand} {t : Nat} {u z v : Value} (ho : op.op = .slice t x none (some y) none) (hF : Fv k = some v) (hd : op.dst.isSome = true) (hg : op.guard = none) (hM : ∀ d vals vals' w, (∀ i, i ≠ k → vals' i = vals i) → M d vals w → M (Nat.lor d (Nat.shiftLeft 1 k)) vals' w)
    (hr : ∀ w, (Instr.sliceAt t u none (some z) none).run Tryd.prog w = .ok v w) (h1 : EvM ops Fv a0 k op x u) (h2 : EvM ops Fv a0 k op y z) : StepM Tryd.prog ops Q Fv M a0 k op :=
  m_quiet hF hd hg hM fun d a w hb hcl hkp hk hneed hv _ => by
    unfold execOp
    simp only [ho, h1 d a hb hcl hkp hk hneed hv, h2 d a hb hcl hkp hk hneed hv, Option.map_some, Option.map_none, Sem.run_bind, hr, Result.andThen_ok, Sem.run_pure]
theorem m_slf {x y : Operand} {t : Nat} {u z v : Value} (ho : op.op = .slice t x (some y) none none) (hF : Fv k = some v) (hd : op.dst.isSome = true) (hg : op.guard = none) (hM : ∀ d vals vals' w, (∀ i, i ≠ k → vals' i = vals i) → M d vals w → M (Nat.lor d (Nat.shiftLeft 1 k)) vals' w)
    (hr : ∀ w, (Instr.sliceAt t u (some z) none none).run Tryd.prog w = .ok v w) (h1 : EvM ops Fv a0 k op x u) (h2 : EvM ops Fv a0 k op y z) : StepM Tryd.prog ops Q Fv M a0 k op :=
  m_quiet hF hd hg hM fun d a w hb hcl hkp hk hneed hv _ => by
    unfold execOp
    simp only [ho, h1 d a hb hcl hkp hk hneed hv, h2 d a hb hcl hkp hk hneed hv, Option.map_some, Option.map_none, Sem.run_bind, hr, Result.andThen_ok, Sem.run_pure]
theorem m_iaddr {x y : Operand} {t : Nat} {u z v : Value} (ho : op.op = .indexAddr t x y) (hF : Fv k = some v) (hd : op.dst.isSome = true) (hg : op.guard = none) (hM : ∀ d vals vals' w, (∀ i, i ≠ k → vals' i = vals i) → M d vals w → M (Nat.lor d (Nat.shiftLeft 1 k)) vals' w)
    (hr : ∀ w, (Instr.indexAt t u z).run Tryd.prog w = .ok v w) (h1 : EvM ops Fv a0 k op x u) (h2 : EvM ops Fv a0 k op y z) : StepM Tryd.prog ops Q Fv M a0 k op :=
  m_quiet hF hd hg hM fun d a w hb hcl hkp hk hneed hv _ => by
    unfold execOp
    simp only [ho, h1 d a hb hcl hkp hk hneed hv, h2 d a hb hcl hkp hk hneed hv, Sem.run_bind, hr, Result.andThen_ok, Sem.run_pure]
theorem m_load {x : Operand} {t : Nat} {u v : Value} (ho : op.op = .load t x) (hF : Fv k = some v) (hd : op.dst.isSome = true) (hg : op.guard = none) (hM : ∀ d vals vals' w, (∀ i, i ≠ k → vals' i = vals i) → M d vals w → M (Nat.lor d (Nat.shiftLeft 1 k)) vals' w)
    (hr : ∀ d vals w, M d vals w → (Instr.loadAt t u).run Tryd.prog w = .ok v w) (h1 : EvM ops Fv a0 k op x u) : StepM Tryd.prog ops Q Fv M a0 k op :=
  m_quiet hF hd hg hM fun d a w hb hcl hkp hk hneed hv hMw => by
    unfold execOp
    simp only [ho, h1 d a hb hcl hkp hk hneed hv, Sem.run_bind, hr _ _ w hMw, Result.andThen_ok, Sem.run_pure]
end
theorem drop_cons {r : List OC} {j : Nat} {y : OC} (hy : r[j]? = some y) : r.drop j = y :: r.drop (j + 1) := by
  obtain ⟨hlt, rfl⟩ := List.getElem?_eq_some_iff.1 hy
  exact List.drop_eq_getElem_cons hlt
set_option maxHeartbeats 600000 in
theorem ref_Sort (v : Value) (l : List OC) (W0 : World) (hv : OpsV W0 v l) (hl : l.length ≤ 50000) :
    Calls Tryd.prog 20 #[v] W0 fun e w' => ∃ u s, e = .returned u ∧ OpsV w' u s ∧ SortOf l s ∧ Below W0.heap.size W0 w' := by
  obtain ⟨a, n, cp, rfl, hI⟩ := hv
  have HN := hid (show n = l.length from hI.1.symm)
  have hm : n ≤ 9223372036854775807 := Nat.le_trans hI.2.1 hI.2.2.1
  have HI := hid hI
  have HL := hid hl
  clear hI hl
  go_enter Tryd.func20, Tryd.ntmps20
  go_wp2
  go_loopw [3, 4] (fun u i wr => ∃ (k : Nat) (r : List OC), k ≤ n ∧ i = .int .i64 (k : Nat) ∧ Hid (OpsV wr u r ∧ SortOf (l.take k) r ∧ r.length ≤ k) ∧ Hid (Below W0.heap.size W0 wr)) (fun _ i _ => n - (intOf i).toNat)
  case atStart => exact ⟨0, [], by omega, rfl, hid ⟨OpsV.nil _, by rw [List.take_zero]; exact sort_nil, Nat.le_refl _⟩, hid (Below.refl _ _)⟩
  case round =>
    obtain ⟨i, r, hi, rfl, HR, HB⟩ := hrel
    obtain ⟨ro, rn, rc, hu3, hIR⟩ := HR.out.1
    subst hu3
    have HIR := hid hIR
    have HRN := hid hIR.1
    have HSO := hid HR.out.2.1
    have HRI := hid HR.out.2.2
    clear hIR
    by_cases hlt : i < n
    · cases a with
      | none => have := HI.out.none_len; omega
      | some ad =>
        obtain ⟨o, cl', hx, hok, hcl, hin⟩ := (HI.out.keep HB.out).at i hlt
        obtain ⟨x, hxe⟩ : ∃ x : OC, x = (o, cl') := ⟨_, rfl⟩
        have HX := hid (show l[i]? = some x by rw [hxe]; exact hx)
        have HXI0 := hid (show OpIn wr (ad.add (i * 29)) x.1 by rw [hxe]; exact hin)
        have HOKX := hid (show okO x.1 by rw [hxe]; exact hok)
        have HCX0 := hid (show ClaimsV wr x.1.lv x.2 by rw [hxe]; exact hcl)
        clear hx hin hok hcl hxe
        have h1 : (i : Int) < (n : Int) := by omega
        have hfind := ref_Find (.slice ro rn rc) r (dt x) wr HR.out.1
        have hf1 : ((findM r (dt x)).getD zeroC).1.lv.oneCell' = true := by
          cases hq : findM r (dt x) with
          | none => rfl
          | some z => exact ((HR.out.1.all z (List.mem_of_find?_eq_some hq)).2).oneCell
        generalize ((findM r (dt x)).getD zeroC).1 = fo at hfind hf1
        obtain ⟨fb, hfb⟩ : ∃ fb, (findM r (dt x)).isSome = fb := ⟨_, rfl⟩
        rw [hfb] at hfind
        have HFB := hid hfb
        have hone := oneO _ hf1
        clear hfb hf1
        go_upto_region 6 with (first
          | (refine load_dotIn _ rfl rfl (ad.add (i * 29)) rfl x.1 HXI0.out ?_)
          | (go_at_call 16; refine hfind.mono ?_; rintro e w1 ⟨rfl, hb⟩; have HB1 := hid hb; clear hb hfind)
          | (refine wpList_store_row rfl _ (.tmp 5) (.tmp 22) rfl w1.heap.size (oc fo) rfl rfl 34 (oc zeroO) (heap_alloc_last' _ _) (opSize _) rfl hone ?_))
        have hBW := below_next HB1.out (Below.setRow (below_al w1 (.cells (oc zeroO) 34)) (Nat.le_refl _) (oc fo))
        refine gen_code (fun W => Below wr.heap.size wr W) hBW ?_
        clear hBW hone
        generalize w1.heap.size = g1
        clear HB1
        rintro w2 h2
        have HB2' := hid h2
        have HB2 := hid (below_next HB.out h2)
        clear h2
        cases fb
        · have HFN := HFB
          have HRL := hid (show r.length ≤ 50000 by have := HRI.out; have := HL.out; have := HN.out; omega)
          have HXI2 := hid (HXI0.out.keep HB2'.out)
          have HCX2 := hid (HCX0.out.keep HB2'.out)
          have hIR2 := HIR.out.keep HB2'.out
          clear HIR HXI0 HCX0 HFB HR
          have HIR := hid hIR2
          clear hIR2
          go_wp2
          go_loopw [7] (fun kv wr1 => ∃ k : Nat, k ≤ rn ∧ kv = .int .i64 (k : Nat) ∧ Hid (∀ y ∈ r.drop k, ltO x y) ∧ Hid (Below w2.heap.size w2 wr1)) (fun kv _ => (intOf kv).toNat)
          case atStart => exact ⟨rn, Nat.le_refl _, rfl, hid (by rw [List.drop_eq_nil_of_le (by have := HRN.out; omega)]; exact fun y hy => by cases hy), hid (Below.refl _ _)⟩
          case round =>
            obtain ⟨k, hk, rfl, HGT, HB3⟩ := hrel
            by_cases h0 : 0 < k
            · cases ro with
              | none => have h9 := HIR.out.2.2.2.2.1; omega
              | some rp =>
                obtain ⟨j, hj⟩ : ∃ j, k = j + 1 := ⟨k - 1, by omega⟩
                have HJ := hid hj
                obtain ⟨y, hy⟩ : ∃ y, r[j]? = some y := ⟨_, List.getElem?_eq_getElem (by have := HRN.out; omega)⟩
                have HY := hid hy
                have HYI := hid ((HIR.out.keep HB3.out).opIn hy)
                have HOKY := hid ((HIR.out.2.2.2.1 y (List.mem_of_getElem? hy)).1)
                have HXI := hid (HXI2.out.keep HB3.out)
                have e1 : wrap64 ((k : Int) - 1) = (j : Int) := by rw [w64 (by have := HRL.out; have := HRN.out; omega) (by have := HRL.out; have := HRN.out; omega)]; omega
                have e2 : IntKind.i64.wrap ((k : Int) - 1) = (j : Int) := by rw [i64w (by have := HRL.out; have := HRN.out; omega) (by have := HRL.out; have := HRN.out; omega)]; omega
                clear hj hy
                go_upto_region 8 with (fail)
                refine wp_flow (fun _ => none) (Fa.eq (.int .i64 (k : Int)) :: Fa.eq (.bool true) :: Fa.eq (.bool true) :: Fa.eq (.slice (some rp) rn rc) :: Fa.eq (.int .i64 (k : Int)) :: Fa.eq (.int .i64 (j : Int)) :: Fa.eq (.pointer (some (rp.add (j * 29)))) :: Fa.eq (.agg (oc y.1)) :: Fa.eq (.slice (some ad) n cp) :: Fa.eq (.int .i64 (i : Int)) :: Fa.eq (.pointer (some (ad.add (i * 29)))) :: Fa.eq (.agg (oc x.1)) :: Fa.eq (.int .i64 (cmpM y x)) :: Fa.eq (.bool (decide (0 < cmpM y x))) :: Fa.eq (.bool (true && decide (0 < cmpM y x))) :: []) 60 (by kernel_rfl) rfl (by kernel_rfl) rfl (by kernel_rfl) ?_ ?_ ?_
                · exact fits_plain _ _ rfl
                · refine ⟨?_, ?_, ?_, ?_, ?_, ?_, ?_, ?_, ?_, ?_, ?_, ?_, ?_, ?_, ?_, trivial⟩
                  · exact v_move (.inl rfl) rfl (by kernel_rfl) True.intro (Ev.out (by kernel_rfl) rfl)
                  · exact v_bin (u := .int .i64 (k : Int)) (v := .int .i64 0) (c := .bool true) rfl (fun w => gtr_pos k h0 _ _ w) rfl (by kernel_rfl) True.intro (Ev.at (i := 0) (by kernel_rfl) (by kernel_rfl) rfl) Ev.const
                  · exact v_move (.inl rfl) rfl (by kernel_rfl) True.intro (Ev.at (i := 1) (by kernel_rfl) (by kernel_rfl) rfl)
                  · exact v_move (.inl rfl) rfl (by kernel_rfl) ⟨rfl, (by kernel_rfl), (by kernel_rfl)⟩ (Ev.out (by kernel_rfl) rfl)
                  · exact v_move (.inl rfl) rfl (by kernel_rfl) ⟨rfl, (by kernel_rfl), (by kernel_rfl)⟩ (Ev.out (by kernel_rfl) rfl)
                  · exact v_bin (u := .int .i64 (k : Int)) (v := .int .i64 1) (c := .int .i64 (j : Int)) rfl (fun w => sub_one HJ.out (by have := HRL.out; have := HRN.out; omega) _ _ w) rfl (by kernel_rfl) ⟨rfl, (by kernel_rfl), (by kernel_rfl)⟩ (Ev.at (i := 4) (by kernel_rfl) (by kernel_rfl) rfl) Ev.const
                  · exact v_iaddr (u := .slice (some rp) rn rc) (v := .int .i64 (j : Int)) (c := .pointer (some (rp.add (j * 29)))) rfl (fun w => idx_op rp rn rc j (by have := HJ.out; omega) w) rfl (by kernel_rfl) ⟨rfl, (by kernel_rfl), (by kernel_rfl)⟩ (Ev.at (i := 3) (by kernel_rfl) (by kernel_rfl) rfl) (Ev.at (i := 5) (by kernel_rfl) (by kernel_rfl) rfl)
                  · exact v_load (u := .pointer (some (rp.add (j * 29)))) (c := .agg (oc y.1)) rfl (fun w hB => ldp_op (OpIn.keep (OpIn.dr HYI.out) hB)) rfl (by kernel_rfl) ⟨rfl, (by kernel_rfl), (by kernel_rfl)⟩ (Ev.at (i := 6) (by kernel_rfl) (by kernel_rfl) rfl)
                  · exact v_move (.inl rfl) rfl (by kernel_rfl) ⟨rfl, (by kernel_rfl), (by kernel_rfl)⟩ (Ev.out (by kernel_rfl) rfl)
                  · exact v_move (.inl rfl) rfl (by kernel_rfl) ⟨rfl, (by kernel_rfl), (by kernel_rfl)⟩ (Ev.out (by kernel_rfl) rfl)
                  · exact v_iaddr (u := .slice (some ad) n cp) (v := .int .i64 (i : Int)) (c := .pointer (some (ad.add (i * 29)))) rfl (fun w => idx_op ad n cp i hlt w) rfl (by kernel_rfl) ⟨rfl, (by kernel_rfl), (by kernel_rfl)⟩ (Ev.at (i := 8) (by kernel_rfl) (by kernel_rfl) rfl) (Ev.at (i := 9) (by kernel_rfl) (by kernel_rfl) rfl)
                  · exact v_load (u := .pointer (some (ad.add (i * 29)))) (c := .agg (oc x.1)) rfl (fun w hB => ldp_op (OpIn.keep (OpIn.dr HXI.out) hB)) rfl (by kernel_rfl) ⟨rfl, (by kernel_rfl), (by kernel_rfl)⟩ (Ev.at (i := 10) (by kernel_rfl) (by kernel_rfl) rfl)
                  · exact v_call (vs := #[.agg (oc y.1), .agg (oc x.1)]) (c := .int .i64 (cmpM y x)) rfl (fun args w => rfl) (fun w hB => ref_Compare y x HOKY.out HOKX.out w) rfl (by kernel_rfl) ⟨rfl, (by kernel_rfl), (by kernel_rfl)⟩ (ev2 (Ev.at (i := 7) (by kernel_rfl) (by kernel_rfl) rfl) (Ev.at (i := 11) (by kernel_rfl) (by kernel_rfl) rfl))
                  · exact v_bin (u := .int .i64 (cmpM y x)) (v := .int .i64 0) (c := .bool (decide (0 < cmpM y x))) rfl (fun w => (by go_simp)) rfl (by kernel_rfl) ⟨rfl, (by kernel_rfl), (by kernel_rfl)⟩ (Ev.at (i := 12) (by kernel_rfl) (by kernel_rfl) rfl) Ev.const
                  · exact v_and (p := true) (q := decide (0 < cmpM y x)) rfl rfl (by kernel_rfl) True.intro (Ev.at (i := 2) (by kernel_rfl) (by kernel_rfl) rfl) (fun hp => (Ev.at (i := 13) (by kernel_rfl) (by kernel_rfl) rfl))
                intro _ vs W4 hB4 hf
                have e14 : vs 14 = .bool (true && decide (0 < cmpM y x)) := hf 14 (by decide)
                obtain ⟨z, hz⟩ : ∃ z, (true && decide (0 < cmpM y x)) = z := ⟨_, rfl⟩
                rw [hz] at e14
                simp only [fill, List.setIfInBounds_toArray, List.set_cons_zero, List.set_cons_succ, e14]
                have hB5 := below_next HB3.out hB4
                clear hB4 hf HB3 HXI HYI e14
                have HB3 := hid hB5
                clear hB5
                cases z
                · have HZ := hid (show ¬ 0 < cmpM y x by intro hc; rw [decide_eq_true hc] at hz; cases hz)
                  clear hz e1 e2
                  generalize hwr1 : W4 = wr1 at HB3 ⊢
                  clear hwr1
                  have HSL := hid (fun w => sl_ops (some rp) rn rc k hk HIR.out.2.1 HIR.out.2.2.1 HIR.out.cap0 w)
                  obtain ⟨q4, hq4⟩ := sl_fromV HIR.out hk
                  have HSF := hid hq4
                  clear hq4
                  have HU1 := hid ((HIR.out.keep HB3.out).begin hk)
                  have HU2 := hid (HSF.out.2 _ (HIR.out.keep HB3.out))
                  have HXI := hid (HXI2.out.keep HB3.out)
                  have HCX := hid (HCX2.out.keep HB3.out)
                  go_wp2
                  refine wp_mask (fun q => ([none, some (.slice (some rp) rn rc), some (.int .i64 (k : Int)), some (.slice (some rp) k rc), none, some (.slice (some ad) n cp), some (.int .i64 (i : Int)), some (.pointer (some (ad.add (i * 29)))), some (.agg (oc x.1)), none, none, some (.slice (some rp) rn rc), some (.int .i64 (k : Int)), some (.slice q4 (rn - k) (rc - k)), none, none] : List (Option Value)).getD q none) (MemS wr1.heap.size wr1 x (r.take k) (r.take k ++ [x]) (r.take k ++ [x] ++ r.drop k)) 60 (by kernel_rfl) (by kernel_rfl) rfl (by kernel_rfl) ?_ ?_ ?_
                  · refine ⟨?_, ?_, ?_, ?_, ?_, ?_, ?_, ?_, ?_, ?_, ?_, ?_, ?_, ?_, ?_, ?_, trivial⟩
                    · exact m_fresh rfl rfl rfl rfl
                    · exact m_move (.inl rfl) rfl (by kernel_rfl) rfl (MemS.quiet (by decide) (by decide) (by decide) (by decide) (by decide) (by decide)) (EvM.late (i := 15) rfl (by kernel_rfl) rfl (by kernel_rfl))
                    · exact m_move (.inl rfl) rfl (by kernel_rfl) rfl (MemS.quiet (by decide) (by decide) (by decide) (by decide) (by decide) (by decide)) (EvM.out (by kernel_rfl) rfl)
                    · exact m_sl (u := .slice (some rp) rn rc) (z := .int .i64 (k : Int)) rfl rfl (by kernel_rfl) rfl (MemS.quiet (by decide) (by decide) (by decide) (by decide) (by decide) (by decide)) (fun w => HSL.out w) (EvM.at (i := 1) (by kernel_rfl) (by kernel_rfl) rfl (by decide)) (EvM.at (i := 2) (by kernel_rfl) (by kernel_rfl) rfl (by decide))
                    · exact m_app4 ⟨fun d h h4 => closedB h rfl (by kernel_rfl) h4, fun d h h4 => closedB h rfl (by kernel_rfl) h4, fun d h h4 => closedB h rfl (by kernel_rfl) h4⟩ rfl rfl rfl rfl (by kernel_rfl) (by kernel_rfl) (EvM.at (i := 3) (by kernel_rfl) (by kernel_rfl) rfl (by decide)) HU1.out (by have := HRL.out; rw [List.length_take]; omega)
                    · exact m_move (.inl rfl) rfl (by kernel_rfl) rfl (MemS.quiet (by decide) (by decide) (by decide) (by decide) (by decide) (by decide)) (EvM.out (by kernel_rfl) rfl)
                    · exact m_move (.inl rfl) rfl (by kernel_rfl) rfl (MemS.quiet (by decide) (by decide) (by decide) (by decide) (by decide) (by decide)) (EvM.out (by kernel_rfl) rfl)
                    · exact m_iaddr (u := .slice (some ad) n cp) (z := .int .i64 (i : Int)) rfl rfl (by kernel_rfl) rfl (MemS.quiet (by decide) (by decide) (by decide) (by decide) (by decide) (by decide)) (fun w => idx_op ad n cp i hlt w) (EvM.at (i := 5) (by kernel_rfl) (by kernel_rfl) rfl (by decide)) (EvM.at (i := 6) (by kernel_rfl) (by kernel_rfl) rfl (by decide))
                    · exact m_load (u := .pointer (some (ad.add (i * 29)))) rfl rfl (by kernel_rfl) rfl (MemS.quiet (by decide) (by decide) (by decide) (by decide) (by decide) (by decide)) (fun d vals w h => ldp_op (HXI.out.keep h.below)) (EvM.at (i := 7) (by kernel_rfl) (by kernel_rfl) rfl (by decide))
                    · exact m_laid rfl rfl rfl rfl (EvM.at (i := 8) (by kernel_rfl) (by kernel_rfl) rfl (by decide))
                    · exact m_app10 ⟨fun d h h4 => closedB h rfl (by kernel_rfl) h4, fun d h h4 => closedB h rfl (by kernel_rfl) h4, fun d h h4 => closedB h rfl (by kernel_rfl) h4⟩ rfl rfl rfl rfl (by kernel_rfl) (by kernel_rfl) (by kernel_rfl) (by kernel_rfl) HOKX.out HCX.out (by have := HRL.out; rw [List.length_take]; omega)
                    · exact m_move (.inl rfl) rfl (by kernel_rfl) rfl (MemS.quiet (by decide) (by decide) (by decide) (by decide) (by decide) (by decide)) (EvM.late (i := 15) rfl (by kernel_rfl) rfl (by kernel_rfl))
                    · exact m_move (.inl rfl) rfl (by kernel_rfl) rfl (MemS.quiet (by decide) (by decide) (by decide) (by decide) (by decide) (by decide)) (EvM.out (by kernel_rfl) rfl)
                    · exact m_slf (u := .slice (some rp) rn rc) (z := .int .i64 (k : Int)) rfl rfl (by kernel_rfl) rfl (MemS.quiet (by decide) (by decide) (by decide) (by decide) (by decide) (by decide)) (fun w => HSF.out.1 w) (EvM.at (i := 11) (by kernel_rfl) (by kernel_rfl) rfl (by decide)) (EvM.at (i := 12) (by kernel_rfl) (by kernel_rfl) rfl (by decide))
                    · exact m_app14 ⟨fun d h h4 => closedB h rfl (by kernel_rfl) h4, fun d h h4 => closedB h rfl (by kernel_rfl) h4, fun d h h4 => closedB h rfl (by kernel_rfl) h4⟩ (fun d h h10 => h 10 _ rfl h10 4 (by kernel_rfl)) rfl rfl rfl rfl (by kernel_rfl) (by kernel_rfl) (EvM.at (i := 13) (by kernel_rfl) (by kernel_rfl) rfl (by decide)) HU2.out (by have := HRL.out; rw [List.length_drop]; omega) (by have := HRL.out; rw [List.length_append, List.length_take]; simp only [List.length_cons, List.length_nil]; omega)
                    · exact m_as15 rfl rfl rfl rfl (by kernel_rfl) (by kernel_rfl)
                  · exact fun vals => ⟨below_dr _, fun h => by simp at h, fun h => by simp at h, fun h => by simp at h, fun h => by simp at h, fun h => by simp at h, fun h => by simp at h⟩
                  · intro d vs w' hall _ hM
                    have HOW := hid (hM.m15 (hall 15 (by decide)))
                    have HBZ := hid (below_next HB2.out (below_next HB3.out hM.below))
                    clear hall hM
                    simp only [fill, List.setIfInBounds_toArray, List.set_cons_zero, List.set_cons_succ]
                    generalize vs 15 = u15 at HOW ⊢
                    go_wp2
                    go_roundw
                    case rel => exact ⟨i + 1, _, by omega, by go_num, hid ⟨HOW.out.opsV, sort_insert HX.out HSO.out HFN.out HGT.out (ins_le HSO.out.inc (by have := HRN.out; omega) (find_none_dt HFN.out) (.inr ⟨y, by rw [show k - 1 = j by have := HJ.out; omega]; exact HY.out, fun hc => by have h1 := cmpM_pos.2 hc; have h2 := HZ.out; omega⟩)), by have := HRL.out; simp only [List.length_append, List.length_take, List.length_drop, List.length_cons, List.length_nil]; have := HRI.out; have := HRN.out; omega⟩, HBZ⟩
                    case measure => exact meas1 hlt
                · have HZ := hid (show ltO x y from cmpM_pos.1 (of_decide_eq_true (by simpa using hz)))
                  clear hz
                  go_wp2
                  go_roundw
                  case rel => exact ⟨j, by have := HJ.out; omega, rfl, hid (by rw [drop_cons HY.out]; intro q hq; rcases List.mem_cons.1 hq with rfl | hq; exact HZ.out; exact HGT.out q (by rw [HJ.out]; exact hq)), HB3⟩
                  case measure => show (j : Int).toNat < (k : Int).toNat; have := HJ.out; omega
            · go_upto_region 8 with (fail)
              refine wp_flow (fun _ => none) (Fa.eq (.int .i64 (k : Int)) :: Fa.eq (.bool false) :: Fa.eq (.bool false) :: Fa.eq (undef) :: Fa.eq (undef) :: Fa.eq (undef) :: Fa.eq (undef) :: Fa.eq (undef) :: Fa.eq (undef) :: Fa.eq (undef) :: Fa.eq (undef) :: Fa.eq (undef) :: Fa.eq (undef) :: Fa.eq (undef) :: Fa.eq (.bool (false && false)) :: []) 60 (by kernel_rfl) rfl (by kernel_rfl) rfl (by kernel_rfl) ?_ ?_ ?_
              · exact fits_plain _ _ rfl
              · refine ⟨?_, ?_, ?_, ?_, ?_, ?_, ?_, ?_, ?_, ?_, ?_, ?_, ?_, ?_, ?_, trivial⟩
                · exact v_move (.inl rfl) rfl (by kernel_rfl) True.intro (Ev.out (by kernel_rfl) rfl)
                · exact v_bin (u := .int .i64 (k : Int)) (v := .int .i64 0) (c := .bool false) rfl (fun w => gtr_no k h0 _ _ w) rfl (by kernel_rfl) True.intro (Ev.at (i := 0) (by kernel_rfl) (by kernel_rfl) rfl) Ev.const
                · exact v_move (.inl rfl) rfl (by kernel_rfl) True.intro (Ev.at (i := 1) (by kernel_rfl) (by kernel_rfl) rfl)
                · exact flow_skip 2 true (.bool false) rfl rfl (by kernel_rfl) rfl (by intro h; cases h)
                · exact flow_skip 2 true (.bool false) rfl rfl (by kernel_rfl) rfl (by intro h; cases h)
                · exact flow_skip 2 true (.bool false) rfl rfl (by kernel_rfl) rfl (by intro h; cases h)
                · exact flow_skip 2 true (.bool false) rfl rfl (by kernel_rfl) rfl (by intro h; cases h)
                · exact flow_skip 2 true (.bool false) rfl rfl (by kernel_rfl) rfl (by intro h; cases h)
                · exact flow_skip 2 true (.bool false) rfl rfl (by kernel_rfl) rfl (by intro h; cases h)
                · exact flow_skip 2 true (.bool false) rfl rfl (by kernel_rfl) rfl (by intro h; cases h)
                · exact flow_skip 2 true (.bool false) rfl rfl (by kernel_rfl) rfl (by intro h; cases h)
                · exact flow_skip 2 true (.bool false) rfl rfl (by kernel_rfl) rfl (by intro h; cases h)
                · exact flow_skip 2 true (.bool false) rfl rfl (by kernel_rfl) rfl (by intro h; cases h)
                · exact flow_skip 2 true (.bool false) rfl rfl (by kernel_rfl) rfl (by intro h; cases h)
                · exact v_and (p := false) (q := false) rfl rfl (by kernel_rfl) True.intro (Ev.at (i := 2) (by kernel_rfl) (by kernel_rfl) rfl) (fun hp => by cases hp)
              intro _ vs W4 hB4 hf
              have e14 : vs 14 = .bool (false && false) := hf 14 (by decide)
              simp only [fill, List.setIfInBounds_toArray, List.set_cons_zero, List.set_cons_succ, e14]
              have hB5 := below_next HB3.out hB4
              clear hB4 hf HB3 e14
              have HB3 := hid hB5
              clear hB5
              generalize hwr1 : W4 = wr1 at HB3 ⊢
              clear hwr1
              have HSL := hid (fun w => sl_ops ro rn rc k hk HIR.out.2.1 HIR.out.2.2.1 HIR.out.cap0 w)
              obtain ⟨q4, hq4⟩ := sl_fromV HIR.out hk
              have HSF := hid hq4
              clear hq4
              have HU1 := hid ((HIR.out.keep HB3.out).begin hk)
              have HU2 := hid (HSF.out.2 _ (HIR.out.keep HB3.out))
              have HXI := hid (HXI2.out.keep HB3.out)
              have HCX := hid (HCX2.out.keep HB3.out)
              go_wp2
              refine wp_mask (fun q => ([none, some (.slice ro rn rc), some (.int .i64 (k : Int)), some (.slice ro k rc), none, some (.slice (some ad) n cp), some (.int .i64 (i : Int)), some (.pointer (some (ad.add (i * 29)))), some (.agg (oc x.1)), none, none, some (.slice ro rn rc), some (.int .i64 (k : Int)), some (.slice q4 (rn - k) (rc - k)), none, none] : List (Option Value)).getD q none) (MemS wr1.heap.size wr1 x (r.take k) (r.take k ++ [x]) (r.take k ++ [x] ++ r.drop k)) 60 (by kernel_rfl) (by kernel_rfl) rfl (by kernel_rfl) ?_ ?_ ?_
              · refine ⟨?_, ?_, ?_, ?_, ?_, ?_, ?_, ?_, ?_, ?_, ?_, ?_, ?_, ?_, ?_, ?_, trivial⟩
                · exact m_fresh rfl rfl rfl rfl
                · exact m_move (.inl rfl) rfl (by kernel_rfl) rfl (MemS.quiet (by decide) (by decide) (by decide) (by decide) (by decide) (by decide)) (EvM.late (i := 15) rfl (by kernel_rfl) rfl (by kernel_rfl))
                · exact m_move (.inl rfl) rfl (by kernel_rfl) rfl (MemS.quiet (by decide) (by decide) (by decide) (by decide) (by decide) (by decide)) (EvM.out (by kernel_rfl) rfl)
                · exact m_sl (u := .slice ro rn rc) (z := .int .i64 (k : Int)) rfl rfl (by kernel_rfl) rfl (MemS.quiet (by decide) (by decide) (by decide) (by decide) (by decide) (by decide)) (fun w => HSL.out w) (EvM.at (i := 1) (by kernel_rfl) (by kernel_rfl) rfl (by decide)) (EvM.at (i := 2) (by kernel_rfl) (by kernel_rfl) rfl (by decide))
                · exact m_app4 ⟨fun d h h4 => closedB h rfl (by kernel_rfl) h4, fun d h h4 => closedB h rfl (by kernel_rfl) h4, fun d h h4 => closedB h rfl (by kernel_rfl) h4⟩ rfl rfl rfl rfl (by kernel_rfl) (by kernel_rfl) (EvM.at (i := 3) (by kernel_rfl) (by kernel_rfl) rfl (by decide)) HU1.out (by have := HRL.out; rw [List.length_take]; omega)
                · exact m_move (.inl rfl) rfl (by kernel_rfl) rfl (MemS.quiet (by decide) (by decide) (by decide) (by decide) (by decide) (by decide)) (EvM.out (by kernel_rfl) rfl)
                · exact m_move (.inl rfl) rfl (by kernel_rfl) rfl (MemS.quiet (by decide) (by decide) (by decide) (by decide) (by decide) (by decide)) (EvM.out (by kernel_rfl) rfl)
                · exact m_iaddr (u := .slice (some ad) n cp) (z := .int .i64 (i : Int)) rfl rfl (by kernel_rfl) rfl (MemS.quiet (by decide) (by decide) (by decide) (by decide) (by decide) (by decide)) (fun w => idx_op ad n cp i hlt w) (EvM.at (i := 5) (by kernel_rfl) (by kernel_rfl) rfl (by decide)) (EvM.at (i := 6) (by kernel_rfl) (by kernel_rfl) rfl (by decide))
                · exact m_load (u := .pointer (some (ad.add (i * 29)))) rfl rfl (by kernel_rfl) rfl (MemS.quiet (by decide) (by decide) (by decide) (by decide) (by decide) (by decide)) (fun d vals w h => ldp_op (HXI.out.keep h.below)) (EvM.at (i := 7) (by kernel_rfl) (by kernel_rfl) rfl (by decide))
                · exact m_laid rfl rfl rfl rfl (EvM.at (i := 8) (by kernel_rfl) (by kernel_rfl) rfl (by decide))
                · exact m_app10 ⟨fun d h h4 => closedB h rfl (by kernel_rfl) h4, fun d h h4 => closedB h rfl (by kernel_rfl) h4, fun d h h4 => closedB h rfl (by kernel_rfl) h4⟩ rfl rfl rfl rfl (by kernel_rfl) (by kernel_rfl) (by kernel_rfl) (by kernel_rfl) HOKX.out HCX.out (by have := HRL.out; rw [List.length_take]; omega)
                · exact m_move (.inl rfl) rfl (by kernel_rfl) rfl (MemS.quiet (by decide) (by decide) (by decide) (by decide) (by decide) (by decide)) (EvM.late (i := 15) rfl (by kernel_rfl) rfl (by kernel_rfl))
                · exact m_move (.inl rfl) rfl (by kernel_rfl) rfl (MemS.quiet (by decide) (by decide) (by decide) (by decide) (by decide) (by decide)) (EvM.out (by kernel_rfl) rfl)
                · exact m_slf (u := .slice ro rn rc) (z := .int .i64 (k : Int)) rfl rfl (by kernel_rfl) rfl (MemS.quiet (by decide) (by decide) (by decide) (by decide) (by decide) (by decide)) (fun w => HSF.out.1 w) (EvM.at (i := 11) (by kernel_rfl) (by kernel_rfl) rfl (by decide)) (EvM.at (i := 12) (by kernel_rfl) (by kernel_rfl) rfl (by decide))
                · exact m_app14 ⟨fun d h h4 => closedB h rfl (by kernel_rfl) h4, fun d h h4 => closedB h rfl (by kernel_rfl) h4, fun d h h4 => closedB h rfl (by kernel_rfl) h4⟩ (fun d h h10 => h 10 _ rfl h10 4 (by kernel_rfl)) rfl rfl rfl rfl (by kernel_rfl) (by kernel_rfl) (EvM.at (i := 13) (by kernel_rfl) (by kernel_rfl) rfl (by decide)) HU2.out (by have := HRL.out; rw [List.length_drop]; omega) (by have := HRL.out; rw [List.length_append, List.length_take]; simp only [List.length_cons, List.length_nil]; omega)
                · exact m_as15 rfl rfl rfl rfl (by kernel_rfl) (by kernel_rfl)
              · exact fun vals => ⟨below_dr _, fun h => by simp at h, fun h => by simp at h, fun h => by simp at h, fun h => by simp at h, fun h => by simp at h, fun h => by simp at h⟩
              · intro d vs w' hall _ hM
                have HOW := hid (hM.m15 (hall 15 (by decide)))
                have HBZ := hid (below_next HB2.out (below_next HB3.out hM.below))
                clear hall hM
                simp only [fill, List.setIfInBounds_toArray, List.set_cons_zero, List.set_cons_succ]
                generalize vs 15 = u15 at HOW ⊢
                go_wp2
                go_roundw
                case rel => exact ⟨i + 1, _, by omega, by go_num, hid ⟨HOW.out.opsV, sort_insert HX.out HSO.out HFN.out HGT.out (ins_le HSO.out.inc (by have := HRN.out; omega) (find_none_dt HFN.out) (.inl (by omega))), by have := HRL.out; simp only [List.length_append, List.length_take, List.length_drop, List.length_cons, List.length_nil]; have := HRI.out; have := HRN.out; omega⟩, HBZ⟩
                case measure => exact meas1 hlt
        · go_wp2
          go_roundw
          case rel => exact ⟨i + 1, r, by omega, by go_num, hid ⟨HR.out.1.keep HB2'.out, sort_skip HX.out HSO.out HFB.out, by have := HRI.out; omega⟩, HB2⟩
          case measure => exact meas1 hlt
    · obtain rfl : i = n := by omega
      have hR := HR.out
      rw [List.take_of_length_le (by have := HN.out; omega)] at hR
      have HR2 := hid hR
      clear hR
      go_wp2
      go_ret
      exact ⟨_, r, rfl, HR2.out.1, HR2.out.2.1, HB.out⟩
end Go.Proofs.YtagdapmnghnphaaDoor.V
