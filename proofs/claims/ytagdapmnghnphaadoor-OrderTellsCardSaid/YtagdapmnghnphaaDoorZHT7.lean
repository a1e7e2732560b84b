/-
  The law OrderTells.
-/
import Derived.Test.YtagdapmnghnphaaDoorZHT6
namespace Go.Proofs.YtagdapmnghnphaaDoor.V
set_option linter.unusedVariables false
set_option linter.unusedSimpArgs false
set_option maxRecDepth 100000
open Go Go.RowKit Go.Maps Wire

theorem bin_neqI (z : Int) (x y : Operand) (w : World) : (do eqGuard .neq 3 x y (.int .i64 z) (.int .i64 z); binOp .neq 3 (.int .i64 z) (.int .i64 z) : Sem Value).run Tryd.prog w = .ok (.bool false) w := by
  have h : (z != z) = false := by simp
  go_simp
theorem bin_eqlI (z : Int) (x y : Operand) (w : World) : (do eqGuard .eql 3 x y (.int .i64 z) (.int .i64 z); binOp .eql 3 (.int .i64 z) (.int .i64 z) : Sem Value).run Tryd.prog w = .ok (.bool true) w := by
  have h : (z == z) = true := by simp
  go_simp
theorem bin_neqBs (x y : Operand) (p : Bool) (w : World) : (do eqGuard .neq 4 x y (.bool p) (.bool p); binOp .neq 4 (.bool p) (.bool p) : Sem Value).run Tryd.prog w = .ok (.bool false) w := by
  have h := bin_neqB x y p p w
  rwa [show (p != p) = false by cases p <;> rfl] at h
theorem bin_neqDe {r n s m : Nat} {e : Bool} (h : eqB (r, n) (s, m) = e) (x y : Operand) (w : World) : (do eqGuard .neq 30 x y (.agg #[.int .u8 (r : Int), .int .u32 (n : Int)]) (.agg #[.int .u8 (s : Int), .int .u32 (m : Int)]); binOp .neq 30 (.agg #[.int .u8 (r : Int), .int .u32 (n : Int)]) (.agg #[.int .u8 (s : Int), .int .u32 (m : Int)]) : Sem Value).run Tryd.prog w = .ok (.bool (!e)) w := by
  rw [← h]
  exact bin_neqD r n s m w
theorem eql_same (v : Vec) (x y : Operand) (w : World) : (do eqGuard .eql 25 x y (.agg (vc v)) (.agg (vc v)); binOp .eql 25 (.agg (vc v)) (.agg (vc v)) : Sem Value).run Tryd.prog w = .ok (.bool true) w := by
  have h := eq_vec v v w
  rw [eqV_refl] at h
  unfold vc
  go_simp
/-- A call with one value known, whose result is known by what holds of it. -/
theorem v_callr1 {ops : Array Oper} {Q : Exit → Act → World → Prop} {tgt : Nat → Option Nat} {F : Nat → Fa} {a0 : Act} {w0 : World} {k : Nat} {op : Oper} {f : Nat} {x : Operand} {ats : Array Nat} {r : Value → World → Prop} {u : Value}
    (ho : op.op = .call { callee := .value (.func f), args := #[x], argTypes := ats }) (hfn : ∀ (args : Array Value) (w : World), (callFunc f args).run Tryd.prog w = .ok (.enter f args) w)
    (hc : ∀ w, Below w0.heap.size w0 w → Calls Tryd.prog f #[u] w fun e w' => ∃ c, e = .returned c ∧ r c w' ∧ Below w.heap.size w w') (hF : F k = .dep r) (hd : op.dst.isSome = true) (hg : guardOK ops F op)
    (h1 : Ev ops F a0 w0 op x u) : StepOK Tryd.prog ops Q tgt F a0 w0 k op :=
  flow_calld _ hF hd hg (fun o a w hb hB hn => ⟨f, _, call_run ho hfn a w, by simpa [h1 o a w hb hn] using hc w hB⟩)
/-- A row sorted. -/
def SortP (l : List OC) (v : Value) (w : World) : Prop := ∃ s, SortOf l s ∧ RowAs s v w
theorem SortP.keep {l : List OC} {v : Value} {w w' : World} (h : SortP l v w) (hb : Below w.heap.size w w') : SortP l v w' := by
  obtain ⟨s, h1, h2⟩ := h
  exact ⟨s, h1, h2.keep hb⟩
theorem same_sort {l : List OC} {u v : Value} {w : World} (hu : SortP l u w) (hv : SortP l v w) :
    Calls Tryd.prog 18 #[u, v] w fun e w' => e = .returned (.bool true) ∧ Below w.heap.size w w' := by
  obtain ⟨s, h1, h2⟩ := hu
  obtain ⟨t, h3, h4⟩ := hv
  exact same_as h2 h4 (by rw [h1.uniq h3])
theorem sort_as (v : Value) (l : List OC) (W : World) (hv : OpsV W v l) (hl : l.length ≤ 100000) (hcl : ∀ x ∈ l, x.2.length ≤ 1000) :
    Calls Tryd.prog 19 #[v] W fun e w' => ∃ u, e = .returned u ∧ SortP l u w' ∧ Below W.heap.size W w' :=
  (order_Sort v l W hv hl hcl).mono fun e w' ⟨u, s, s', he, ho, hs, hc, hb⟩ => ⟨u, he, ⟨s, hs, s', ho.opsV, hc⟩, hb⟩
theorem refSort_as (v : Value) (l : List OC) (W : World) (hv : OpsV W v l) (hl : l.length ≤ 50000) :
    Calls Tryd.prog 20 #[v] W fun e w' => ∃ u, e = .returned u ∧ SortP l u w' ∧ Below W.heap.size W w' :=
  (ref_Sort v l W hv hl).mono fun e w' ⟨u, s, he, ho, hs, hb⟩ => ⟨u, he, ⟨s, hs, s, ho, rfl⟩, hb⟩
theorem refCut_as (v : Value) (l : List OC) (vv : Vec) (W : World) (hv : OpsV W v l) (hl : l.length ≤ 100000) :
    Calls Tryd.prog 22 #[v, .agg (vc vv)] W fun e w' => ∃ u, e = .returned u ∧ RowAs (cutM l vv) u w' ∧ Below W.heap.size W w' :=
  (ref_Cut v l vv W hv hl).mono fun e w' ⟨u, he, ho, hb⟩ => ⟨u, he, ⟨_, ho.opsV, rfl⟩, hb⟩
set_option maxHeartbeats 4000000 in
theorem law_OrderTells (v : Value) (l : List OC) (nr : Int) (vv : Vec) (W0 : World) (hv : OpsV W0 v l) (hT : Tab W0) (hsz : ∀ x ∈ l, x.2.length ≤ 8796093022208) :
    Calls Tryd.prog 3 #[v, .int .i64 nr, .agg (vc vv)] W0 fun e w' => e = .returned (.bool true) ∧ Below W0.heap.size W0 w' := by
  have hhead := fun W (hb : Below W0.heap.size W0 W) => law_head W (hT.keep hb)
  obtain ⟨a, n, cp, rfl, hI⟩ := hv
  have HN := hid (show n = l.length from hI.1.symm)
  have hm' : n ≤ 9223372036854775807 := Nat.le_trans hI.2.1 hI.2.2.1
  have HI := hid hI
  have HH := hid hhead
  have HZ := hid hsz
  have HT := hid hT
  clear hI hhead hT hsz
  go_enter Tryd.func3, Tryd.ntmps3
  go_upto_region 1 with (fail)
  refine gen_code (fun W => W.heap[W0.heap.size]? = some (.cells (vc vv) 25 (0, 0)) ∧ Below W0.heap.size W0 W) ⟨heap_alloc_last' _ _, below_al _ _⟩ ?_
  rintro W1 ⟨h2, hB⟩
  have HW := hid (And.intro h2 hB)
  clear h2 hB
  have hgr := ref_Great (.slice a n cp) l W1 ⟨a, n, cp, rfl, HI.out.keep HW.out.2⟩ HZ.out
  clear HZ
  cases hgb : greatM l
  · obtain ⟨h80, h300⟩ := great_not hgb
    rw [hgb] at hgr
    have HL := hid (And.intro h80 h300)
    clear hgb h80 h300
    go_wp2_with (go_at_call 8; refine hgr.mono ?_; rintro e w1 ⟨rfl, hw⟩; have hw2 := hw.symm; clear hw; subst hw2)
    clear hgr
    go_loopw [7] (fun iv wr => ∃ k : Nat, k ≤ n ∧ iv = .int .i64 (k : Nat) ∧ Hid (wr.heap[W0.heap.size]? = some (.cells (vc vv) 25 (0, 0)) ∧ Below W0.heap.size W0 wr)) (fun iv _ => n - (intOf iv).toNat)
    case atStart => exact ⟨0, by omega, rfl, HW⟩
    case round =>
      clear HW
      obtain ⟨k, hk, rfl, HR⟩ := hrel
      by_cases hlt : k < n
      · cases a with
        | none => have := HI.out.none_len; omega
        | some ad =>
          obtain ⟨i, hi⟩ : ∃ i, i = k := ⟨_, rfl⟩
          subst hi
          have hli := hlt
          obtain ⟨x, hx⟩ : ∃ x, l[i]? = some x := ⟨_, List.getElem?_eq_getElem (by have := HN.out; omega)⟩
          have HX := hid hx
          have HOKX := hid ((HI.out.2.2.2.1 x (List.mem_of_getElem? hx)).1)
          clear hx
          have h1 : (i : Int) < (n : Int) := by omega
          go_wp2
          go_loopw [8] (fun kv wr => ∃ k : Nat, k ≤ n ∧ kv = .int .i64 (k : Nat) ∧ Hid (wr.heap[W0.heap.size]? = some (.cells (vc vv) 25 (0, 0)) ∧ Below W0.heap.size W0 wr)) (fun kv _ => n - (intOf kv).toNat)
          case atStart => exact ⟨0, by omega, rfl, HR⟩
          case round =>
            clear HR
            obtain ⟨k, hk2, rfl, HR⟩ := hrel
            by_cases hlk : k < n
            · obtain ⟨y, hy⟩ : ∃ y, l[k]? = some y := ⟨_, List.getElem?_eq_getElem (by have := HN.out; omega)⟩
              have HOKY := hid ((HI.out.2.2.2.1 y (List.mem_of_getElem? hy)).1)
              have HXI := hid ((HI.out.keep HR.out.2).opIn HX.out)
              have HYI := hid ((HI.out.keep HR.out.2).opIn hy)
              clear hy
              have h1 : (k : Int) < (n : Int) := by omega
              have hB1 := order_Before x y
              have hB2 := ref_Before x y
              have hB3 := ref_Before y x
              have hB4 := order_Beside x y
              cases heq : eqB (x.1.r, x.1.n) (y.1.r, y.1.n)
              · cases hbx : befB x y
                · cases hby : befB y x
                  · rw [show besO x y = true by unfold besO; rw [heq, hbx, hby]; rfl] at hB4
                    rw [hbx] at hB1 hB2
                    rw [hby] at hB3
                    have HB1 := hid hB1
                    have HB2 := hid hB2
                    have HB3 := hid hB3
                    have HB4 := hid hB4
                    have HEQ := hid heq
                    clear hB1 hB2 hB3 hB4 heq hbx hby
                    go_upto_region 9 with (fail)
                    simp only [List.append_eq, List.cons_append, List.nil_append]
                    refine wp_flow (fun _ => none) (Fa.eq (.slice (some ad) n cp) :: Fa.eq (.int .i64 ((i : Nat))) :: Fa.eq (.pointer (some (ad.add (i * 29)))) :: Fa.eq (.agg (oc x.1)) :: Fa.eq (.slice (some ad) n cp) :: Fa.eq (.int .i64 ((k : Nat))) :: Fa.eq (.pointer (some (ad.add (k * 29)))) :: Fa.eq (.agg (oc y.1)) :: Fa.eq (.int .i64 (cmpM x y)) :: Fa.eq (.slice (some ad) n cp) :: Fa.eq (.int .i64 ((i : Nat))) :: Fa.eq (.pointer (some (ad.add (i * 29)))) :: Fa.eq (.agg (oc x.1)) :: Fa.eq (.slice (some ad) n cp) :: Fa.eq (.int .i64 ((k : Nat))) :: Fa.eq (.pointer (some (ad.add (k * 29)))) :: Fa.eq (.agg (oc y.1)) :: Fa.eq (.int .i64 (cmpM x y)) :: Fa.eq (.bool (false)) :: Fa.eq (.bool (false)) :: Fa.eq (.slice (some ad) n cp) :: Fa.eq (.int .i64 ((i : Nat))) :: Fa.eq (.pointer (some (ad.add (i * 29)))) :: Fa.eq (.agg (oc x.1)) :: Fa.eq (.slice (some ad) n cp) :: Fa.eq (.int .i64 ((k : Nat))) :: Fa.eq (.pointer (some (ad.add (k * 29)))) :: Fa.eq (.agg (oc y.1)) :: Fa.eq (.bool (false)) :: Fa.eq (.slice (some ad) n cp) :: Fa.eq (.int .i64 ((i : Nat))) :: Fa.eq (.pointer (some (ad.add (i * 29)))) :: Fa.eq (.agg (oc x.1)) :: Fa.eq (.slice (some ad) n cp) :: Fa.eq (.int .i64 ((k : Nat))) :: Fa.eq (.pointer (some (ad.add (k * 29)))) :: Fa.eq (.agg (oc y.1)) :: Fa.eq (.bool (false)) :: Fa.eq (.bool (false)) :: Fa.eq (.bool (false)) :: Fa.eq (.bool (false)) :: Fa.eq (.slice (some ad) n cp) :: Fa.eq (.int .i64 ((i : Nat))) :: Fa.eq (.pointer (some (ad.add (i * 29)))) :: Fa.eq (.agg (oc x.1)) :: Fa.eq (.slice (some ad) n cp) :: Fa.eq (.int .i64 ((k : Nat))) :: Fa.eq (.pointer (some (ad.add (k * 29)))) :: Fa.eq (.agg (oc y.1)) :: Fa.eq (.bool (true)) :: Fa.eq (.slice (some ad) n cp) :: Fa.eq (.int .i64 ((i : Nat))) :: Fa.eq (.pointer (some (ad.add (i * 29)))) :: Fa.eq (.pointer (some (ad.add (i * 29)))) :: Fa.eq (.agg (#[.int .u8 (x.1.r : Int), .int .u32 (x.1.n : Int)])) :: Fa.eq (.slice (some ad) n cp) :: Fa.eq (.int .i64 ((k : Nat))) :: Fa.eq (.pointer (some (ad.add (k * 29)))) :: Fa.eq (.pointer (some (ad.add (k * 29)))) :: Fa.eq (.agg (#[.int .u8 (y.1.r : Int), .int .u32 (y.1.n : Int)])) :: Fa.eq (.bool (true)) :: Fa.eq (.bool (true)) :: Fa.eq (.slice (some ad) n cp) :: Fa.eq (.int .i64 ((i : Nat))) :: Fa.eq (.pointer (some (ad.add (i * 29)))) :: Fa.eq (.agg (oc x.1)) :: Fa.eq (.slice (some ad) n cp) :: Fa.eq (.int .i64 ((k : Nat))) :: Fa.eq (.pointer (some (ad.add (k * 29)))) :: Fa.eq (.agg (oc y.1)) :: Fa.eq (.bool (false)) :: Fa.eq (.bool (true)) :: Fa.eq (.bool (true)) :: Fa.eq (.bool (true)) :: Fa.eq (.slice (some ad) n cp) :: Fa.eq (.int .i64 ((k : Nat))) :: Fa.eq (.pointer (some (ad.add (k * 29)))) :: Fa.eq (.agg (oc y.1)) :: Fa.eq (.slice (some ad) n cp) :: Fa.eq (.int .i64 ((i : Nat))) :: Fa.eq (.pointer (some (ad.add (i * 29)))) :: Fa.eq (.agg (oc x.1)) :: Fa.eq (.bool (false)) :: Fa.eq (.bool (true)) :: Fa.eq (.bool (true)) :: Fa.eq (.bool (false)) :: Fa.eq (.bool (false)) :: []) 177 (by kernel_rfl) (by kernel_rfl) (by kernel_rfl) rfl (by kernel_rfl) ?_ ?_ ?_
                    · exact fits_plain _ _ rfl
                    · refine ⟨?_, ?_, ?_, ?_, ?_, ?_, ?_, ?_, ?_, ?_, ?_, ?_, ?_, ?_, ?_, ?_, ?_, ?_, ?_, ?_, ?_, ?_, ?_, ?_, ?_, ?_, ?_, ?_, ?_, ?_, ?_, ?_, ?_, ?_, ?_, ?_, ?_, ?_, ?_, ?_, ?_, ?_, ?_, ?_, ?_, ?_, ?_, ?_, ?_, ?_, ?_, ?_, ?_, ?_, ?_, ?_, ?_, ?_, ?_, ?_, ?_, ?_, ?_, ?_, ?_, ?_, ?_, ?_, ?_, ?_, ?_, ?_, ?_, ?_, ?_, ?_, ?_, ?_, ?_, ?_, ?_, ?_, ?_, ?_, ?_, ?_, ?_, trivial⟩
                      · exact v_move (.inl rfl) rfl (by kernel_rfl) True.intro (Ev.out (by kernel_rfl) rfl)
                      · exact v_move (.inl rfl) rfl (by kernel_rfl) True.intro (Ev.out (by kernel_rfl) rfl)
                      · exact v_iaddr (u := .slice (some ad) n cp) (v := .int .i64 ((i : Nat))) (c := .pointer (some (ad.add (i * 29)))) rfl (fun w => idx_op ad n cp i hli w) rfl (by kernel_rfl) True.intro (Ev.at (i := 0) (by kernel_rfl) (by kernel_rfl) rfl) (Ev.at (i := 1) (by kernel_rfl) (by kernel_rfl) rfl)
                      · exact v_load (u := .pointer (some (ad.add (i * 29)))) (c := .agg (oc x.1)) rfl (fun w hB => ldp_op (OpIn.keep (OpIn.dr HXI.out) hB)) rfl (by kernel_rfl) True.intro (Ev.at (i := 2) (by kernel_rfl) (by kernel_rfl) rfl)
                      · exact v_move (.inl rfl) rfl (by kernel_rfl) True.intro (Ev.out (by kernel_rfl) rfl)
                      · exact v_move (.inl rfl) rfl (by kernel_rfl) True.intro (Ev.out (by kernel_rfl) rfl)
                      · exact v_iaddr (u := .slice (some ad) n cp) (v := .int .i64 ((k : Nat))) (c := .pointer (some (ad.add (k * 29)))) rfl (fun w => idx_op ad n cp k hlk w) rfl (by kernel_rfl) True.intro (Ev.at (i := 4) (by kernel_rfl) (by kernel_rfl) rfl) (Ev.at (i := 5) (by kernel_rfl) (by kernel_rfl) rfl)
                      · exact v_load (u := .pointer (some (ad.add (k * 29)))) (c := .agg (oc y.1)) rfl (fun w hB => ldp_op (OpIn.keep (OpIn.dr HYI.out) hB)) rfl (by kernel_rfl) True.intro (Ev.at (i := 6) (by kernel_rfl) (by kernel_rfl) rfl)
                      · exact v_call (vs := #[.agg (oc x.1), .agg (oc y.1)]) (c := .int .i64 (cmpM x y)) rfl (fun args w => rfl) (fun w hB => order_Compare x y w) rfl (by kernel_rfl) True.intro (ev2 (Ev.at (i := 3) (by kernel_rfl) (by kernel_rfl) rfl) (Ev.at (i := 7) (by kernel_rfl) (by kernel_rfl) rfl))
                      · exact v_move (.inl rfl) rfl (by kernel_rfl) True.intro (Ev.out (by kernel_rfl) rfl)
                      · exact v_move (.inl rfl) rfl (by kernel_rfl) True.intro (Ev.out (by kernel_rfl) rfl)
                      · exact v_iaddr (u := .slice (some ad) n cp) (v := .int .i64 ((i : Nat))) (c := .pointer (some (ad.add (i * 29)))) rfl (fun w => idx_op ad n cp i hli w) rfl (by kernel_rfl) True.intro (Ev.at (i := 9) (by kernel_rfl) (by kernel_rfl) rfl) (Ev.at (i := 10) (by kernel_rfl) (by kernel_rfl) rfl)
                      · exact v_load (u := .pointer (some (ad.add (i * 29)))) (c := .agg (oc x.1)) rfl (fun w hB => ldp_op (OpIn.keep (OpIn.dr HXI.out) hB)) rfl (by kernel_rfl) True.intro (Ev.at (i := 11) (by kernel_rfl) (by kernel_rfl) rfl)
                      · exact v_move (.inl rfl) rfl (by kernel_rfl) True.intro (Ev.out (by kernel_rfl) rfl)
                      · exact v_move (.inl rfl) rfl (by kernel_rfl) True.intro (Ev.out (by kernel_rfl) rfl)
                      · exact v_iaddr (u := .slice (some ad) n cp) (v := .int .i64 ((k : Nat))) (c := .pointer (some (ad.add (k * 29)))) rfl (fun w => idx_op ad n cp k hlk w) rfl (by kernel_rfl) True.intro (Ev.at (i := 13) (by kernel_rfl) (by kernel_rfl) rfl) (Ev.at (i := 14) (by kernel_rfl) (by kernel_rfl) rfl)
                      · exact v_load (u := .pointer (some (ad.add (k * 29)))) (c := .agg (oc y.1)) rfl (fun w hB => ldp_op (OpIn.keep (OpIn.dr HYI.out) hB)) rfl (by kernel_rfl) True.intro (Ev.at (i := 15) (by kernel_rfl) (by kernel_rfl) rfl)
                      · exact v_call (vs := #[.agg (oc x.1), .agg (oc y.1)]) (c := .int .i64 (cmpM x y)) rfl (fun args w => rfl) (fun w hB => ref_Compare x y HOKX.out HOKY.out w) rfl (by kernel_rfl) True.intro (ev2 (Ev.at (i := 12) (by kernel_rfl) (by kernel_rfl) rfl) (Ev.at (i := 16) (by kernel_rfl) (by kernel_rfl) rfl))
                      · exact v_bin (u := .int .i64 (cmpM x y)) (v := .int .i64 (cmpM x y)) (c := .bool (false)) rfl (fun w => bin_neqI _ _ _ w) rfl (by kernel_rfl) True.intro (Ev.at (i := 8) (by kernel_rfl) (by kernel_rfl) rfl) (Ev.at (i := 17) (by kernel_rfl) (by kernel_rfl) rfl)
                      · exact v_move (.inl rfl) rfl (by kernel_rfl) True.intro (Ev.at (i := 18) (by kernel_rfl) (by kernel_rfl) rfl)
                      · exact v_move (.inl rfl) rfl (by kernel_rfl) ⟨rfl, (by kernel_rfl), (by kernel_rfl)⟩ (Ev.out (by kernel_rfl) rfl)
                      · exact v_move (.inl rfl) rfl (by kernel_rfl) ⟨rfl, (by kernel_rfl), (by kernel_rfl)⟩ (Ev.out (by kernel_rfl) rfl)
                      · exact v_iaddr (u := .slice (some ad) n cp) (v := .int .i64 ((i : Nat))) (c := .pointer (some (ad.add (i * 29)))) rfl (fun w => idx_op ad n cp i hli w) rfl (by kernel_rfl) ⟨rfl, (by kernel_rfl), (by kernel_rfl)⟩ (Ev.at (i := 20) (by kernel_rfl) (by kernel_rfl) rfl) (Ev.at (i := 21) (by kernel_rfl) (by kernel_rfl) rfl)
                      · exact v_load (u := .pointer (some (ad.add (i * 29)))) (c := .agg (oc x.1)) rfl (fun w hB => ldp_op (OpIn.keep (OpIn.dr HXI.out) hB)) rfl (by kernel_rfl) ⟨rfl, (by kernel_rfl), (by kernel_rfl)⟩ (Ev.at (i := 22) (by kernel_rfl) (by kernel_rfl) rfl)
                      · exact v_move (.inl rfl) rfl (by kernel_rfl) ⟨rfl, (by kernel_rfl), (by kernel_rfl)⟩ (Ev.out (by kernel_rfl) rfl)
                      · exact v_move (.inl rfl) rfl (by kernel_rfl) ⟨rfl, (by kernel_rfl), (by kernel_rfl)⟩ (Ev.out (by kernel_rfl) rfl)
                      · exact v_iaddr (u := .slice (some ad) n cp) (v := .int .i64 ((k : Nat))) (c := .pointer (some (ad.add (k * 29)))) rfl (fun w => idx_op ad n cp k hlk w) rfl (by kernel_rfl) ⟨rfl, (by kernel_rfl), (by kernel_rfl)⟩ (Ev.at (i := 24) (by kernel_rfl) (by kernel_rfl) rfl) (Ev.at (i := 25) (by kernel_rfl) (by kernel_rfl) rfl)
                      · exact v_load (u := .pointer (some (ad.add (k * 29)))) (c := .agg (oc y.1)) rfl (fun w hB => ldp_op (OpIn.keep (OpIn.dr HYI.out) hB)) rfl (by kernel_rfl) ⟨rfl, (by kernel_rfl), (by kernel_rfl)⟩ (Ev.at (i := 26) (by kernel_rfl) (by kernel_rfl) rfl)
                      · exact v_call (vs := #[.agg (oc x.1), .agg (oc y.1)]) (c := .bool (false)) rfl (fun args w => rfl) (fun w hB => HB1.out w) rfl (by kernel_rfl) ⟨rfl, (by kernel_rfl), (by kernel_rfl)⟩ (ev2 (Ev.at (i := 23) (by kernel_rfl) (by kernel_rfl) rfl) (Ev.at (i := 27) (by kernel_rfl) (by kernel_rfl) rfl))
                      · exact v_move (.inl rfl) rfl (by kernel_rfl) ⟨rfl, (by kernel_rfl), (by kernel_rfl)⟩ (Ev.out (by kernel_rfl) rfl)
                      · exact v_move (.inl rfl) rfl (by kernel_rfl) ⟨rfl, (by kernel_rfl), (by kernel_rfl)⟩ (Ev.out (by kernel_rfl) rfl)
                      · exact v_iaddr (u := .slice (some ad) n cp) (v := .int .i64 ((i : Nat))) (c := .pointer (some (ad.add (i * 29)))) rfl (fun w => idx_op ad n cp i hli w) rfl (by kernel_rfl) ⟨rfl, (by kernel_rfl), (by kernel_rfl)⟩ (Ev.at (i := 29) (by kernel_rfl) (by kernel_rfl) rfl) (Ev.at (i := 30) (by kernel_rfl) (by kernel_rfl) rfl)
                      · exact v_load (u := .pointer (some (ad.add (i * 29)))) (c := .agg (oc x.1)) rfl (fun w hB => ldp_op (OpIn.keep (OpIn.dr HXI.out) hB)) rfl (by kernel_rfl) ⟨rfl, (by kernel_rfl), (by kernel_rfl)⟩ (Ev.at (i := 31) (by kernel_rfl) (by kernel_rfl) rfl)
                      · exact v_move (.inl rfl) rfl (by kernel_rfl) ⟨rfl, (by kernel_rfl), (by kernel_rfl)⟩ (Ev.out (by kernel_rfl) rfl)
                      · exact v_move (.inl rfl) rfl (by kernel_rfl) ⟨rfl, (by kernel_rfl), (by kernel_rfl)⟩ (Ev.out (by kernel_rfl) rfl)
                      · exact v_iaddr (u := .slice (some ad) n cp) (v := .int .i64 ((k : Nat))) (c := .pointer (some (ad.add (k * 29)))) rfl (fun w => idx_op ad n cp k hlk w) rfl (by kernel_rfl) ⟨rfl, (by kernel_rfl), (by kernel_rfl)⟩ (Ev.at (i := 33) (by kernel_rfl) (by kernel_rfl) rfl) (Ev.at (i := 34) (by kernel_rfl) (by kernel_rfl) rfl)
                      · exact v_load (u := .pointer (some (ad.add (k * 29)))) (c := .agg (oc y.1)) rfl (fun w hB => ldp_op (OpIn.keep (OpIn.dr HYI.out) hB)) rfl (by kernel_rfl) ⟨rfl, (by kernel_rfl), (by kernel_rfl)⟩ (Ev.at (i := 35) (by kernel_rfl) (by kernel_rfl) rfl)
                      · exact v_call (vs := #[.agg (oc x.1), .agg (oc y.1)]) (c := .bool (false)) rfl (fun args w => rfl) (fun w hB => HB2.out w) rfl (by kernel_rfl) ⟨rfl, (by kernel_rfl), (by kernel_rfl)⟩ (ev2 (Ev.at (i := 32) (by kernel_rfl) (by kernel_rfl) rfl) (Ev.at (i := 36) (by kernel_rfl) (by kernel_rfl) rfl))
                      · exact v_bin (u := .bool (false)) (v := .bool (false)) (c := .bool (false)) rfl (fun w => bin_neqBs _ _ false w) rfl (by kernel_rfl) ⟨rfl, (by kernel_rfl), (by kernel_rfl)⟩ (Ev.at (i := 28) (by kernel_rfl) (by kernel_rfl) rfl) (Ev.at (i := 37) (by kernel_rfl) (by kernel_rfl) rfl)
                      · exact v_or (p := false) (q := false) rfl rfl (by kernel_rfl) True.intro (Ev.at (i := 19) (by kernel_rfl) (by kernel_rfl) rfl) (fun hp => (Ev.at (i := 38) (by kernel_rfl) (by kernel_rfl) rfl))
                      · exact v_move (.inl rfl) rfl (by kernel_rfl) True.intro (Ev.at (i := 39) (by kernel_rfl) (by kernel_rfl) rfl)
                      · exact v_move (.inl rfl) rfl (by kernel_rfl) ⟨rfl, (by kernel_rfl), (by kernel_rfl)⟩ (Ev.out (by kernel_rfl) rfl)
                      · exact v_move (.inl rfl) rfl (by kernel_rfl) ⟨rfl, (by kernel_rfl), (by kernel_rfl)⟩ (Ev.out (by kernel_rfl) rfl)
                      · exact v_iaddr (u := .slice (some ad) n cp) (v := .int .i64 ((i : Nat))) (c := .pointer (some (ad.add (i * 29)))) rfl (fun w => idx_op ad n cp i hli w) rfl (by kernel_rfl) ⟨rfl, (by kernel_rfl), (by kernel_rfl)⟩ (Ev.at (i := 41) (by kernel_rfl) (by kernel_rfl) rfl) (Ev.at (i := 42) (by kernel_rfl) (by kernel_rfl) rfl)
                      · exact v_load (u := .pointer (some (ad.add (i * 29)))) (c := .agg (oc x.1)) rfl (fun w hB => ldp_op (OpIn.keep (OpIn.dr HXI.out) hB)) rfl (by kernel_rfl) ⟨rfl, (by kernel_rfl), (by kernel_rfl)⟩ (Ev.at (i := 43) (by kernel_rfl) (by kernel_rfl) rfl)
                      · exact v_move (.inl rfl) rfl (by kernel_rfl) ⟨rfl, (by kernel_rfl), (by kernel_rfl)⟩ (Ev.out (by kernel_rfl) rfl)
                      · exact v_move (.inl rfl) rfl (by kernel_rfl) ⟨rfl, (by kernel_rfl), (by kernel_rfl)⟩ (Ev.out (by kernel_rfl) rfl)
                      · exact v_iaddr (u := .slice (some ad) n cp) (v := .int .i64 ((k : Nat))) (c := .pointer (some (ad.add (k * 29)))) rfl (fun w => idx_op ad n cp k hlk w) rfl (by kernel_rfl) ⟨rfl, (by kernel_rfl), (by kernel_rfl)⟩ (Ev.at (i := 45) (by kernel_rfl) (by kernel_rfl) rfl) (Ev.at (i := 46) (by kernel_rfl) (by kernel_rfl) rfl)
                      · exact v_load (u := .pointer (some (ad.add (k * 29)))) (c := .agg (oc y.1)) rfl (fun w hB => ldp_op (OpIn.keep (OpIn.dr HYI.out) hB)) rfl (by kernel_rfl) ⟨rfl, (by kernel_rfl), (by kernel_rfl)⟩ (Ev.at (i := 47) (by kernel_rfl) (by kernel_rfl) rfl)
                      · exact v_call (vs := #[.agg (oc x.1), .agg (oc y.1)]) (c := .bool (true)) rfl (fun args w => rfl) (fun w hB => HB4.out w) rfl (by kernel_rfl) ⟨rfl, (by kernel_rfl), (by kernel_rfl)⟩ (ev2 (Ev.at (i := 44) (by kernel_rfl) (by kernel_rfl) rfl) (Ev.at (i := 48) (by kernel_rfl) (by kernel_rfl) rfl))
                      · exact v_move (.inl rfl) rfl (by kernel_rfl) ⟨rfl, (by kernel_rfl), (by kernel_rfl)⟩ (Ev.out (by kernel_rfl) rfl)
                      · exact v_move (.inl rfl) rfl (by kernel_rfl) ⟨rfl, (by kernel_rfl), (by kernel_rfl)⟩ (Ev.out (by kernel_rfl) rfl)
                      · exact v_iaddr (u := .slice (some ad) n cp) (v := .int .i64 ((i : Nat))) (c := .pointer (some (ad.add (i * 29)))) rfl (fun w => idx_op ad n cp i hli w) rfl (by kernel_rfl) ⟨rfl, (by kernel_rfl), (by kernel_rfl)⟩ (Ev.at (i := 50) (by kernel_rfl) (by kernel_rfl) rfl) (Ev.at (i := 51) (by kernel_rfl) (by kernel_rfl) rfl)
                      · exact v_faddr (u := .pointer (some (ad.add (i * 29)))) (c := .pointer (some (ad.add (i * 29)))) rfl (fun w => (fld_op (ad.add (i * 29)) w).1) rfl (by kernel_rfl) ⟨rfl, (by kernel_rfl), (by kernel_rfl)⟩ (Ev.at (i := 52) (by kernel_rfl) (by kernel_rfl) rfl)
                      · exact v_load (u := .pointer (some (ad.add (i * 29)))) (c := .agg (#[.int .u8 (x.1.r : Int), .int .u32 (x.1.n : Int)])) rfl (fun w hB => ldp_dot (OpIn.keep (OpIn.dr HXI.out) hB)) rfl (by kernel_rfl) ⟨rfl, (by kernel_rfl), (by kernel_rfl)⟩ (Ev.at (i := 53) (by kernel_rfl) (by kernel_rfl) rfl)
                      · exact v_move (.inl rfl) rfl (by kernel_rfl) ⟨rfl, (by kernel_rfl), (by kernel_rfl)⟩ (Ev.out (by kernel_rfl) rfl)
                      · exact v_move (.inl rfl) rfl (by kernel_rfl) ⟨rfl, (by kernel_rfl), (by kernel_rfl)⟩ (Ev.out (by kernel_rfl) rfl)
                      · exact v_iaddr (u := .slice (some ad) n cp) (v := .int .i64 ((k : Nat))) (c := .pointer (some (ad.add (k * 29)))) rfl (fun w => idx_op ad n cp k hlk w) rfl (by kernel_rfl) ⟨rfl, (by kernel_rfl), (by kernel_rfl)⟩ (Ev.at (i := 55) (by kernel_rfl) (by kernel_rfl) rfl) (Ev.at (i := 56) (by kernel_rfl) (by kernel_rfl) rfl)
                      · exact v_faddr (u := .pointer (some (ad.add (k * 29)))) (c := .pointer (some (ad.add (k * 29)))) rfl (fun w => (fld_op (ad.add (k * 29)) w).1) rfl (by kernel_rfl) ⟨rfl, (by kernel_rfl), (by kernel_rfl)⟩ (Ev.at (i := 57) (by kernel_rfl) (by kernel_rfl) rfl)
                      · exact v_load (u := .pointer (some (ad.add (k * 29)))) (c := .agg (#[.int .u8 (y.1.r : Int), .int .u32 (y.1.n : Int)])) rfl (fun w hB => ldp_dot (OpIn.keep (OpIn.dr HYI.out) hB)) rfl (by kernel_rfl) ⟨rfl, (by kernel_rfl), (by kernel_rfl)⟩ (Ev.at (i := 58) (by kernel_rfl) (by kernel_rfl) rfl)
                      · exact v_bin (u := .agg (#[.int .u8 (x.1.r : Int), .int .u32 (x.1.n : Int)])) (v := .agg (#[.int .u8 (y.1.r : Int), .int .u32 (y.1.n : Int)])) (c := .bool (true)) rfl (fun w => bin_neqDe HEQ.out _ _ w) rfl (by kernel_rfl) ⟨rfl, (by kernel_rfl), (by kernel_rfl)⟩ (Ev.at (i := 54) (by kernel_rfl) (by kernel_rfl) rfl) (Ev.at (i := 59) (by kernel_rfl) (by kernel_rfl) rfl)
                      · exact v_move (.inl rfl) rfl (by kernel_rfl) ⟨rfl, (by kernel_rfl), (by kernel_rfl)⟩ (Ev.at (i := 60) (by kernel_rfl) (by kernel_rfl) rfl)
                      · exact v_move (.inl rfl) rfl (by kernel_rfl) ⟨rfl, (by kernel_rfl), (by kernel_rfl)⟩ (Ev.out (by kernel_rfl) rfl)
                      · exact v_move (.inl rfl) rfl (by kernel_rfl) ⟨rfl, (by kernel_rfl), (by kernel_rfl)⟩ (Ev.out (by kernel_rfl) rfl)
                      · exact v_iaddr (u := .slice (some ad) n cp) (v := .int .i64 ((i : Nat))) (c := .pointer (some (ad.add (i * 29)))) rfl (fun w => idx_op ad n cp i hli w) rfl (by kernel_rfl) ⟨rfl, (by kernel_rfl), (by kernel_rfl)⟩ (Ev.at (i := 62) (by kernel_rfl) (by kernel_rfl) rfl) (Ev.at (i := 63) (by kernel_rfl) (by kernel_rfl) rfl)
                      · exact v_load (u := .pointer (some (ad.add (i * 29)))) (c := .agg (oc x.1)) rfl (fun w hB => ldp_op (OpIn.keep (OpIn.dr HXI.out) hB)) rfl (by kernel_rfl) ⟨rfl, (by kernel_rfl), (by kernel_rfl)⟩ (Ev.at (i := 64) (by kernel_rfl) (by kernel_rfl) rfl)
                      · exact v_move (.inl rfl) rfl (by kernel_rfl) ⟨rfl, (by kernel_rfl), (by kernel_rfl)⟩ (Ev.out (by kernel_rfl) rfl)
                      · exact v_move (.inl rfl) rfl (by kernel_rfl) ⟨rfl, (by kernel_rfl), (by kernel_rfl)⟩ (Ev.out (by kernel_rfl) rfl)
                      · exact v_iaddr (u := .slice (some ad) n cp) (v := .int .i64 ((k : Nat))) (c := .pointer (some (ad.add (k * 29)))) rfl (fun w => idx_op ad n cp k hlk w) rfl (by kernel_rfl) ⟨rfl, (by kernel_rfl), (by kernel_rfl)⟩ (Ev.at (i := 66) (by kernel_rfl) (by kernel_rfl) rfl) (Ev.at (i := 67) (by kernel_rfl) (by kernel_rfl) rfl)
                      · exact v_load (u := .pointer (some (ad.add (k * 29)))) (c := .agg (oc y.1)) rfl (fun w hB => ldp_op (OpIn.keep (OpIn.dr HYI.out) hB)) rfl (by kernel_rfl) ⟨rfl, (by kernel_rfl), (by kernel_rfl)⟩ (Ev.at (i := 68) (by kernel_rfl) (by kernel_rfl) rfl)
                      · exact v_call (vs := #[.agg (oc x.1), .agg (oc y.1)]) (c := .bool (false)) rfl (fun args w => rfl) (fun w hB => HB2.out w) rfl (by kernel_rfl) ⟨rfl, (by kernel_rfl), (by kernel_rfl)⟩ (ev2 (Ev.at (i := 65) (by kernel_rfl) (by kernel_rfl) rfl) (Ev.at (i := 69) (by kernel_rfl) (by kernel_rfl) rfl))
                      · exact v_not (b := false) rfl rfl (by kernel_rfl) ⟨rfl, (by kernel_rfl), (by kernel_rfl)⟩ (Ev.at (i := 70) (by kernel_rfl) (by kernel_rfl) rfl)
                      · exact v_and (p := true) (q := true) rfl rfl (by kernel_rfl) ⟨rfl, (by kernel_rfl), (by kernel_rfl)⟩ (Ev.at (i := 61) (by kernel_rfl) (by kernel_rfl) rfl) (fun hp => (Ev.at (i := 71) (by kernel_rfl) (by kernel_rfl) rfl))
                      · exact v_move (.inl rfl) rfl (by kernel_rfl) ⟨rfl, (by kernel_rfl), (by kernel_rfl)⟩ (Ev.at (i := 72) (by kernel_rfl) (by kernel_rfl) rfl)
                      · exact v_move (.inl rfl) rfl (by kernel_rfl) ⟨rfl, (by kernel_rfl), (by kernel_rfl)⟩ (Ev.out (by kernel_rfl) rfl)
                      · exact v_move (.inl rfl) rfl (by kernel_rfl) ⟨rfl, (by kernel_rfl), (by kernel_rfl)⟩ (Ev.out (by kernel_rfl) rfl)
                      · exact v_iaddr (u := .slice (some ad) n cp) (v := .int .i64 ((k : Nat))) (c := .pointer (some (ad.add (k * 29)))) rfl (fun w => idx_op ad n cp k hlk w) rfl (by kernel_rfl) ⟨rfl, (by kernel_rfl), (by kernel_rfl)⟩ (Ev.at (i := 74) (by kernel_rfl) (by kernel_rfl) rfl) (Ev.at (i := 75) (by kernel_rfl) (by kernel_rfl) rfl)
                      · exact v_load (u := .pointer (some (ad.add (k * 29)))) (c := .agg (oc y.1)) rfl (fun w hB => ldp_op (OpIn.keep (OpIn.dr HYI.out) hB)) rfl (by kernel_rfl) ⟨rfl, (by kernel_rfl), (by kernel_rfl)⟩ (Ev.at (i := 76) (by kernel_rfl) (by kernel_rfl) rfl)
                      · exact v_move (.inl rfl) rfl (by kernel_rfl) ⟨rfl, (by kernel_rfl), (by kernel_rfl)⟩ (Ev.out (by kernel_rfl) rfl)
                      · exact v_move (.inl rfl) rfl (by kernel_rfl) ⟨rfl, (by kernel_rfl), (by kernel_rfl)⟩ (Ev.out (by kernel_rfl) rfl)
                      · exact v_iaddr (u := .slice (some ad) n cp) (v := .int .i64 ((i : Nat))) (c := .pointer (some (ad.add (i * 29)))) rfl (fun w => idx_op ad n cp i hli w) rfl (by kernel_rfl) ⟨rfl, (by kernel_rfl), (by kernel_rfl)⟩ (Ev.at (i := 78) (by kernel_rfl) (by kernel_rfl) rfl) (Ev.at (i := 79) (by kernel_rfl) (by kernel_rfl) rfl)
                      · exact v_load (u := .pointer (some (ad.add (i * 29)))) (c := .agg (oc x.1)) rfl (fun w hB => ldp_op (OpIn.keep (OpIn.dr HXI.out) hB)) rfl (by kernel_rfl) ⟨rfl, (by kernel_rfl), (by kernel_rfl)⟩ (Ev.at (i := 80) (by kernel_rfl) (by kernel_rfl) rfl)
                      · exact v_call (vs := #[.agg (oc y.1), .agg (oc x.1)]) (c := .bool (false)) rfl (fun args w => rfl) (fun w hB => HB3.out w) rfl (by kernel_rfl) ⟨rfl, (by kernel_rfl), (by kernel_rfl)⟩ (ev2 (Ev.at (i := 77) (by kernel_rfl) (by kernel_rfl) rfl) (Ev.at (i := 81) (by kernel_rfl) (by kernel_rfl) rfl))
                      · exact v_not (b := false) rfl rfl (by kernel_rfl) ⟨rfl, (by kernel_rfl), (by kernel_rfl)⟩ (Ev.at (i := 82) (by kernel_rfl) (by kernel_rfl) rfl)
                      · exact v_and (p := true) (q := true) rfl rfl (by kernel_rfl) ⟨rfl, (by kernel_rfl), (by kernel_rfl)⟩ (Ev.at (i := 73) (by kernel_rfl) (by kernel_rfl) rfl) (fun hp => (Ev.at (i := 83) (by kernel_rfl) (by kernel_rfl) rfl))
                      · exact v_bin (u := .bool (true)) (v := .bool (true)) (c := .bool (false)) rfl (fun w => bin_neqBs _ _ true w) rfl (by kernel_rfl) ⟨rfl, (by kernel_rfl), (by kernel_rfl)⟩ (Ev.at (i := 49) (by kernel_rfl) (by kernel_rfl) rfl) (Ev.at (i := 84) (by kernel_rfl) (by kernel_rfl) rfl)
                      · exact v_or (p := false) (q := false) rfl rfl (by kernel_rfl) True.intro (Ev.at (i := 40) (by kernel_rfl) (by kernel_rfl) rfl) (fun hp => (Ev.at (i := 85) (by kernel_rfl) (by kernel_rfl) rfl))
                    intro _ vs w5 hB5 hf
                    have e86 : vs 86 = .bool false := hf 86 (by decide)
                    simp only [fill, List.setIfInBounds_toArray, List.set_cons_zero, List.set_cons_succ, e86]
                    clear hf e86
                    have HR2 := hid (show w5.heap[W0.heap.size]? = some (.cells (vc vv) 25 (0, 0)) ∧ Below W0.heap.size W0 w5 from ⟨heap_keep HR.out.1 hB5, below_next HR.out.2 hB5⟩)
                    clear hB5
                    go_wp2
                    go_roundw
                    case rel => exact ⟨k + 1, by omega, by go_num, HR2⟩
                    case measure => exact meas1 hlk
                  · rw [show besO x y = false by unfold besO; rw [heq, hbx, hby]; rfl] at hB4
                    rw [hbx] at hB1 hB2
                    rw [hby] at hB3
                    have HB1 := hid hB1
                    have HB2 := hid hB2
                    have HB3 := hid hB3
                    have HB4 := hid hB4
                    have HEQ := hid heq
                    clear hB1 hB2 hB3 hB4 heq hbx hby
                    go_upto_region 9 with (fail)
                    simp only [List.append_eq, List.cons_append, List.nil_append]
                    refine wp_flow (fun _ => none) (Fa.eq (.slice (some ad) n cp) :: Fa.eq (.int .i64 ((i : Nat))) :: Fa.eq (.pointer (some (ad.add (i * 29)))) :: Fa.eq (.agg (oc x.1)) :: Fa.eq (.slice (some ad) n cp) :: Fa.eq (.int .i64 ((k : Nat))) :: Fa.eq (.pointer (some (ad.add (k * 29)))) :: Fa.eq (.agg (oc y.1)) :: Fa.eq (.int .i64 (cmpM x y)) :: Fa.eq (.slice (some ad) n cp) :: Fa.eq (.int .i64 ((i : Nat))) :: Fa.eq (.pointer (some (ad.add (i * 29)))) :: Fa.eq (.agg (oc x.1)) :: Fa.eq (.slice (some ad) n cp) :: Fa.eq (.int .i64 ((k : Nat))) :: Fa.eq (.pointer (some (ad.add (k * 29)))) :: Fa.eq (.agg (oc y.1)) :: Fa.eq (.int .i64 (cmpM x y)) :: Fa.eq (.bool (false)) :: Fa.eq (.bool (false)) :: Fa.eq (.slice (some ad) n cp) :: Fa.eq (.int .i64 ((i : Nat))) :: Fa.eq (.pointer (some (ad.add (i * 29)))) :: Fa.eq (.agg (oc x.1)) :: Fa.eq (.slice (some ad) n cp) :: Fa.eq (.int .i64 ((k : Nat))) :: Fa.eq (.pointer (some (ad.add (k * 29)))) :: Fa.eq (.agg (oc y.1)) :: Fa.eq (.bool (false)) :: Fa.eq (.slice (some ad) n cp) :: Fa.eq (.int .i64 ((i : Nat))) :: Fa.eq (.pointer (some (ad.add (i * 29)))) :: Fa.eq (.agg (oc x.1)) :: Fa.eq (.slice (some ad) n cp) :: Fa.eq (.int .i64 ((k : Nat))) :: Fa.eq (.pointer (some (ad.add (k * 29)))) :: Fa.eq (.agg (oc y.1)) :: Fa.eq (.bool (false)) :: Fa.eq (.bool (false)) :: Fa.eq (.bool (false)) :: Fa.eq (.bool (false)) :: Fa.eq (.slice (some ad) n cp) :: Fa.eq (.int .i64 ((i : Nat))) :: Fa.eq (.pointer (some (ad.add (i * 29)))) :: Fa.eq (.agg (oc x.1)) :: Fa.eq (.slice (some ad) n cp) :: Fa.eq (.int .i64 ((k : Nat))) :: Fa.eq (.pointer (some (ad.add (k * 29)))) :: Fa.eq (.agg (oc y.1)) :: Fa.eq (.bool (false)) :: Fa.eq (.slice (some ad) n cp) :: Fa.eq (.int .i64 ((i : Nat))) :: Fa.eq (.pointer (some (ad.add (i * 29)))) :: Fa.eq (.pointer (some (ad.add (i * 29)))) :: Fa.eq (.agg (#[.int .u8 (x.1.r : Int), .int .u32 (x.1.n : Int)])) :: Fa.eq (.slice (some ad) n cp) :: Fa.eq (.int .i64 ((k : Nat))) :: Fa.eq (.pointer (some (ad.add (k * 29)))) :: Fa.eq (.pointer (some (ad.add (k * 29)))) :: Fa.eq (.agg (#[.int .u8 (y.1.r : Int), .int .u32 (y.1.n : Int)])) :: Fa.eq (.bool (true)) :: Fa.eq (.bool (true)) :: Fa.eq (.slice (some ad) n cp) :: Fa.eq (.int .i64 ((i : Nat))) :: Fa.eq (.pointer (some (ad.add (i * 29)))) :: Fa.eq (.agg (oc x.1)) :: Fa.eq (.slice (some ad) n cp) :: Fa.eq (.int .i64 ((k : Nat))) :: Fa.eq (.pointer (some (ad.add (k * 29)))) :: Fa.eq (.agg (oc y.1)) :: Fa.eq (.bool (false)) :: Fa.eq (.bool (true)) :: Fa.eq (.bool (true)) :: Fa.eq (.bool (true)) :: Fa.eq (.slice (some ad) n cp) :: Fa.eq (.int .i64 ((k : Nat))) :: Fa.eq (.pointer (some (ad.add (k * 29)))) :: Fa.eq (.agg (oc y.1)) :: Fa.eq (.slice (some ad) n cp) :: Fa.eq (.int .i64 ((i : Nat))) :: Fa.eq (.pointer (some (ad.add (i * 29)))) :: Fa.eq (.agg (oc x.1)) :: Fa.eq (.bool (true)) :: Fa.eq (.bool (false)) :: Fa.eq (.bool (false)) :: Fa.eq (.bool (false)) :: Fa.eq (.bool (false)) :: []) 177 (by kernel_rfl) (by kernel_rfl) (by kernel_rfl) rfl (by kernel_rfl) ?_ ?_ ?_
                    · exact fits_plain _ _ rfl
                    · refine ⟨?_, ?_, ?_, ?_, ?_, ?_, ?_, ?_, ?_, ?_, ?_, ?_, ?_, ?_, ?_, ?_, ?_, ?_, ?_, ?_, ?_, ?_, ?_, ?_, ?_, ?_, ?_, ?_, ?_, ?_, ?_, ?_, ?_, ?_, ?_, ?_, ?_, ?_, ?_, ?_, ?_, ?_, ?_, ?_, ?_, ?_, ?_, ?_, ?_, ?_, ?_, ?_, ?_, ?_, ?_, ?_, ?_, ?_, ?_, ?_, ?_, ?_, ?_, ?_, ?_, ?_, ?_, ?_, ?_, ?_, ?_, ?_, ?_, ?_, ?_, ?_, ?_, ?_, ?_, ?_, ?_, ?_, ?_, ?_, ?_, ?_, ?_, trivial⟩
                      · exact v_move (.inl rfl) rfl (by kernel_rfl) True.intro (Ev.out (by kernel_rfl) rfl)
                      · exact v_move (.inl rfl) rfl (by kernel_rfl) True.intro (Ev.out (by kernel_rfl) rfl)
                      · exact v_iaddr (u := .slice (some ad) n cp) (v := .int .i64 ((i : Nat))) (c := .pointer (some (ad.add (i * 29)))) rfl (fun w => idx_op ad n cp i hli w) rfl (by kernel_rfl) True.intro (Ev.at (i := 0) (by kernel_rfl) (by kernel_rfl) rfl) (Ev.at (i := 1) (by kernel_rfl) (by kernel_rfl) rfl)
                      · exact v_load (u := .pointer (some (ad.add (i * 29)))) (c := .agg (oc x.1)) rfl (fun w hB => ldp_op (OpIn.keep (OpIn.dr HXI.out) hB)) rfl (by kernel_rfl) True.intro (Ev.at (i := 2) (by kernel_rfl) (by kernel_rfl) rfl)
                      · exact v_move (.inl rfl) rfl (by kernel_rfl) True.intro (Ev.out (by kernel_rfl) rfl)
                      · exact v_move (.inl rfl) rfl (by kernel_rfl) True.intro (Ev.out (by kernel_rfl) rfl)
                      · exact v_iaddr (u := .slice (some ad) n cp) (v := .int .i64 ((k : Nat))) (c := .pointer (some (ad.add (k * 29)))) rfl (fun w => idx_op ad n cp k hlk w) rfl (by kernel_rfl) True.intro (Ev.at (i := 4) (by kernel_rfl) (by kernel_rfl) rfl) (Ev.at (i := 5) (by kernel_rfl) (by kernel_rfl) rfl)
                      · exact v_load (u := .pointer (some (ad.add (k * 29)))) (c := .agg (oc y.1)) rfl (fun w hB => ldp_op (OpIn.keep (OpIn.dr HYI.out) hB)) rfl (by kernel_rfl) True.intro (Ev.at (i := 6) (by kernel_rfl) (by kernel_rfl) rfl)
                      · exact v_call (vs := #[.agg (oc x.1), .agg (oc y.1)]) (c := .int .i64 (cmpM x y)) rfl (fun args w => rfl) (fun w hB => order_Compare x y w) rfl (by kernel_rfl) True.intro (ev2 (Ev.at (i := 3) (by kernel_rfl) (by kernel_rfl) rfl) (Ev.at (i := 7) (by kernel_rfl) (by kernel_rfl) rfl))
                      · exact v_move (.inl rfl) rfl (by kernel_rfl) True.intro (Ev.out (by kernel_rfl) rfl)
                      · exact v_move (.inl rfl) rfl (by kernel_rfl) True.intro (Ev.out (by kernel_rfl) rfl)
                      · exact v_iaddr (u := .slice (some ad) n cp) (v := .int .i64 ((i : Nat))) (c := .pointer (some (ad.add (i * 29)))) rfl (fun w => idx_op ad n cp i hli w) rfl (by kernel_rfl) True.intro (Ev.at (i := 9) (by kernel_rfl) (by kernel_rfl) rfl) (Ev.at (i := 10) (by kernel_rfl) (by kernel_rfl) rfl)
                      · exact v_load (u := .pointer (some (ad.add (i * 29)))) (c := .agg (oc x.1)) rfl (fun w hB => ldp_op (OpIn.keep (OpIn.dr HXI.out) hB)) rfl (by kernel_rfl) True.intro (Ev.at (i := 11) (by kernel_rfl) (by kernel_rfl) rfl)
                      · exact v_move (.inl rfl) rfl (by kernel_rfl) True.intro (Ev.out (by kernel_rfl) rfl)
                      · exact v_move (.inl rfl) rfl (by kernel_rfl) True.intro (Ev.out (by kernel_rfl) rfl)
                      · exact v_iaddr (u := .slice (some ad) n cp) (v := .int .i64 ((k : Nat))) (c := .pointer (some (ad.add (k * 29)))) rfl (fun w => idx_op ad n cp k hlk w) rfl (by kernel_rfl) True.intro (Ev.at (i := 13) (by kernel_rfl) (by kernel_rfl) rfl) (Ev.at (i := 14) (by kernel_rfl) (by kernel_rfl) rfl)
                      · exact v_load (u := .pointer (some (ad.add (k * 29)))) (c := .agg (oc y.1)) rfl (fun w hB => ldp_op (OpIn.keep (OpIn.dr HYI.out) hB)) rfl (by kernel_rfl) True.intro (Ev.at (i := 15) (by kernel_rfl) (by kernel_rfl) rfl)
                      · exact v_call (vs := #[.agg (oc x.1), .agg (oc y.1)]) (c := .int .i64 (cmpM x y)) rfl (fun args w => rfl) (fun w hB => ref_Compare x y HOKX.out HOKY.out w) rfl (by kernel_rfl) True.intro (ev2 (Ev.at (i := 12) (by kernel_rfl) (by kernel_rfl) rfl) (Ev.at (i := 16) (by kernel_rfl) (by kernel_rfl) rfl))
                      · exact v_bin (u := .int .i64 (cmpM x y)) (v := .int .i64 (cmpM x y)) (c := .bool (false)) rfl (fun w => bin_neqI _ _ _ w) rfl (by kernel_rfl) True.intro (Ev.at (i := 8) (by kernel_rfl) (by kernel_rfl) rfl) (Ev.at (i := 17) (by kernel_rfl) (by kernel_rfl) rfl)
                      · exact v_move (.inl rfl) rfl (by kernel_rfl) True.intro (Ev.at (i := 18) (by kernel_rfl) (by kernel_rfl) rfl)
                      · exact v_move (.inl rfl) rfl (by kernel_rfl) ⟨rfl, (by kernel_rfl), (by kernel_rfl)⟩ (Ev.out (by kernel_rfl) rfl)
                      · exact v_move (.inl rfl) rfl (by kernel_rfl) ⟨rfl, (by kernel_rfl), (by kernel_rfl)⟩ (Ev.out (by kernel_rfl) rfl)
                      · exact v_iaddr (u := .slice (some ad) n cp) (v := .int .i64 ((i : Nat))) (c := .pointer (some (ad.add (i * 29)))) rfl (fun w => idx_op ad n cp i hli w) rfl (by kernel_rfl) ⟨rfl, (by kernel_rfl), (by kernel_rfl)⟩ (Ev.at (i := 20) (by kernel_rfl) (by kernel_rfl) rfl) (Ev.at (i := 21) (by kernel_rfl) (by kernel_rfl) rfl)
                      · exact v_load (u := .pointer (some (ad.add (i * 29)))) (c := .agg (oc x.1)) rfl (fun w hB => ldp_op (OpIn.keep (OpIn.dr HXI.out) hB)) rfl (by kernel_rfl) ⟨rfl, (by kernel_rfl), (by kernel_rfl)⟩ (Ev.at (i := 22) (by kernel_rfl) (by kernel_rfl) rfl)
                      · exact v_move (.inl rfl) rfl (by kernel_rfl) ⟨rfl, (by kernel_rfl), (by kernel_rfl)⟩ (Ev.out (by kernel_rfl) rfl)
                      · exact v_move (.inl rfl) rfl (by kernel_rfl) ⟨rfl, (by kernel_rfl), (by kernel_rfl)⟩ (Ev.out (by kernel_rfl) rfl)
                      · exact v_iaddr (u := .slice (some ad) n cp) (v := .int .i64 ((k : Nat))) (c := .pointer (some (ad.add (k * 29)))) rfl (fun w => idx_op ad n cp k hlk w) rfl (by kernel_rfl) ⟨rfl, (by kernel_rfl), (by kernel_rfl)⟩ (Ev.at (i := 24) (by kernel_rfl) (by kernel_rfl) rfl) (Ev.at (i := 25) (by kernel_rfl) (by kernel_rfl) rfl)
                      · exact v_load (u := .pointer (some (ad.add (k * 29)))) (c := .agg (oc y.1)) rfl (fun w hB => ldp_op (OpIn.keep (OpIn.dr HYI.out) hB)) rfl (by kernel_rfl) ⟨rfl, (by kernel_rfl), (by kernel_rfl)⟩ (Ev.at (i := 26) (by kernel_rfl) (by kernel_rfl) rfl)
                      · exact v_call (vs := #[.agg (oc x.1), .agg (oc y.1)]) (c := .bool (false)) rfl (fun args w => rfl) (fun w hB => HB1.out w) rfl (by kernel_rfl) ⟨rfl, (by kernel_rfl), (by kernel_rfl)⟩ (ev2 (Ev.at (i := 23) (by kernel_rfl) (by kernel_rfl) rfl) (Ev.at (i := 27) (by kernel_rfl) (by kernel_rfl) rfl))
                      · exact v_move (.inl rfl) rfl (by kernel_rfl) ⟨rfl, (by kernel_rfl), (by kernel_rfl)⟩ (Ev.out (by kernel_rfl) rfl)
                      · exact v_move (.inl rfl) rfl (by kernel_rfl) ⟨rfl, (by kernel_rfl), (by kernel_rfl)⟩ (Ev.out (by kernel_rfl) rfl)
                      · exact v_iaddr (u := .slice (some ad) n cp) (v := .int .i64 ((i : Nat))) (c := .pointer (some (ad.add (i * 29)))) rfl (fun w => idx_op ad n cp i hli w) rfl (by kernel_rfl) ⟨rfl, (by kernel_rfl), (by kernel_rfl)⟩ (Ev.at (i := 29) (by kernel_rfl) (by kernel_rfl) rfl) (Ev.at (i := 30) (by kernel_rfl) (by kernel_rfl) rfl)
                      · exact v_load (u := .pointer (some (ad.add (i * 29)))) (c := .agg (oc x.1)) rfl (fun w hB => ldp_op (OpIn.keep (OpIn.dr HXI.out) hB)) rfl (by kernel_rfl) ⟨rfl, (by kernel_rfl), (by kernel_rfl)⟩ (Ev.at (i := 31) (by kernel_rfl) (by kernel_rfl) rfl)
                      · exact v_move (.inl rfl) rfl (by kernel_rfl) ⟨rfl, (by kernel_rfl), (by kernel_rfl)⟩ (Ev.out (by kernel_rfl) rfl)
                      · exact v_move (.inl rfl) rfl (by kernel_rfl) ⟨rfl, (by kernel_rfl), (by kernel_rfl)⟩ (Ev.out (by kernel_rfl) rfl)
                      · exact v_iaddr (u := .slice (some ad) n cp) (v := .int .i64 ((k : Nat))) (c := .pointer (some (ad.add (k * 29)))) rfl (fun w => idx_op ad n cp k hlk w) rfl (by kernel_rfl) ⟨rfl, (by kernel_rfl), (by kernel_rfl)⟩ (Ev.at (i := 33) (by kernel_rfl) (by kernel_rfl) rfl) (Ev.at (i := 34) (by kernel_rfl) (by kernel_rfl) rfl)
                      · exact v_load (u := .pointer (some (ad.add (k * 29)))) (c := .agg (oc y.1)) rfl (fun w hB => ldp_op (OpIn.keep (OpIn.dr HYI.out) hB)) rfl (by kernel_rfl) ⟨rfl, (by kernel_rfl), (by kernel_rfl)⟩ (Ev.at (i := 35) (by kernel_rfl) (by kernel_rfl) rfl)
                      · exact v_call (vs := #[.agg (oc x.1), .agg (oc y.1)]) (c := .bool (false)) rfl (fun args w => rfl) (fun w hB => HB2.out w) rfl (by kernel_rfl) ⟨rfl, (by kernel_rfl), (by kernel_rfl)⟩ (ev2 (Ev.at (i := 32) (by kernel_rfl) (by kernel_rfl) rfl) (Ev.at (i := 36) (by kernel_rfl) (by kernel_rfl) rfl))
                      · exact v_bin (u := .bool (false)) (v := .bool (false)) (c := .bool (false)) rfl (fun w => bin_neqBs _ _ false w) rfl (by kernel_rfl) ⟨rfl, (by kernel_rfl), (by kernel_rfl)⟩ (Ev.at (i := 28) (by kernel_rfl) (by kernel_rfl) rfl) (Ev.at (i := 37) (by kernel_rfl) (by kernel_rfl) rfl)
                      · exact v_or (p := false) (q := false) rfl rfl (by kernel_rfl) True.intro (Ev.at (i := 19) (by kernel_rfl) (by kernel_rfl) rfl) (fun hp => (Ev.at (i := 38) (by kernel_rfl) (by kernel_rfl) rfl))
                      · exact v_move (.inl rfl) rfl (by kernel_rfl) True.intro (Ev.at (i := 39) (by kernel_rfl) (by kernel_rfl) rfl)
                      · exact v_move (.inl rfl) rfl (by kernel_rfl) ⟨rfl, (by kernel_rfl), (by kernel_rfl)⟩ (Ev.out (by kernel_rfl) rfl)
                      · exact v_move (.inl rfl) rfl (by kernel_rfl) ⟨rfl, (by kernel_rfl), (by kernel_rfl)⟩ (Ev.out (by kernel_rfl) rfl)
                      · exact v_iaddr (u := .slice (some ad) n cp) (v := .int .i64 ((i : Nat))) (c := .pointer (some (ad.add (i * 29)))) rfl (fun w => idx_op ad n cp i hli w) rfl (by kernel_rfl) ⟨rfl, (by kernel_rfl), (by kernel_rfl)⟩ (Ev.at (i := 41) (by kernel_rfl) (by kernel_rfl) rfl) (Ev.at (i := 42) (by kernel_rfl) (by kernel_rfl) rfl)
                      · exact v_load (u := .pointer (some (ad.add (i * 29)))) (c := .agg (oc x.1)) rfl (fun w hB => ldp_op (OpIn.keep (OpIn.dr HXI.out) hB)) rfl (by kernel_rfl) ⟨rfl, (by kernel_rfl), (by kernel_rfl)⟩ (Ev.at (i := 43) (by kernel_rfl) (by kernel_rfl) rfl)
                      · exact v_move (.inl rfl) rfl (by kernel_rfl) ⟨rfl, (by kernel_rfl), (by kernel_rfl)⟩ (Ev.out (by kernel_rfl) rfl)
                      · exact v_move (.inl rfl) rfl (by kernel_rfl) ⟨rfl, (by kernel_rfl), (by kernel_rfl)⟩ (Ev.out (by kernel_rfl) rfl)
                      · exact v_iaddr (u := .slice (some ad) n cp) (v := .int .i64 ((k : Nat))) (c := .pointer (some (ad.add (k * 29)))) rfl (fun w => idx_op ad n cp k hlk w) rfl (by kernel_rfl) ⟨rfl, (by kernel_rfl), (by kernel_rfl)⟩ (Ev.at (i := 45) (by kernel_rfl) (by kernel_rfl) rfl) (Ev.at (i := 46) (by kernel_rfl) (by kernel_rfl) rfl)
                      · exact v_load (u := .pointer (some (ad.add (k * 29)))) (c := .agg (oc y.1)) rfl (fun w hB => ldp_op (OpIn.keep (OpIn.dr HYI.out) hB)) rfl (by kernel_rfl) ⟨rfl, (by kernel_rfl), (by kernel_rfl)⟩ (Ev.at (i := 47) (by kernel_rfl) (by kernel_rfl) rfl)
                      · exact v_call (vs := #[.agg (oc x.1), .agg (oc y.1)]) (c := .bool (false)) rfl (fun args w => rfl) (fun w hB => HB4.out w) rfl (by kernel_rfl) ⟨rfl, (by kernel_rfl), (by kernel_rfl)⟩ (ev2 (Ev.at (i := 44) (by kernel_rfl) (by kernel_rfl) rfl) (Ev.at (i := 48) (by kernel_rfl) (by kernel_rfl) rfl))
                      · exact v_move (.inl rfl) rfl (by kernel_rfl) ⟨rfl, (by kernel_rfl), (by kernel_rfl)⟩ (Ev.out (by kernel_rfl) rfl)
                      · exact v_move (.inl rfl) rfl (by kernel_rfl) ⟨rfl, (by kernel_rfl), (by kernel_rfl)⟩ (Ev.out (by kernel_rfl) rfl)
                      · exact v_iaddr (u := .slice (some ad) n cp) (v := .int .i64 ((i : Nat))) (c := .pointer (some (ad.add (i * 29)))) rfl (fun w => idx_op ad n cp i hli w) rfl (by kernel_rfl) ⟨rfl, (by kernel_rfl), (by kernel_rfl)⟩ (Ev.at (i := 50) (by kernel_rfl) (by kernel_rfl) rfl) (Ev.at (i := 51) (by kernel_rfl) (by kernel_rfl) rfl)
                      · exact v_faddr (u := .pointer (some (ad.add (i * 29)))) (c := .pointer (some (ad.add (i * 29)))) rfl (fun w => (fld_op (ad.add (i * 29)) w).1) rfl (by kernel_rfl) ⟨rfl, (by kernel_rfl), (by kernel_rfl)⟩ (Ev.at (i := 52) (by kernel_rfl) (by kernel_rfl) rfl)
                      · exact v_load (u := .pointer (some (ad.add (i * 29)))) (c := .agg (#[.int .u8 (x.1.r : Int), .int .u32 (x.1.n : Int)])) rfl (fun w hB => ldp_dot (OpIn.keep (OpIn.dr HXI.out) hB)) rfl (by kernel_rfl) ⟨rfl, (by kernel_rfl), (by kernel_rfl)⟩ (Ev.at (i := 53) (by kernel_rfl) (by kernel_rfl) rfl)
                      · exact v_move (.inl rfl) rfl (by kernel_rfl) ⟨rfl, (by kernel_rfl), (by kernel_rfl)⟩ (Ev.out (by kernel_rfl) rfl)
                      · exact v_move (.inl rfl) rfl (by kernel_rfl) ⟨rfl, (by kernel_rfl), (by kernel_rfl)⟩ (Ev.out (by kernel_rfl) rfl)
                      · exact v_iaddr (u := .slice (some ad) n cp) (v := .int .i64 ((k : Nat))) (c := .pointer (some (ad.add (k * 29)))) rfl (fun w => idx_op ad n cp k hlk w) rfl (by kernel_rfl) ⟨rfl, (by kernel_rfl), (by kernel_rfl)⟩ (Ev.at (i := 55) (by kernel_rfl) (by kernel_rfl) rfl) (Ev.at (i := 56) (by kernel_rfl) (by kernel_rfl) rfl)
                      · exact v_faddr (u := .pointer (some (ad.add (k * 29)))) (c := .pointer (some (ad.add (k * 29)))) rfl (fun w => (fld_op (ad.add (k * 29)) w).1) rfl (by kernel_rfl) ⟨rfl, (by kernel_rfl), (by kernel_rfl)⟩ (Ev.at (i := 57) (by kernel_rfl) (by kernel_rfl) rfl)
                      · exact v_load (u := .pointer (some (ad.add (k * 29)))) (c := .agg (#[.int .u8 (y.1.r : Int), .int .u32 (y.1.n : Int)])) rfl (fun w hB => ldp_dot (OpIn.keep (OpIn.dr HYI.out) hB)) rfl (by kernel_rfl) ⟨rfl, (by kernel_rfl), (by kernel_rfl)⟩ (Ev.at (i := 58) (by kernel_rfl) (by kernel_rfl) rfl)
                      · exact v_bin (u := .agg (#[.int .u8 (x.1.r : Int), .int .u32 (x.1.n : Int)])) (v := .agg (#[.int .u8 (y.1.r : Int), .int .u32 (y.1.n : Int)])) (c := .bool (true)) rfl (fun w => bin_neqDe HEQ.out _ _ w) rfl (by kernel_rfl) ⟨rfl, (by kernel_rfl), (by kernel_rfl)⟩ (Ev.at (i := 54) (by kernel_rfl) (by kernel_rfl) rfl) (Ev.at (i := 59) (by kernel_rfl) (by kernel_rfl) rfl)
                      · exact v_move (.inl rfl) rfl (by kernel_rfl) ⟨rfl, (by kernel_rfl), (by kernel_rfl)⟩ (Ev.at (i := 60) (by kernel_rfl) (by kernel_rfl) rfl)
                      · exact v_move (.inl rfl) rfl (by kernel_rfl) ⟨rfl, (by kernel_rfl), (by kernel_rfl)⟩ (Ev.out (by kernel_rfl) rfl)
                      · exact v_move (.inl rfl) rfl (by kernel_rfl) ⟨rfl, (by kernel_rfl), (by kernel_rfl)⟩ (Ev.out (by kernel_rfl) rfl)
                      · exact v_iaddr (u := .slice (some ad) n cp) (v := .int .i64 ((i : Nat))) (c := .pointer (some (ad.add (i * 29)))) rfl (fun w => idx_op ad n cp i hli w) rfl (by kernel_rfl) ⟨rfl, (by kernel_rfl), (by kernel_rfl)⟩ (Ev.at (i := 62) (by kernel_rfl) (by kernel_rfl) rfl) (Ev.at (i := 63) (by kernel_rfl) (by kernel_rfl) rfl)
                      · exact v_load (u := .pointer (some (ad.add (i * 29)))) (c := .agg (oc x.1)) rfl (fun w hB => ldp_op (OpIn.keep (OpIn.dr HXI.out) hB)) rfl (by kernel_rfl) ⟨rfl, (by kernel_rfl), (by kernel_rfl)⟩ (Ev.at (i := 64) (by kernel_rfl) (by kernel_rfl) rfl)
                      · exact v_move (.inl rfl) rfl (by kernel_rfl) ⟨rfl, (by kernel_rfl), (by kernel_rfl)⟩ (Ev.out (by kernel_rfl) rfl)
                      · exact v_move (.inl rfl) rfl (by kernel_rfl) ⟨rfl, (by kernel_rfl), (by kernel_rfl)⟩ (Ev.out (by kernel_rfl) rfl)
                      · exact v_iaddr (u := .slice (some ad) n cp) (v := .int .i64 ((k : Nat))) (c := .pointer (some (ad.add (k * 29)))) rfl (fun w => idx_op ad n cp k hlk w) rfl (by kernel_rfl) ⟨rfl, (by kernel_rfl), (by kernel_rfl)⟩ (Ev.at (i := 66) (by kernel_rfl) (by kernel_rfl) rfl) (Ev.at (i := 67) (by kernel_rfl) (by kernel_rfl) rfl)
                      · exact v_load (u := .pointer (some (ad.add (k * 29)))) (c := .agg (oc y.1)) rfl (fun w hB => ldp_op (OpIn.keep (OpIn.dr HYI.out) hB)) rfl (by kernel_rfl) ⟨rfl, (by kernel_rfl), (by kernel_rfl)⟩ (Ev.at (i := 68) (by kernel_rfl) (by kernel_rfl) rfl)
                      · exact v_call (vs := #[.agg (oc x.1), .agg (oc y.1)]) (c := .bool (false)) rfl (fun args w => rfl) (fun w hB => HB2.out w) rfl (by kernel_rfl) ⟨rfl, (by kernel_rfl), (by kernel_rfl)⟩ (ev2 (Ev.at (i := 65) (by kernel_rfl) (by kernel_rfl) rfl) (Ev.at (i := 69) (by kernel_rfl) (by kernel_rfl) rfl))
                      · exact v_not (b := false) rfl rfl (by kernel_rfl) ⟨rfl, (by kernel_rfl), (by kernel_rfl)⟩ (Ev.at (i := 70) (by kernel_rfl) (by kernel_rfl) rfl)
                      · exact v_and (p := true) (q := true) rfl rfl (by kernel_rfl) ⟨rfl, (by kernel_rfl), (by kernel_rfl)⟩ (Ev.at (i := 61) (by kernel_rfl) (by kernel_rfl) rfl) (fun hp => (Ev.at (i := 71) (by kernel_rfl) (by kernel_rfl) rfl))
                      · exact v_move (.inl rfl) rfl (by kernel_rfl) ⟨rfl, (by kernel_rfl), (by kernel_rfl)⟩ (Ev.at (i := 72) (by kernel_rfl) (by kernel_rfl) rfl)
                      · exact v_move (.inl rfl) rfl (by kernel_rfl) ⟨rfl, (by kernel_rfl), (by kernel_rfl)⟩ (Ev.out (by kernel_rfl) rfl)
                      · exact v_move (.inl rfl) rfl (by kernel_rfl) ⟨rfl, (by kernel_rfl), (by kernel_rfl)⟩ (Ev.out (by kernel_rfl) rfl)
                      · exact v_iaddr (u := .slice (some ad) n cp) (v := .int .i64 ((k : Nat))) (c := .pointer (some (ad.add (k * 29)))) rfl (fun w => idx_op ad n cp k hlk w) rfl (by kernel_rfl) ⟨rfl, (by kernel_rfl), (by kernel_rfl)⟩ (Ev.at (i := 74) (by kernel_rfl) (by kernel_rfl) rfl) (Ev.at (i := 75) (by kernel_rfl) (by kernel_rfl) rfl)
                      · exact v_load (u := .pointer (some (ad.add (k * 29)))) (c := .agg (oc y.1)) rfl (fun w hB => ldp_op (OpIn.keep (OpIn.dr HYI.out) hB)) rfl (by kernel_rfl) ⟨rfl, (by kernel_rfl), (by kernel_rfl)⟩ (Ev.at (i := 76) (by kernel_rfl) (by kernel_rfl) rfl)
                      · exact v_move (.inl rfl) rfl (by kernel_rfl) ⟨rfl, (by kernel_rfl), (by kernel_rfl)⟩ (Ev.out (by kernel_rfl) rfl)
                      · exact v_move (.inl rfl) rfl (by kernel_rfl) ⟨rfl, (by kernel_rfl), (by kernel_rfl)⟩ (Ev.out (by kernel_rfl) rfl)
                      · exact v_iaddr (u := .slice (some ad) n cp) (v := .int .i64 ((i : Nat))) (c := .pointer (some (ad.add (i * 29)))) rfl (fun w => idx_op ad n cp i hli w) rfl (by kernel_rfl) ⟨rfl, (by kernel_rfl), (by kernel_rfl)⟩ (Ev.at (i := 78) (by kernel_rfl) (by kernel_rfl) rfl) (Ev.at (i := 79) (by kernel_rfl) (by kernel_rfl) rfl)
                      · exact v_load (u := .pointer (some (ad.add (i * 29)))) (c := .agg (oc x.1)) rfl (fun w hB => ldp_op (OpIn.keep (OpIn.dr HXI.out) hB)) rfl (by kernel_rfl) ⟨rfl, (by kernel_rfl), (by kernel_rfl)⟩ (Ev.at (i := 80) (by kernel_rfl) (by kernel_rfl) rfl)
                      · exact v_call (vs := #[.agg (oc y.1), .agg (oc x.1)]) (c := .bool (true)) rfl (fun args w => rfl) (fun w hB => HB3.out w) rfl (by kernel_rfl) ⟨rfl, (by kernel_rfl), (by kernel_rfl)⟩ (ev2 (Ev.at (i := 77) (by kernel_rfl) (by kernel_rfl) rfl) (Ev.at (i := 81) (by kernel_rfl) (by kernel_rfl) rfl))
                      · exact v_not (b := true) rfl rfl (by kernel_rfl) ⟨rfl, (by kernel_rfl), (by kernel_rfl)⟩ (Ev.at (i := 82) (by kernel_rfl) (by kernel_rfl) rfl)
                      · exact v_and (p := true) (q := false) rfl rfl (by kernel_rfl) ⟨rfl, (by kernel_rfl), (by kernel_rfl)⟩ (Ev.at (i := 73) (by kernel_rfl) (by kernel_rfl) rfl) (fun hp => (Ev.at (i := 83) (by kernel_rfl) (by kernel_rfl) rfl))
                      · exact v_bin (u := .bool (false)) (v := .bool (false)) (c := .bool (false)) rfl (fun w => bin_neqBs _ _ false w) rfl (by kernel_rfl) ⟨rfl, (by kernel_rfl), (by kernel_rfl)⟩ (Ev.at (i := 49) (by kernel_rfl) (by kernel_rfl) rfl) (Ev.at (i := 84) (by kernel_rfl) (by kernel_rfl) rfl)
                      · exact v_or (p := false) (q := false) rfl rfl (by kernel_rfl) True.intro (Ev.at (i := 40) (by kernel_rfl) (by kernel_rfl) rfl) (fun hp => (Ev.at (i := 85) (by kernel_rfl) (by kernel_rfl) rfl))
                    intro _ vs w5 hB5 hf
                    have e86 : vs 86 = .bool false := hf 86 (by decide)
                    simp only [fill, List.setIfInBounds_toArray, List.set_cons_zero, List.set_cons_succ, e86]
                    clear hf e86
                    have HR2 := hid (show w5.heap[W0.heap.size]? = some (.cells (vc vv) 25 (0, 0)) ∧ Below W0.heap.size W0 w5 from ⟨heap_keep HR.out.1 hB5, below_next HR.out.2 hB5⟩)
                    clear hB5
                    go_wp2
                    go_roundw
                    case rel => exact ⟨k + 1, by omega, by go_num, HR2⟩
                    case measure => exact meas1 hlk
                · obtain ⟨hby, hbyE⟩ : ∃ b, befB y x = b := ⟨_, rfl⟩
                  rw [show besO x y = false by unfold besO; rw [heq, hbx]; rfl] at hB4
                  rw [hbx] at hB1 hB2
                  have HB1 := hid hB1
                  have HB2 := hid hB2
                  have HB3 := hid hB3
                  have HB4 := hid hB4
                  have HEQ := hid heq
                  clear hB1 hB2 hB3 hB4 heq hbx hbyE
                  go_upto_region 9 with (fail)
                  simp only [List.append_eq, List.cons_append, List.nil_append]
                  refine wp_flow (fun _ => none) (Fa.eq (.slice (some ad) n cp) :: Fa.eq (.int .i64 ((i : Nat))) :: Fa.eq (.pointer (some (ad.add (i * 29)))) :: Fa.eq (.agg (oc x.1)) :: Fa.eq (.slice (some ad) n cp) :: Fa.eq (.int .i64 ((k : Nat))) :: Fa.eq (.pointer (some (ad.add (k * 29)))) :: Fa.eq (.agg (oc y.1)) :: Fa.eq (.int .i64 (cmpM x y)) :: Fa.eq (.slice (some ad) n cp) :: Fa.eq (.int .i64 ((i : Nat))) :: Fa.eq (.pointer (some (ad.add (i * 29)))) :: Fa.eq (.agg (oc x.1)) :: Fa.eq (.slice (some ad) n cp) :: Fa.eq (.int .i64 ((k : Nat))) :: Fa.eq (.pointer (some (ad.add (k * 29)))) :: Fa.eq (.agg (oc y.1)) :: Fa.eq (.int .i64 (cmpM x y)) :: Fa.eq (.bool (false)) :: Fa.eq (.bool (false)) :: Fa.eq (.slice (some ad) n cp) :: Fa.eq (.int .i64 ((i : Nat))) :: Fa.eq (.pointer (some (ad.add (i * 29)))) :: Fa.eq (.agg (oc x.1)) :: Fa.eq (.slice (some ad) n cp) :: Fa.eq (.int .i64 ((k : Nat))) :: Fa.eq (.pointer (some (ad.add (k * 29)))) :: Fa.eq (.agg (oc y.1)) :: Fa.eq (.bool (true)) :: Fa.eq (.slice (some ad) n cp) :: Fa.eq (.int .i64 ((i : Nat))) :: Fa.eq (.pointer (some (ad.add (i * 29)))) :: Fa.eq (.agg (oc x.1)) :: Fa.eq (.slice (some ad) n cp) :: Fa.eq (.int .i64 ((k : Nat))) :: Fa.eq (.pointer (some (ad.add (k * 29)))) :: Fa.eq (.agg (oc y.1)) :: Fa.eq (.bool (true)) :: Fa.eq (.bool (false)) :: Fa.eq (.bool (false)) :: Fa.eq (.bool (false)) :: Fa.eq (.slice (some ad) n cp) :: Fa.eq (.int .i64 ((i : Nat))) :: Fa.eq (.pointer (some (ad.add (i * 29)))) :: Fa.eq (.agg (oc x.1)) :: Fa.eq (.slice (some ad) n cp) :: Fa.eq (.int .i64 ((k : Nat))) :: Fa.eq (.pointer (some (ad.add (k * 29)))) :: Fa.eq (.agg (oc y.1)) :: Fa.eq (.bool (false)) :: Fa.eq (.slice (some ad) n cp) :: Fa.eq (.int .i64 ((i : Nat))) :: Fa.eq (.pointer (some (ad.add (i * 29)))) :: Fa.eq (.pointer (some (ad.add (i * 29)))) :: Fa.eq (.agg (#[.int .u8 (x.1.r : Int), .int .u32 (x.1.n : Int)])) :: Fa.eq (.slice (some ad) n cp) :: Fa.eq (.int .i64 ((k : Nat))) :: Fa.eq (.pointer (some (ad.add (k * 29)))) :: Fa.eq (.pointer (some (ad.add (k * 29)))) :: Fa.eq (.agg (#[.int .u8 (y.1.r : Int), .int .u32 (y.1.n : Int)])) :: Fa.eq (.bool (true)) :: Fa.eq (.bool (true)) :: Fa.eq (.slice (some ad) n cp) :: Fa.eq (.int .i64 ((i : Nat))) :: Fa.eq (.pointer (some (ad.add (i * 29)))) :: Fa.eq (.agg (oc x.1)) :: Fa.eq (.slice (some ad) n cp) :: Fa.eq (.int .i64 ((k : Nat))) :: Fa.eq (.pointer (some (ad.add (k * 29)))) :: Fa.eq (.agg (oc y.1)) :: Fa.eq (.bool (true)) :: Fa.eq (.bool (false)) :: Fa.eq (.bool (false)) :: Fa.eq (.bool (false)) :: Fa.eq undef :: Fa.eq undef :: Fa.eq undef :: Fa.eq undef :: Fa.eq undef :: Fa.eq undef :: Fa.eq undef :: Fa.eq undef :: Fa.eq undef :: Fa.eq undef :: Fa.eq (.bool (false)) :: Fa.eq (.bool (false)) :: Fa.eq (.bool (false)) :: []) 177 (by kernel_rfl) (by kernel_rfl) (by kernel_rfl) rfl (by kernel_rfl) ?_ ?_ ?_
                  · exact fits_plain _ _ rfl
                  · refine ⟨?_, ?_, ?_, ?_, ?_, ?_, ?_, ?_, ?_, ?_, ?_, ?_, ?_, ?_, ?_, ?_, ?_, ?_, ?_, ?_, ?_, ?_, ?_, ?_, ?_, ?_, ?_, ?_, ?_, ?_, ?_, ?_, ?_, ?_, ?_, ?_, ?_, ?_, ?_, ?_, ?_, ?_, ?_, ?_, ?_, ?_, ?_, ?_, ?_, ?_, ?_, ?_, ?_, ?_, ?_, ?_, ?_, ?_, ?_, ?_, ?_, ?_, ?_, ?_, ?_, ?_, ?_, ?_, ?_, ?_, ?_, ?_, ?_, ?_, ?_, ?_, ?_, ?_, ?_, ?_, ?_, ?_, ?_, ?_, ?_, ?_, ?_, trivial⟩
                    · exact v_move (.inl rfl) rfl (by kernel_rfl) True.intro (Ev.out (by kernel_rfl) rfl)
                    · exact v_move (.inl rfl) rfl (by kernel_rfl) True.intro (Ev.out (by kernel_rfl) rfl)
                    · exact v_iaddr (u := .slice (some ad) n cp) (v := .int .i64 ((i : Nat))) (c := .pointer (some (ad.add (i * 29)))) rfl (fun w => idx_op ad n cp i hli w) rfl (by kernel_rfl) True.intro (Ev.at (i := 0) (by kernel_rfl) (by kernel_rfl) rfl) (Ev.at (i := 1) (by kernel_rfl) (by kernel_rfl) rfl)
                    · exact v_load (u := .pointer (some (ad.add (i * 29)))) (c := .agg (oc x.1)) rfl (fun w hB => ldp_op (OpIn.keep (OpIn.dr HXI.out) hB)) rfl (by kernel_rfl) True.intro (Ev.at (i := 2) (by kernel_rfl) (by kernel_rfl) rfl)
                    · exact v_move (.inl rfl) rfl (by kernel_rfl) True.intro (Ev.out (by kernel_rfl) rfl)
                    · exact v_move (.inl rfl) rfl (by kernel_rfl) True.intro (Ev.out (by kernel_rfl) rfl)
                    · exact v_iaddr (u := .slice (some ad) n cp) (v := .int .i64 ((k : Nat))) (c := .pointer (some (ad.add (k * 29)))) rfl (fun w => idx_op ad n cp k hlk w) rfl (by kernel_rfl) True.intro (Ev.at (i := 4) (by kernel_rfl) (by kernel_rfl) rfl) (Ev.at (i := 5) (by kernel_rfl) (by kernel_rfl) rfl)
                    · exact v_load (u := .pointer (some (ad.add (k * 29)))) (c := .agg (oc y.1)) rfl (fun w hB => ldp_op (OpIn.keep (OpIn.dr HYI.out) hB)) rfl (by kernel_rfl) True.intro (Ev.at (i := 6) (by kernel_rfl) (by kernel_rfl) rfl)
                    · exact v_call (vs := #[.agg (oc x.1), .agg (oc y.1)]) (c := .int .i64 (cmpM x y)) rfl (fun args w => rfl) (fun w hB => order_Compare x y w) rfl (by kernel_rfl) True.intro (ev2 (Ev.at (i := 3) (by kernel_rfl) (by kernel_rfl) rfl) (Ev.at (i := 7) (by kernel_rfl) (by kernel_rfl) rfl))
                    · exact v_move (.inl rfl) rfl (by kernel_rfl) True.intro (Ev.out (by kernel_rfl) rfl)
                    · exact v_move (.inl rfl) rfl (by kernel_rfl) True.intro (Ev.out (by kernel_rfl) rfl)
                    · exact v_iaddr (u := .slice (some ad) n cp) (v := .int .i64 ((i : Nat))) (c := .pointer (some (ad.add (i * 29)))) rfl (fun w => idx_op ad n cp i hli w) rfl (by kernel_rfl) True.intro (Ev.at (i := 9) (by kernel_rfl) (by kernel_rfl) rfl) (Ev.at (i := 10) (by kernel_rfl) (by kernel_rfl) rfl)
                    · exact v_load (u := .pointer (some (ad.add (i * 29)))) (c := .agg (oc x.1)) rfl (fun w hB => ldp_op (OpIn.keep (OpIn.dr HXI.out) hB)) rfl (by kernel_rfl) True.intro (Ev.at (i := 11) (by kernel_rfl) (by kernel_rfl) rfl)
                    · exact v_move (.inl rfl) rfl (by kernel_rfl) True.intro (Ev.out (by kernel_rfl) rfl)
                    · exact v_move (.inl rfl) rfl (by kernel_rfl) True.intro (Ev.out (by kernel_rfl) rfl)
                    · exact v_iaddr (u := .slice (some ad) n cp) (v := .int .i64 ((k : Nat))) (c := .pointer (some (ad.add (k * 29)))) rfl (fun w => idx_op ad n cp k hlk w) rfl (by kernel_rfl) True.intro (Ev.at (i := 13) (by kernel_rfl) (by kernel_rfl) rfl) (Ev.at (i := 14) (by kernel_rfl) (by kernel_rfl) rfl)
                    · exact v_load (u := .pointer (some (ad.add (k * 29)))) (c := .agg (oc y.1)) rfl (fun w hB => ldp_op (OpIn.keep (OpIn.dr HYI.out) hB)) rfl (by kernel_rfl) True.intro (Ev.at (i := 15) (by kernel_rfl) (by kernel_rfl) rfl)
                    · exact v_call (vs := #[.agg (oc x.1), .agg (oc y.1)]) (c := .int .i64 (cmpM x y)) rfl (fun args w => rfl) (fun w hB => ref_Compare x y HOKX.out HOKY.out w) rfl (by kernel_rfl) True.intro (ev2 (Ev.at (i := 12) (by kernel_rfl) (by kernel_rfl) rfl) (Ev.at (i := 16) (by kernel_rfl) (by kernel_rfl) rfl))
                    · exact v_bin (u := .int .i64 (cmpM x y)) (v := .int .i64 (cmpM x y)) (c := .bool (false)) rfl (fun w => bin_neqI _ _ _ w) rfl (by kernel_rfl) True.intro (Ev.at (i := 8) (by kernel_rfl) (by kernel_rfl) rfl) (Ev.at (i := 17) (by kernel_rfl) (by kernel_rfl) rfl)
                    · exact v_move (.inl rfl) rfl (by kernel_rfl) True.intro (Ev.at (i := 18) (by kernel_rfl) (by kernel_rfl) rfl)
                    · exact v_move (.inl rfl) rfl (by kernel_rfl) ⟨rfl, (by kernel_rfl), (by kernel_rfl)⟩ (Ev.out (by kernel_rfl) rfl)
                    · exact v_move (.inl rfl) rfl (by kernel_rfl) ⟨rfl, (by kernel_rfl), (by kernel_rfl)⟩ (Ev.out (by kernel_rfl) rfl)
                    · exact v_iaddr (u := .slice (some ad) n cp) (v := .int .i64 ((i : Nat))) (c := .pointer (some (ad.add (i * 29)))) rfl (fun w => idx_op ad n cp i hli w) rfl (by kernel_rfl) ⟨rfl, (by kernel_rfl), (by kernel_rfl)⟩ (Ev.at (i := 20) (by kernel_rfl) (by kernel_rfl) rfl) (Ev.at (i := 21) (by kernel_rfl) (by kernel_rfl) rfl)
                    · exact v_load (u := .pointer (some (ad.add (i * 29)))) (c := .agg (oc x.1)) rfl (fun w hB => ldp_op (OpIn.keep (OpIn.dr HXI.out) hB)) rfl (by kernel_rfl) ⟨rfl, (by kernel_rfl), (by kernel_rfl)⟩ (Ev.at (i := 22) (by kernel_rfl) (by kernel_rfl) rfl)
                    · exact v_move (.inl rfl) rfl (by kernel_rfl) ⟨rfl, (by kernel_rfl), (by kernel_rfl)⟩ (Ev.out (by kernel_rfl) rfl)
                    · exact v_move (.inl rfl) rfl (by kernel_rfl) ⟨rfl, (by kernel_rfl), (by kernel_rfl)⟩ (Ev.out (by kernel_rfl) rfl)
                    · exact v_iaddr (u := .slice (some ad) n cp) (v := .int .i64 ((k : Nat))) (c := .pointer (some (ad.add (k * 29)))) rfl (fun w => idx_op ad n cp k hlk w) rfl (by kernel_rfl) ⟨rfl, (by kernel_rfl), (by kernel_rfl)⟩ (Ev.at (i := 24) (by kernel_rfl) (by kernel_rfl) rfl) (Ev.at (i := 25) (by kernel_rfl) (by kernel_rfl) rfl)
                    · exact v_load (u := .pointer (some (ad.add (k * 29)))) (c := .agg (oc y.1)) rfl (fun w hB => ldp_op (OpIn.keep (OpIn.dr HYI.out) hB)) rfl (by kernel_rfl) ⟨rfl, (by kernel_rfl), (by kernel_rfl)⟩ (Ev.at (i := 26) (by kernel_rfl) (by kernel_rfl) rfl)
                    · exact v_call (vs := #[.agg (oc x.1), .agg (oc y.1)]) (c := .bool (true)) rfl (fun args w => rfl) (fun w hB => HB1.out w) rfl (by kernel_rfl) ⟨rfl, (by kernel_rfl), (by kernel_rfl)⟩ (ev2 (Ev.at (i := 23) (by kernel_rfl) (by kernel_rfl) rfl) (Ev.at (i := 27) (by kernel_rfl) (by kernel_rfl) rfl))
                    · exact v_move (.inl rfl) rfl (by kernel_rfl) ⟨rfl, (by kernel_rfl), (by kernel_rfl)⟩ (Ev.out (by kernel_rfl) rfl)
                    · exact v_move (.inl rfl) rfl (by kernel_rfl) ⟨rfl, (by kernel_rfl), (by kernel_rfl)⟩ (Ev.out (by kernel_rfl) rfl)
                    · exact v_iaddr (u := .slice (some ad) n cp) (v := .int .i64 ((i : Nat))) (c := .pointer (some (ad.add (i * 29)))) rfl (fun w => idx_op ad n cp i hli w) rfl (by kernel_rfl) ⟨rfl, (by kernel_rfl), (by kernel_rfl)⟩ (Ev.at (i := 29) (by kernel_rfl) (by kernel_rfl) rfl) (Ev.at (i := 30) (by kernel_rfl) (by kernel_rfl) rfl)
                    · exact v_load (u := .pointer (some (ad.add (i * 29)))) (c := .agg (oc x.1)) rfl (fun w hB => ldp_op (OpIn.keep (OpIn.dr HXI.out) hB)) rfl (by kernel_rfl) ⟨rfl, (by kernel_rfl), (by kernel_rfl)⟩ (Ev.at (i := 31) (by kernel_rfl) (by kernel_rfl) rfl)
                    · exact v_move (.inl rfl) rfl (by kernel_rfl) ⟨rfl, (by kernel_rfl), (by kernel_rfl)⟩ (Ev.out (by kernel_rfl) rfl)
                    · exact v_move (.inl rfl) rfl (by kernel_rfl) ⟨rfl, (by kernel_rfl), (by kernel_rfl)⟩ (Ev.out (by kernel_rfl) rfl)
                    · exact v_iaddr (u := .slice (some ad) n cp) (v := .int .i64 ((k : Nat))) (c := .pointer (some (ad.add (k * 29)))) rfl (fun w => idx_op ad n cp k hlk w) rfl (by kernel_rfl) ⟨rfl, (by kernel_rfl), (by kernel_rfl)⟩ (Ev.at (i := 33) (by kernel_rfl) (by kernel_rfl) rfl) (Ev.at (i := 34) (by kernel_rfl) (by kernel_rfl) rfl)
                    · exact v_load (u := .pointer (some (ad.add (k * 29)))) (c := .agg (oc y.1)) rfl (fun w hB => ldp_op (OpIn.keep (OpIn.dr HYI.out) hB)) rfl (by kernel_rfl) ⟨rfl, (by kernel_rfl), (by kernel_rfl)⟩ (Ev.at (i := 35) (by kernel_rfl) (by kernel_rfl) rfl)
                    · exact v_call (vs := #[.agg (oc x.1), .agg (oc y.1)]) (c := .bool (true)) rfl (fun args w => rfl) (fun w hB => HB2.out w) rfl (by kernel_rfl) ⟨rfl, (by kernel_rfl), (by kernel_rfl)⟩ (ev2 (Ev.at (i := 32) (by kernel_rfl) (by kernel_rfl) rfl) (Ev.at (i := 36) (by kernel_rfl) (by kernel_rfl) rfl))
                    · exact v_bin (u := .bool (true)) (v := .bool (true)) (c := .bool (false)) rfl (fun w => bin_neqBs _ _ true w) rfl (by kernel_rfl) ⟨rfl, (by kernel_rfl), (by kernel_rfl)⟩ (Ev.at (i := 28) (by kernel_rfl) (by kernel_rfl) rfl) (Ev.at (i := 37) (by kernel_rfl) (by kernel_rfl) rfl)
                    · exact v_or (p := false) (q := false) rfl rfl (by kernel_rfl) True.intro (Ev.at (i := 19) (by kernel_rfl) (by kernel_rfl) rfl) (fun hp => (Ev.at (i := 38) (by kernel_rfl) (by kernel_rfl) rfl))
                    · exact v_move (.inl rfl) rfl (by kernel_rfl) True.intro (Ev.at (i := 39) (by kernel_rfl) (by kernel_rfl) rfl)
                    · exact v_move (.inl rfl) rfl (by kernel_rfl) ⟨rfl, (by kernel_rfl), (by kernel_rfl)⟩ (Ev.out (by kernel_rfl) rfl)
                    · exact v_move (.inl rfl) rfl (by kernel_rfl) ⟨rfl, (by kernel_rfl), (by kernel_rfl)⟩ (Ev.out (by kernel_rfl) rfl)
                    · exact v_iaddr (u := .slice (some ad) n cp) (v := .int .i64 ((i : Nat))) (c := .pointer (some (ad.add (i * 29)))) rfl (fun w => idx_op ad n cp i hli w) rfl (by kernel_rfl) ⟨rfl, (by kernel_rfl), (by kernel_rfl)⟩ (Ev.at (i := 41) (by kernel_rfl) (by kernel_rfl) rfl) (Ev.at (i := 42) (by kernel_rfl) (by kernel_rfl) rfl)
                    · exact v_load (u := .pointer (some (ad.add (i * 29)))) (c := .agg (oc x.1)) rfl (fun w hB => ldp_op (OpIn.keep (OpIn.dr HXI.out) hB)) rfl (by kernel_rfl) ⟨rfl, (by kernel_rfl), (by kernel_rfl)⟩ (Ev.at (i := 43) (by kernel_rfl) (by kernel_rfl) rfl)
                    · exact v_move (.inl rfl) rfl (by kernel_rfl) ⟨rfl, (by kernel_rfl), (by kernel_rfl)⟩ (Ev.out (by kernel_rfl) rfl)
                    · exact v_move (.inl rfl) rfl (by kernel_rfl) ⟨rfl, (by kernel_rfl), (by kernel_rfl)⟩ (Ev.out (by kernel_rfl) rfl)
                    · exact v_iaddr (u := .slice (some ad) n cp) (v := .int .i64 ((k : Nat))) (c := .pointer (some (ad.add (k * 29)))) rfl (fun w => idx_op ad n cp k hlk w) rfl (by kernel_rfl) ⟨rfl, (by kernel_rfl), (by kernel_rfl)⟩ (Ev.at (i := 45) (by kernel_rfl) (by kernel_rfl) rfl) (Ev.at (i := 46) (by kernel_rfl) (by kernel_rfl) rfl)
                    · exact v_load (u := .pointer (some (ad.add (k * 29)))) (c := .agg (oc y.1)) rfl (fun w hB => ldp_op (OpIn.keep (OpIn.dr HYI.out) hB)) rfl (by kernel_rfl) ⟨rfl, (by kernel_rfl), (by kernel_rfl)⟩ (Ev.at (i := 47) (by kernel_rfl) (by kernel_rfl) rfl)
                    · exact v_call (vs := #[.agg (oc x.1), .agg (oc y.1)]) (c := .bool (false)) rfl (fun args w => rfl) (fun w hB => HB4.out w) rfl (by kernel_rfl) ⟨rfl, (by kernel_rfl), (by kernel_rfl)⟩ (ev2 (Ev.at (i := 44) (by kernel_rfl) (by kernel_rfl) rfl) (Ev.at (i := 48) (by kernel_rfl) (by kernel_rfl) rfl))
                    · exact v_move (.inl rfl) rfl (by kernel_rfl) ⟨rfl, (by kernel_rfl), (by kernel_rfl)⟩ (Ev.out (by kernel_rfl) rfl)
                    · exact v_move (.inl rfl) rfl (by kernel_rfl) ⟨rfl, (by kernel_rfl), (by kernel_rfl)⟩ (Ev.out (by kernel_rfl) rfl)
                    · exact v_iaddr (u := .slice (some ad) n cp) (v := .int .i64 ((i : Nat))) (c := .pointer (some (ad.add (i * 29)))) rfl (fun w => idx_op ad n cp i hli w) rfl (by kernel_rfl) ⟨rfl, (by kernel_rfl), (by kernel_rfl)⟩ (Ev.at (i := 50) (by kernel_rfl) (by kernel_rfl) rfl) (Ev.at (i := 51) (by kernel_rfl) (by kernel_rfl) rfl)
                    · exact v_faddr (u := .pointer (some (ad.add (i * 29)))) (c := .pointer (some (ad.add (i * 29)))) rfl (fun w => (fld_op (ad.add (i * 29)) w).1) rfl (by kernel_rfl) ⟨rfl, (by kernel_rfl), (by kernel_rfl)⟩ (Ev.at (i := 52) (by kernel_rfl) (by kernel_rfl) rfl)
                    · exact v_load (u := .pointer (some (ad.add (i * 29)))) (c := .agg (#[.int .u8 (x.1.r : Int), .int .u32 (x.1.n : Int)])) rfl (fun w hB => ldp_dot (OpIn.keep (OpIn.dr HXI.out) hB)) rfl (by kernel_rfl) ⟨rfl, (by kernel_rfl), (by kernel_rfl)⟩ (Ev.at (i := 53) (by kernel_rfl) (by kernel_rfl) rfl)
                    · exact v_move (.inl rfl) rfl (by kernel_rfl) ⟨rfl, (by kernel_rfl), (by kernel_rfl)⟩ (Ev.out (by kernel_rfl) rfl)
                    · exact v_move (.inl rfl) rfl (by kernel_rfl) ⟨rfl, (by kernel_rfl), (by kernel_rfl)⟩ (Ev.out (by kernel_rfl) rfl)
                    · exact v_iaddr (u := .slice (some ad) n cp) (v := .int .i64 ((k : Nat))) (c := .pointer (some (ad.add (k * 29)))) rfl (fun w => idx_op ad n cp k hlk w) rfl (by kernel_rfl) ⟨rfl, (by kernel_rfl), (by kernel_rfl)⟩ (Ev.at (i := 55) (by kernel_rfl) (by kernel_rfl) rfl) (Ev.at (i := 56) (by kernel_rfl) (by kernel_rfl) rfl)
                    · exact v_faddr (u := .pointer (some (ad.add (k * 29)))) (c := .pointer (some (ad.add (k * 29)))) rfl (fun w => (fld_op (ad.add (k * 29)) w).1) rfl (by kernel_rfl) ⟨rfl, (by kernel_rfl), (by kernel_rfl)⟩ (Ev.at (i := 57) (by kernel_rfl) (by kernel_rfl) rfl)
                    · exact v_load (u := .pointer (some (ad.add (k * 29)))) (c := .agg (#[.int .u8 (y.1.r : Int), .int .u32 (y.1.n : Int)])) rfl (fun w hB => ldp_dot (OpIn.keep (OpIn.dr HYI.out) hB)) rfl (by kernel_rfl) ⟨rfl, (by kernel_rfl), (by kernel_rfl)⟩ (Ev.at (i := 58) (by kernel_rfl) (by kernel_rfl) rfl)
                    · exact v_bin (u := .agg (#[.int .u8 (x.1.r : Int), .int .u32 (x.1.n : Int)])) (v := .agg (#[.int .u8 (y.1.r : Int), .int .u32 (y.1.n : Int)])) (c := .bool (true)) rfl (fun w => bin_neqDe HEQ.out _ _ w) rfl (by kernel_rfl) ⟨rfl, (by kernel_rfl), (by kernel_rfl)⟩ (Ev.at (i := 54) (by kernel_rfl) (by kernel_rfl) rfl) (Ev.at (i := 59) (by kernel_rfl) (by kernel_rfl) rfl)
                    · exact v_move (.inl rfl) rfl (by kernel_rfl) ⟨rfl, (by kernel_rfl), (by kernel_rfl)⟩ (Ev.at (i := 60) (by kernel_rfl) (by kernel_rfl) rfl)
                    · exact v_move (.inl rfl) rfl (by kernel_rfl) ⟨rfl, (by kernel_rfl), (by kernel_rfl)⟩ (Ev.out (by kernel_rfl) rfl)
                    · exact v_move (.inl rfl) rfl (by kernel_rfl) ⟨rfl, (by kernel_rfl), (by kernel_rfl)⟩ (Ev.out (by kernel_rfl) rfl)
                    · exact v_iaddr (u := .slice (some ad) n cp) (v := .int .i64 ((i : Nat))) (c := .pointer (some (ad.add (i * 29)))) rfl (fun w => idx_op ad n cp i hli w) rfl (by kernel_rfl) ⟨rfl, (by kernel_rfl), (by kernel_rfl)⟩ (Ev.at (i := 62) (by kernel_rfl) (by kernel_rfl) rfl) (Ev.at (i := 63) (by kernel_rfl) (by kernel_rfl) rfl)
                    · exact v_load (u := .pointer (some (ad.add (i * 29)))) (c := .agg (oc x.1)) rfl (fun w hB => ldp_op (OpIn.keep (OpIn.dr HXI.out) hB)) rfl (by kernel_rfl) ⟨rfl, (by kernel_rfl), (by kernel_rfl)⟩ (Ev.at (i := 64) (by kernel_rfl) (by kernel_rfl) rfl)
                    · exact v_move (.inl rfl) rfl (by kernel_rfl) ⟨rfl, (by kernel_rfl), (by kernel_rfl)⟩ (Ev.out (by kernel_rfl) rfl)
                    · exact v_move (.inl rfl) rfl (by kernel_rfl) ⟨rfl, (by kernel_rfl), (by kernel_rfl)⟩ (Ev.out (by kernel_rfl) rfl)
                    · exact v_iaddr (u := .slice (some ad) n cp) (v := .int .i64 ((k : Nat))) (c := .pointer (some (ad.add (k * 29)))) rfl (fun w => idx_op ad n cp k hlk w) rfl (by kernel_rfl) ⟨rfl, (by kernel_rfl), (by kernel_rfl)⟩ (Ev.at (i := 66) (by kernel_rfl) (by kernel_rfl) rfl) (Ev.at (i := 67) (by kernel_rfl) (by kernel_rfl) rfl)
                    · exact v_load (u := .pointer (some (ad.add (k * 29)))) (c := .agg (oc y.1)) rfl (fun w hB => ldp_op (OpIn.keep (OpIn.dr HYI.out) hB)) rfl (by kernel_rfl) ⟨rfl, (by kernel_rfl), (by kernel_rfl)⟩ (Ev.at (i := 68) (by kernel_rfl) (by kernel_rfl) rfl)
                    · exact v_call (vs := #[.agg (oc x.1), .agg (oc y.1)]) (c := .bool (true)) rfl (fun args w => rfl) (fun w hB => HB2.out w) rfl (by kernel_rfl) ⟨rfl, (by kernel_rfl), (by kernel_rfl)⟩ (ev2 (Ev.at (i := 65) (by kernel_rfl) (by kernel_rfl) rfl) (Ev.at (i := 69) (by kernel_rfl) (by kernel_rfl) rfl))
                    · exact v_not (b := true) rfl rfl (by kernel_rfl) ⟨rfl, (by kernel_rfl), (by kernel_rfl)⟩ (Ev.at (i := 70) (by kernel_rfl) (by kernel_rfl) rfl)
                    · exact v_and (p := true) (q := false) rfl rfl (by kernel_rfl) ⟨rfl, (by kernel_rfl), (by kernel_rfl)⟩ (Ev.at (i := 61) (by kernel_rfl) (by kernel_rfl) rfl) (fun hp => (Ev.at (i := 71) (by kernel_rfl) (by kernel_rfl) rfl))
                    · exact v_move (.inl rfl) rfl (by kernel_rfl) ⟨rfl, (by kernel_rfl), (by kernel_rfl)⟩ (Ev.at (i := 72) (by kernel_rfl) (by kernel_rfl) rfl)
                    · exact flow_skip 73 true (.bool false) rfl rfl (by kernel_rfl) rfl (by intro h; cases h)
                    · exact flow_skip 73 true (.bool false) rfl rfl (by kernel_rfl) rfl (by intro h; cases h)
                    · exact flow_skip 73 true (.bool false) rfl rfl (by kernel_rfl) rfl (by intro h; cases h)
                    · exact flow_skip 73 true (.bool false) rfl rfl (by kernel_rfl) rfl (by intro h; cases h)
                    · exact flow_skip 73 true (.bool false) rfl rfl (by kernel_rfl) rfl (by intro h; cases h)
                    · exact flow_skip 73 true (.bool false) rfl rfl (by kernel_rfl) rfl (by intro h; cases h)
                    · exact flow_skip 73 true (.bool false) rfl rfl (by kernel_rfl) rfl (by intro h; cases h)
                    · exact flow_skip 73 true (.bool false) rfl rfl (by kernel_rfl) rfl (by intro h; cases h)
                    · exact flow_skip 73 true (.bool false) rfl rfl (by kernel_rfl) rfl (by intro h; cases h)
                    · exact flow_skip 73 true (.bool false) rfl rfl (by kernel_rfl) rfl (by intro h; cases h)
                    · exact v_and (p := false) (q := false) rfl rfl (by kernel_rfl) ⟨rfl, (by kernel_rfl), (by kernel_rfl)⟩ (Ev.at (i := 73) (by kernel_rfl) (by kernel_rfl) rfl) (fun hp => by cases hp)
                    · exact v_bin (u := .bool (false)) (v := .bool (false)) (c := .bool (false)) rfl (fun w => bin_neqBs _ _ false w) rfl (by kernel_rfl) ⟨rfl, (by kernel_rfl), (by kernel_rfl)⟩ (Ev.at (i := 49) (by kernel_rfl) (by kernel_rfl) rfl) (Ev.at (i := 84) (by kernel_rfl) (by kernel_rfl) rfl)
                    · exact v_or (p := false) (q := false) rfl rfl (by kernel_rfl) True.intro (Ev.at (i := 40) (by kernel_rfl) (by kernel_rfl) rfl) (fun hp => (Ev.at (i := 85) (by kernel_rfl) (by kernel_rfl) rfl))
                  intro _ vs w5 hB5 hf
                  have e86 : vs 86 = .bool false := hf 86 (by decide)
                  simp only [fill, List.setIfInBounds_toArray, List.set_cons_zero, List.set_cons_succ, e86]
                  clear hf e86
                  have HR2 := hid (show w5.heap[W0.heap.size]? = some (.cells (vc vv) 25 (0, 0)) ∧ Below W0.heap.size W0 w5 from ⟨heap_keep HR.out.1 hB5, below_next HR.out.2 hB5⟩)
                  clear hB5
                  go_wp2
                  go_roundw
                  case rel => exact ⟨k + 1, by omega, by go_num, HR2⟩
                  case measure => exact meas1 hlk
              · rw [show besO x y = false by unfold besO; rw [heq]; rfl] at hB4
                obtain ⟨BX, hbx⟩ : ∃ b, befB x y = b := ⟨_, rfl⟩
                rw [hbx] at hB1 hB2
                have HB1 := hid hB1
                have HB2 := hid hB2
                have HB3 := hid hB3
                have HB4 := hid hB4
                have HEQ := hid heq
                clear hB1 hB2 hB3 hB4 heq hbx
                go_upto_region 9 with (fail)
                simp only [List.append_eq, List.cons_append, List.nil_append]
                refine wp_flow (fun _ => none) (Fa.eq (.slice (some ad) n cp) :: Fa.eq (.int .i64 ((i : Nat))) :: Fa.eq (.pointer (some (ad.add (i * 29)))) :: Fa.eq (.agg (oc x.1)) :: Fa.eq (.slice (some ad) n cp) :: Fa.eq (.int .i64 ((k : Nat))) :: Fa.eq (.pointer (some (ad.add (k * 29)))) :: Fa.eq (.agg (oc y.1)) :: Fa.eq (.int .i64 (cmpM x y)) :: Fa.eq (.slice (some ad) n cp) :: Fa.eq (.int .i64 ((i : Nat))) :: Fa.eq (.pointer (some (ad.add (i * 29)))) :: Fa.eq (.agg (oc x.1)) :: Fa.eq (.slice (some ad) n cp) :: Fa.eq (.int .i64 ((k : Nat))) :: Fa.eq (.pointer (some (ad.add (k * 29)))) :: Fa.eq (.agg (oc y.1)) :: Fa.eq (.int .i64 (cmpM x y)) :: Fa.eq (.bool (false)) :: Fa.eq (.bool (false)) :: Fa.eq (.slice (some ad) n cp) :: Fa.eq (.int .i64 ((i : Nat))) :: Fa.eq (.pointer (some (ad.add (i * 29)))) :: Fa.eq (.agg (oc x.1)) :: Fa.eq (.slice (some ad) n cp) :: Fa.eq (.int .i64 ((k : Nat))) :: Fa.eq (.pointer (some (ad.add (k * 29)))) :: Fa.eq (.agg (oc y.1)) :: Fa.eq (.bool (BX)) :: Fa.eq (.slice (some ad) n cp) :: Fa.eq (.int .i64 ((i : Nat))) :: Fa.eq (.pointer (some (ad.add (i * 29)))) :: Fa.eq (.agg (oc x.1)) :: Fa.eq (.slice (some ad) n cp) :: Fa.eq (.int .i64 ((k : Nat))) :: Fa.eq (.pointer (some (ad.add (k * 29)))) :: Fa.eq (.agg (oc y.1)) :: Fa.eq (.bool (BX)) :: Fa.eq (.bool (false)) :: Fa.eq (.bool (false)) :: Fa.eq (.bool (false)) :: Fa.eq (.slice (some ad) n cp) :: Fa.eq (.int .i64 ((i : Nat))) :: Fa.eq (.pointer (some (ad.add (i * 29)))) :: Fa.eq (.agg (oc x.1)) :: Fa.eq (.slice (some ad) n cp) :: Fa.eq (.int .i64 ((k : Nat))) :: Fa.eq (.pointer (some (ad.add (k * 29)))) :: Fa.eq (.agg (oc y.1)) :: Fa.eq (.bool (false)) :: Fa.eq (.slice (some ad) n cp) :: Fa.eq (.int .i64 ((i : Nat))) :: Fa.eq (.pointer (some (ad.add (i * 29)))) :: Fa.eq (.pointer (some (ad.add (i * 29)))) :: Fa.eq (.agg (#[.int .u8 (x.1.r : Int), .int .u32 (x.1.n : Int)])) :: Fa.eq (.slice (some ad) n cp) :: Fa.eq (.int .i64 ((k : Nat))) :: Fa.eq (.pointer (some (ad.add (k * 29)))) :: Fa.eq (.pointer (some (ad.add (k * 29)))) :: Fa.eq (.agg (#[.int .u8 (y.1.r : Int), .int .u32 (y.1.n : Int)])) :: Fa.eq (.bool (false)) :: Fa.eq (.bool (false)) :: Fa.eq undef :: Fa.eq undef :: Fa.eq undef :: Fa.eq undef :: Fa.eq undef :: Fa.eq undef :: Fa.eq undef :: Fa.eq undef :: Fa.eq undef :: Fa.eq undef :: Fa.eq (.bool (false)) :: Fa.eq (.bool (false)) :: Fa.eq undef :: Fa.eq undef :: Fa.eq undef :: Fa.eq undef :: Fa.eq undef :: Fa.eq undef :: Fa.eq undef :: Fa.eq undef :: Fa.eq undef :: Fa.eq undef :: Fa.eq (.bool (false)) :: Fa.eq (.bool (false)) :: Fa.eq (.bool (false)) :: []) 177 (by kernel_rfl) (by kernel_rfl) (by kernel_rfl) rfl (by kernel_rfl) ?_ ?_ ?_
                · exact fits_plain _ _ rfl
                · refine ⟨?_, ?_, ?_, ?_, ?_, ?_, ?_, ?_, ?_, ?_, ?_, ?_, ?_, ?_, ?_, ?_, ?_, ?_, ?_, ?_, ?_, ?_, ?_, ?_, ?_, ?_, ?_, ?_, ?_, ?_, ?_, ?_, ?_, ?_, ?_, ?_, ?_, ?_, ?_, ?_, ?_, ?_, ?_, ?_, ?_, ?_, ?_, ?_, ?_, ?_, ?_, ?_, ?_, ?_, ?_, ?_, ?_, ?_, ?_, ?_, ?_, ?_, ?_, ?_, ?_, ?_, ?_, ?_, ?_, ?_, ?_, ?_, ?_, ?_, ?_, ?_, ?_, ?_, ?_, ?_, ?_, ?_, ?_, ?_, ?_, ?_, ?_, trivial⟩
                  · exact v_move (.inl rfl) rfl (by kernel_rfl) True.intro (Ev.out (by kernel_rfl) rfl)
                  · exact v_move (.inl rfl) rfl (by kernel_rfl) True.intro (Ev.out (by kernel_rfl) rfl)
                  · exact v_iaddr (u := .slice (some ad) n cp) (v := .int .i64 ((i : Nat))) (c := .pointer (some (ad.add (i * 29)))) rfl (fun w => idx_op ad n cp i hli w) rfl (by kernel_rfl) True.intro (Ev.at (i := 0) (by kernel_rfl) (by kernel_rfl) rfl) (Ev.at (i := 1) (by kernel_rfl) (by kernel_rfl) rfl)
                  · exact v_load (u := .pointer (some (ad.add (i * 29)))) (c := .agg (oc x.1)) rfl (fun w hB => ldp_op (OpIn.keep (OpIn.dr HXI.out) hB)) rfl (by kernel_rfl) True.intro (Ev.at (i := 2) (by kernel_rfl) (by kernel_rfl) rfl)
                  · exact v_move (.inl rfl) rfl (by kernel_rfl) True.intro (Ev.out (by kernel_rfl) rfl)
                  · exact v_move (.inl rfl) rfl (by kernel_rfl) True.intro (Ev.out (by kernel_rfl) rfl)
                  · exact v_iaddr (u := .slice (some ad) n cp) (v := .int .i64 ((k : Nat))) (c := .pointer (some (ad.add (k * 29)))) rfl (fun w => idx_op ad n cp k hlk w) rfl (by kernel_rfl) True.intro (Ev.at (i := 4) (by kernel_rfl) (by kernel_rfl) rfl) (Ev.at (i := 5) (by kernel_rfl) (by kernel_rfl) rfl)
                  · exact v_load (u := .pointer (some (ad.add (k * 29)))) (c := .agg (oc y.1)) rfl (fun w hB => ldp_op (OpIn.keep (OpIn.dr HYI.out) hB)) rfl (by kernel_rfl) True.intro (Ev.at (i := 6) (by kernel_rfl) (by kernel_rfl) rfl)
                  · exact v_call (vs := #[.agg (oc x.1), .agg (oc y.1)]) (c := .int .i64 (cmpM x y)) rfl (fun args w => rfl) (fun w hB => order_Compare x y w) rfl (by kernel_rfl) True.intro (ev2 (Ev.at (i := 3) (by kernel_rfl) (by kernel_rfl) rfl) (Ev.at (i := 7) (by kernel_rfl) (by kernel_rfl) rfl))
                  · exact v_move (.inl rfl) rfl (by kernel_rfl) True.intro (Ev.out (by kernel_rfl) rfl)
                  · exact v_move (.inl rfl) rfl (by kernel_rfl) True.intro (Ev.out (by kernel_rfl) rfl)
                  · exact v_iaddr (u := .slice (some ad) n cp) (v := .int .i64 ((i : Nat))) (c := .pointer (some (ad.add (i * 29)))) rfl (fun w => idx_op ad n cp i hli w) rfl (by kernel_rfl) True.intro (Ev.at (i := 9) (by kernel_rfl) (by kernel_rfl) rfl) (Ev.at (i := 10) (by kernel_rfl) (by kernel_rfl) rfl)
                  · exact v_load (u := .pointer (some (ad.add (i * 29)))) (c := .agg (oc x.1)) rfl (fun w hB => ldp_op (OpIn.keep (OpIn.dr HXI.out) hB)) rfl (by kernel_rfl) True.intro (Ev.at (i := 11) (by kernel_rfl) (by kernel_rfl) rfl)
                  · exact v_move (.inl rfl) rfl (by kernel_rfl) True.intro (Ev.out (by kernel_rfl) rfl)
                  · exact v_move (.inl rfl) rfl (by kernel_rfl) True.intro (Ev.out (by kernel_rfl) rfl)
                  · exact v_iaddr (u := .slice (some ad) n cp) (v := .int .i64 ((k : Nat))) (c := .pointer (some (ad.add (k * 29)))) rfl (fun w => idx_op ad n cp k hlk w) rfl (by kernel_rfl) True.intro (Ev.at (i := 13) (by kernel_rfl) (by kernel_rfl) rfl) (Ev.at (i := 14) (by kernel_rfl) (by kernel_rfl) rfl)
                  · exact v_load (u := .pointer (some (ad.add (k * 29)))) (c := .agg (oc y.1)) rfl (fun w hB => ldp_op (OpIn.keep (OpIn.dr HYI.out) hB)) rfl (by kernel_rfl) True.intro (Ev.at (i := 15) (by kernel_rfl) (by kernel_rfl) rfl)
                  · exact v_call (vs := #[.agg (oc x.1), .agg (oc y.1)]) (c := .int .i64 (cmpM x y)) rfl (fun args w => rfl) (fun w hB => ref_Compare x y HOKX.out HOKY.out w) rfl (by kernel_rfl) True.intro (ev2 (Ev.at (i := 12) (by kernel_rfl) (by kernel_rfl) rfl) (Ev.at (i := 16) (by kernel_rfl) (by kernel_rfl) rfl))
                  · exact v_bin (u := .int .i64 (cmpM x y)) (v := .int .i64 (cmpM x y)) (c := .bool (false)) rfl (fun w => bin_neqI _ _ _ w) rfl (by kernel_rfl) True.intro (Ev.at (i := 8) (by kernel_rfl) (by kernel_rfl) rfl) (Ev.at (i := 17) (by kernel_rfl) (by kernel_rfl) rfl)
                  · exact v_move (.inl rfl) rfl (by kernel_rfl) True.intro (Ev.at (i := 18) (by kernel_rfl) (by kernel_rfl) rfl)
                  · exact v_move (.inl rfl) rfl (by kernel_rfl) ⟨rfl, (by kernel_rfl), (by kernel_rfl)⟩ (Ev.out (by kernel_rfl) rfl)
                  · exact v_move (.inl rfl) rfl (by kernel_rfl) ⟨rfl, (by kernel_rfl), (by kernel_rfl)⟩ (Ev.out (by kernel_rfl) rfl)
                  · exact v_iaddr (u := .slice (some ad) n cp) (v := .int .i64 ((i : Nat))) (c := .pointer (some (ad.add (i * 29)))) rfl (fun w => idx_op ad n cp i hli w) rfl (by kernel_rfl) ⟨rfl, (by kernel_rfl), (by kernel_rfl)⟩ (Ev.at (i := 20) (by kernel_rfl) (by kernel_rfl) rfl) (Ev.at (i := 21) (by kernel_rfl) (by kernel_rfl) rfl)
                  · exact v_load (u := .pointer (some (ad.add (i * 29)))) (c := .agg (oc x.1)) rfl (fun w hB => ldp_op (OpIn.keep (OpIn.dr HXI.out) hB)) rfl (by kernel_rfl) ⟨rfl, (by kernel_rfl), (by kernel_rfl)⟩ (Ev.at (i := 22) (by kernel_rfl) (by kernel_rfl) rfl)
                  · exact v_move (.inl rfl) rfl (by kernel_rfl) ⟨rfl, (by kernel_rfl), (by kernel_rfl)⟩ (Ev.out (by kernel_rfl) rfl)
                  · exact v_move (.inl rfl) rfl (by kernel_rfl) ⟨rfl, (by kernel_rfl), (by kernel_rfl)⟩ (Ev.out (by kernel_rfl) rfl)
                  · exact v_iaddr (u := .slice (some ad) n cp) (v := .int .i64 ((k : Nat))) (c := .pointer (some (ad.add (k * 29)))) rfl (fun w => idx_op ad n cp k hlk w) rfl (by kernel_rfl) ⟨rfl, (by kernel_rfl), (by kernel_rfl)⟩ (Ev.at (i := 24) (by kernel_rfl) (by kernel_rfl) rfl) (Ev.at (i := 25) (by kernel_rfl) (by kernel_rfl) rfl)
                  · exact v_load (u := .pointer (some (ad.add (k * 29)))) (c := .agg (oc y.1)) rfl (fun w hB => ldp_op (OpIn.keep (OpIn.dr HYI.out) hB)) rfl (by kernel_rfl) ⟨rfl, (by kernel_rfl), (by kernel_rfl)⟩ (Ev.at (i := 26) (by kernel_rfl) (by kernel_rfl) rfl)
                  · exact v_call (vs := #[.agg (oc x.1), .agg (oc y.1)]) (c := .bool (BX)) rfl (fun args w => rfl) (fun w hB => HB1.out w) rfl (by kernel_rfl) ⟨rfl, (by kernel_rfl), (by kernel_rfl)⟩ (ev2 (Ev.at (i := 23) (by kernel_rfl) (by kernel_rfl) rfl) (Ev.at (i := 27) (by kernel_rfl) (by kernel_rfl) rfl))
                  · exact v_move (.inl rfl) rfl (by kernel_rfl) ⟨rfl, (by kernel_rfl), (by kernel_rfl)⟩ (Ev.out (by kernel_rfl) rfl)
                  · exact v_move (.inl rfl) rfl (by kernel_rfl) ⟨rfl, (by kernel_rfl), (by kernel_rfl)⟩ (Ev.out (by kernel_rfl) rfl)
                  · exact v_iaddr (u := .slice (some ad) n cp) (v := .int .i64 ((i : Nat))) (c := .pointer (some (ad.add (i * 29)))) rfl (fun w => idx_op ad n cp i hli w) rfl (by kernel_rfl) ⟨rfl, (by kernel_rfl), (by kernel_rfl)⟩ (Ev.at (i := 29) (by kernel_rfl) (by kernel_rfl) rfl) (Ev.at (i := 30) (by kernel_rfl) (by kernel_rfl) rfl)
                  · exact v_load (u := .pointer (some (ad.add (i * 29)))) (c := .agg (oc x.1)) rfl (fun w hB => ldp_op (OpIn.keep (OpIn.dr HXI.out) hB)) rfl (by kernel_rfl) ⟨rfl, (by kernel_rfl), (by kernel_rfl)⟩ (Ev.at (i := 31) (by kernel_rfl) (by kernel_rfl) rfl)
                  · exact v_move (.inl rfl) rfl (by kernel_rfl) ⟨rfl, (by kernel_rfl), (by kernel_rfl)⟩ (Ev.out (by kernel_rfl) rfl)
                  · exact v_move (.inl rfl) rfl (by kernel_rfl) ⟨rfl, (by kernel_rfl), (by kernel_rfl)⟩ (Ev.out (by kernel_rfl) rfl)
                  · exact v_iaddr (u := .slice (some ad) n cp) (v := .int .i64 ((k : Nat))) (c := .pointer (some (ad.add (k * 29)))) rfl (fun w => idx_op ad n cp k hlk w) rfl (by kernel_rfl) ⟨rfl, (by kernel_rfl), (by kernel_rfl)⟩ (Ev.at (i := 33) (by kernel_rfl) (by kernel_rfl) rfl) (Ev.at (i := 34) (by kernel_rfl) (by kernel_rfl) rfl)
                  · exact v_load (u := .pointer (some (ad.add (k * 29)))) (c := .agg (oc y.1)) rfl (fun w hB => ldp_op (OpIn.keep (OpIn.dr HYI.out) hB)) rfl (by kernel_rfl) ⟨rfl, (by kernel_rfl), (by kernel_rfl)⟩ (Ev.at (i := 35) (by kernel_rfl) (by kernel_rfl) rfl)
                  · exact v_call (vs := #[.agg (oc x.1), .agg (oc y.1)]) (c := .bool (BX)) rfl (fun args w => rfl) (fun w hB => HB2.out w) rfl (by kernel_rfl) ⟨rfl, (by kernel_rfl), (by kernel_rfl)⟩ (ev2 (Ev.at (i := 32) (by kernel_rfl) (by kernel_rfl) rfl) (Ev.at (i := 36) (by kernel_rfl) (by kernel_rfl) rfl))
                  · exact v_bin (u := .bool (BX)) (v := .bool (BX)) (c := .bool (false)) rfl (fun w => bin_neqBs _ _ BX w) rfl (by kernel_rfl) ⟨rfl, (by kernel_rfl), (by kernel_rfl)⟩ (Ev.at (i := 28) (by kernel_rfl) (by kernel_rfl) rfl) (Ev.at (i := 37) (by kernel_rfl) (by kernel_rfl) rfl)
                  · exact v_or (p := false) (q := false) rfl rfl (by kernel_rfl) True.intro (Ev.at (i := 19) (by kernel_rfl) (by kernel_rfl) rfl) (fun hp => (Ev.at (i := 38) (by kernel_rfl) (by kernel_rfl) rfl))
                  · exact v_move (.inl rfl) rfl (by kernel_rfl) True.intro (Ev.at (i := 39) (by kernel_rfl) (by kernel_rfl) rfl)
                  · exact v_move (.inl rfl) rfl (by kernel_rfl) ⟨rfl, (by kernel_rfl), (by kernel_rfl)⟩ (Ev.out (by kernel_rfl) rfl)
                  · exact v_move (.inl rfl) rfl (by kernel_rfl) ⟨rfl, (by kernel_rfl), (by kernel_rfl)⟩ (Ev.out (by kernel_rfl) rfl)
                  · exact v_iaddr (u := .slice (some ad) n cp) (v := .int .i64 ((i : Nat))) (c := .pointer (some (ad.add (i * 29)))) rfl (fun w => idx_op ad n cp i hli w) rfl (by kernel_rfl) ⟨rfl, (by kernel_rfl), (by kernel_rfl)⟩ (Ev.at (i := 41) (by kernel_rfl) (by kernel_rfl) rfl) (Ev.at (i := 42) (by kernel_rfl) (by kernel_rfl) rfl)
                  · exact v_load (u := .pointer (some (ad.add (i * 29)))) (c := .agg (oc x.1)) rfl (fun w hB => ldp_op (OpIn.keep (OpIn.dr HXI.out) hB)) rfl (by kernel_rfl) ⟨rfl, (by kernel_rfl), (by kernel_rfl)⟩ (Ev.at (i := 43) (by kernel_rfl) (by kernel_rfl) rfl)
                  · exact v_move (.inl rfl) rfl (by kernel_rfl) ⟨rfl, (by kernel_rfl), (by kernel_rfl)⟩ (Ev.out (by kernel_rfl) rfl)
                  · exact v_move (.inl rfl) rfl (by kernel_rfl) ⟨rfl, (by kernel_rfl), (by kernel_rfl)⟩ (Ev.out (by kernel_rfl) rfl)
                  · exact v_iaddr (u := .slice (some ad) n cp) (v := .int .i64 ((k : Nat))) (c := .pointer (some (ad.add (k * 29)))) rfl (fun w => idx_op ad n cp k hlk w) rfl (by kernel_rfl) ⟨rfl, (by kernel_rfl), (by kernel_rfl)⟩ (Ev.at (i := 45) (by kernel_rfl) (by kernel_rfl) rfl) (Ev.at (i := 46) (by kernel_rfl) (by kernel_rfl) rfl)
                  · exact v_load (u := .pointer (some (ad.add (k * 29)))) (c := .agg (oc y.1)) rfl (fun w hB => ldp_op (OpIn.keep (OpIn.dr HYI.out) hB)) rfl (by kernel_rfl) ⟨rfl, (by kernel_rfl), (by kernel_rfl)⟩ (Ev.at (i := 47) (by kernel_rfl) (by kernel_rfl) rfl)
                  · exact v_call (vs := #[.agg (oc x.1), .agg (oc y.1)]) (c := .bool (false)) rfl (fun args w => rfl) (fun w hB => HB4.out w) rfl (by kernel_rfl) ⟨rfl, (by kernel_rfl), (by kernel_rfl)⟩ (ev2 (Ev.at (i := 44) (by kernel_rfl) (by kernel_rfl) rfl) (Ev.at (i := 48) (by kernel_rfl) (by kernel_rfl) rfl))
                  · exact v_move (.inl rfl) rfl (by kernel_rfl) ⟨rfl, (by kernel_rfl), (by kernel_rfl)⟩ (Ev.out (by kernel_rfl) rfl)
                  · exact v_move (.inl rfl) rfl (by kernel_rfl) ⟨rfl, (by kernel_rfl), (by kernel_rfl)⟩ (Ev.out (by kernel_rfl) rfl)
                  · exact v_iaddr (u := .slice (some ad) n cp) (v := .int .i64 ((i : Nat))) (c := .pointer (some (ad.add (i * 29)))) rfl (fun w => idx_op ad n cp i hli w) rfl (by kernel_rfl) ⟨rfl, (by kernel_rfl), (by kernel_rfl)⟩ (Ev.at (i := 50) (by kernel_rfl) (by kernel_rfl) rfl) (Ev.at (i := 51) (by kernel_rfl) (by kernel_rfl) rfl)
                  · exact v_faddr (u := .pointer (some (ad.add (i * 29)))) (c := .pointer (some (ad.add (i * 29)))) rfl (fun w => (fld_op (ad.add (i * 29)) w).1) rfl (by kernel_rfl) ⟨rfl, (by kernel_rfl), (by kernel_rfl)⟩ (Ev.at (i := 52) (by kernel_rfl) (by kernel_rfl) rfl)
                  · exact v_load (u := .pointer (some (ad.add (i * 29)))) (c := .agg (#[.int .u8 (x.1.r : Int), .int .u32 (x.1.n : Int)])) rfl (fun w hB => ldp_dot (OpIn.keep (OpIn.dr HXI.out) hB)) rfl (by kernel_rfl) ⟨rfl, (by kernel_rfl), (by kernel_rfl)⟩ (Ev.at (i := 53) (by kernel_rfl) (by kernel_rfl) rfl)
                  · exact v_move (.inl rfl) rfl (by kernel_rfl) ⟨rfl, (by kernel_rfl), (by kernel_rfl)⟩ (Ev.out (by kernel_rfl) rfl)
                  · exact v_move (.inl rfl) rfl (by kernel_rfl) ⟨rfl, (by kernel_rfl), (by kernel_rfl)⟩ (Ev.out (by kernel_rfl) rfl)
                  · exact v_iaddr (u := .slice (some ad) n cp) (v := .int .i64 ((k : Nat))) (c := .pointer (some (ad.add (k * 29)))) rfl (fun w => idx_op ad n cp k hlk w) rfl (by kernel_rfl) ⟨rfl, (by kernel_rfl), (by kernel_rfl)⟩ (Ev.at (i := 55) (by kernel_rfl) (by kernel_rfl) rfl) (Ev.at (i := 56) (by kernel_rfl) (by kernel_rfl) rfl)
                  · exact v_faddr (u := .pointer (some (ad.add (k * 29)))) (c := .pointer (some (ad.add (k * 29)))) rfl (fun w => (fld_op (ad.add (k * 29)) w).1) rfl (by kernel_rfl) ⟨rfl, (by kernel_rfl), (by kernel_rfl)⟩ (Ev.at (i := 57) (by kernel_rfl) (by kernel_rfl) rfl)
                  · exact v_load (u := .pointer (some (ad.add (k * 29)))) (c := .agg (#[.int .u8 (y.1.r : Int), .int .u32 (y.1.n : Int)])) rfl (fun w hB => ldp_dot (OpIn.keep (OpIn.dr HYI.out) hB)) rfl (by kernel_rfl) ⟨rfl, (by kernel_rfl), (by kernel_rfl)⟩ (Ev.at (i := 58) (by kernel_rfl) (by kernel_rfl) rfl)
                  · exact v_bin (u := .agg (#[.int .u8 (x.1.r : Int), .int .u32 (x.1.n : Int)])) (v := .agg (#[.int .u8 (y.1.r : Int), .int .u32 (y.1.n : Int)])) (c := .bool (false)) rfl (fun w => bin_neqDe HEQ.out _ _ w) rfl (by kernel_rfl) ⟨rfl, (by kernel_rfl), (by kernel_rfl)⟩ (Ev.at (i := 54) (by kernel_rfl) (by kernel_rfl) rfl) (Ev.at (i := 59) (by kernel_rfl) (by kernel_rfl) rfl)
                  · exact v_move (.inl rfl) rfl (by kernel_rfl) ⟨rfl, (by kernel_rfl), (by kernel_rfl)⟩ (Ev.at (i := 60) (by kernel_rfl) (by kernel_rfl) rfl)
                  · exact flow_skip 61 true (.bool false) rfl rfl (by kernel_rfl) rfl (by intro h; cases h)
                  · exact flow_skip 61 true (.bool false) rfl rfl (by kernel_rfl) rfl (by intro h; cases h)
                  · exact flow_skip 61 true (.bool false) rfl rfl (by kernel_rfl) rfl (by intro h; cases h)
                  · exact flow_skip 61 true (.bool false) rfl rfl (by kernel_rfl) rfl (by intro h; cases h)
                  · exact flow_skip 61 true (.bool false) rfl rfl (by kernel_rfl) rfl (by intro h; cases h)
                  · exact flow_skip 61 true (.bool false) rfl rfl (by kernel_rfl) rfl (by intro h; cases h)
                  · exact flow_skip 61 true (.bool false) rfl rfl (by kernel_rfl) rfl (by intro h; cases h)
                  · exact flow_skip 61 true (.bool false) rfl rfl (by kernel_rfl) rfl (by intro h; cases h)
                  · exact flow_skip 61 true (.bool false) rfl rfl (by kernel_rfl) rfl (by intro h; cases h)
                  · exact flow_skip 61 true (.bool false) rfl rfl (by kernel_rfl) rfl (by intro h; cases h)
                  · exact v_and (p := false) (q := false) rfl rfl (by kernel_rfl) ⟨rfl, (by kernel_rfl), (by kernel_rfl)⟩ (Ev.at (i := 61) (by kernel_rfl) (by kernel_rfl) rfl) (fun hp => by cases hp)
                  · exact v_move (.inl rfl) rfl (by kernel_rfl) ⟨rfl, (by kernel_rfl), (by kernel_rfl)⟩ (Ev.at (i := 72) (by kernel_rfl) (by kernel_rfl) rfl)
                  · exact flow_skip 73 true (.bool false) rfl rfl (by kernel_rfl) rfl (by intro h; cases h)
                  · exact flow_skip 73 true (.bool false) rfl rfl (by kernel_rfl) rfl (by intro h; cases h)
                  · exact flow_skip 73 true (.bool false) rfl rfl (by kernel_rfl) rfl (by intro h; cases h)
                  · exact flow_skip 73 true (.bool false) rfl rfl (by kernel_rfl) rfl (by intro h; cases h)
                  · exact flow_skip 73 true (.bool false) rfl rfl (by kernel_rfl) rfl (by intro h; cases h)
                  · exact flow_skip 73 true (.bool false) rfl rfl (by kernel_rfl) rfl (by intro h; cases h)
                  · exact flow_skip 73 true (.bool false) rfl rfl (by kernel_rfl) rfl (by intro h; cases h)
                  · exact flow_skip 73 true (.bool false) rfl rfl (by kernel_rfl) rfl (by intro h; cases h)
                  · exact flow_skip 73 true (.bool false) rfl rfl (by kernel_rfl) rfl (by intro h; cases h)
                  · exact flow_skip 73 true (.bool false) rfl rfl (by kernel_rfl) rfl (by intro h; cases h)
                  · exact v_and (p := false) (q := false) rfl rfl (by kernel_rfl) ⟨rfl, (by kernel_rfl), (by kernel_rfl)⟩ (Ev.at (i := 73) (by kernel_rfl) (by kernel_rfl) rfl) (fun hp => by cases hp)
                  · exact v_bin (u := .bool (false)) (v := .bool (false)) (c := .bool (false)) rfl (fun w => bin_neqBs _ _ false w) rfl (by kernel_rfl) ⟨rfl, (by kernel_rfl), (by kernel_rfl)⟩ (Ev.at (i := 49) (by kernel_rfl) (by kernel_rfl) rfl) (Ev.at (i := 84) (by kernel_rfl) (by kernel_rfl) rfl)
                  · exact v_or (p := false) (q := false) rfl rfl (by kernel_rfl) True.intro (Ev.at (i := 40) (by kernel_rfl) (by kernel_rfl) rfl) (fun hp => (Ev.at (i := 85) (by kernel_rfl) (by kernel_rfl) rfl))
                intro _ vs w5 hB5 hf
                have e86 : vs 86 = .bool false := hf 86 (by decide)
                simp only [fill, List.setIfInBounds_toArray, List.set_cons_zero, List.set_cons_succ, e86]
                clear hf e86
                have HR2 := hid (show w5.heap[W0.heap.size]? = some (.cells (vc vv) 25 (0, 0)) ∧ Below W0.heap.size W0 w5 from ⟨heap_keep HR.out.1 hB5, below_next HR.out.2 hB5⟩)
                clear hB5
                go_wp2
                go_roundw
                case rel => exact ⟨k + 1, by omega, by go_num, HR2⟩
                case measure => exact meas1 hlk
            · obtain rfl : k = n := by omega
              obtain ⟨x', hx'⟩ : ∃ x', findM l (dt x) = some x' := by
                have : (findM l (dt x)).isSome = true := by
                  unfold findM
                  rw [List.find?_isSome]
                  exact ⟨x, List.mem_of_getElem? HX.out, by simp⟩
                exact Option.isSome_iff_exists.1 this
              have HX' := hid (List.mem_of_find?_eq_some hx')
              have hfind := order_Find (.slice (some ad) k cp) l (dt x) wr ⟨some ad, k, cp, rfl, HI.out.keep HR.out.2⟩ (fun q hq => Nat.le_trans (HL.out.2 q hq) (by omega))
              have hfind2 := fun W (hb : Below W0.heap.size W0 W) => ref_Find (.slice (some ad) k cp) l (dt x) W ⟨some ad, k, cp, rfl, HI.out.keep hb⟩
              rw [hx'] at hfind hfind2
              have HF2 := hid hfind2
              clear hx' hfind2
              have HXI := hid ((HI.out.keep HR.out.2).opIn HX.out)
              go_upto_region 12 with (first
                | (refine load_dotIn _ rfl rfl (ad.add (i * 29)) rfl x.1 HXI.out ?_)
                | (go_at_call 15; refine hfind.mono ?_; rintro e w7 ⟨oo, oc', rfl, hfo, hb⟩; have HF := hid (And.intro hfo hb); clear hfo hb hfind)
                | (refine wpList_store_row rfl _ (.tmp 9) (.tmp 123) rfl w7.heap.size (oc oo) rfl rfl 34 (oc zeroO) (heap_alloc_last' _ _) (opSize _) rfl (found_one HF.out.1) ?_))
              have hBW := Below.setRow (below_al w7 (.cells (oc zeroO) 34)) (Nat.le_refl _) (oc oo)
              refine gen_code (fun W => OpAt W w7.heap.size oo ∧ ClaimsV W oo.lv oc' ∧ W.heap[W0.heap.size]? = some (.cells (vc vv) 25 (0, 0)) ∧ Below W0.heap.size W0 W) ⟨heap_row (heap_alloc_last' _ _), HF.out.1.cl.keep hBW, heap_keep (heap_keep HR.out.1 HF.out.2) hBW, below_next (below_next HR.out.2 HF.out.2) hBW⟩ ?_
              clear hBW
              have HCR := hid HF.out.1.is
              generalize w7.heap.size = g9
              clear HF HXI HR
              rintro w8 h8
              have HG := hid h8
              clear h8
              have HXI := hid ((HI.out.keep HG.out.2.2.2).opIn HX.out)
              have hfind := HF2.out w8 HG.out.2.2.2
              have HOKX' := hid (HI.out.2.2.2.1 x' HX'.out)
              go_upto_region 13 with (first
                | (refine load_dotIn _ rfl rfl (ad.add (i * 29)) rfl x.1 HXI.out ?_)
                | (go_at_call 16; refine hfind.mono ?_; rintro e w9 ⟨rfl, hb⟩; have HB9 := hid hb; clear hb hfind)
                | (refine wpList_store_row rfl _ (.tmp 11) (.tmp 133) rfl w9.heap.size (oc x'.1) rfl rfl 34 (oc zeroO) (heap_alloc_last' _ _) (opSize _) rfl (oneO _ HOKX'.out.2.oneCell) ?_))
              have hBW := below_next HB9.out (Below.setRow (below_al w9 (.cells (oc zeroO) 34)) (Nat.le_refl _) (oc x'.1))
              refine gen_code (fun W => OpAt W g9 oo ∧ OpAt W w9.heap.size x'.1 ∧ ClaimsV W oo.lv oc' ∧ W.heap[W0.heap.size]? = some (.cells (vc vv) 25 (0, 0)) ∧ Below W0.heap.size W0 W) ⟨HG.out.1.keep hBW, heap_row (heap_alloc_last' _ _), HG.out.2.1.keep hBW, heap_keep HG.out.2.2.1 hBW, below_next HG.out.2.2.2 hBW⟩ ?_
              clear hBW
              generalize w9.heap.size = g11
              clear HB9 HG HXI HF2
              rintro w10 h10
              have HG := hid h10
              clear h10
              have hsame := ref_Same oo x'.1 oc' x'.2 w10 HG.out.2.2.1 (HOKX'.out.2.keep HG.out.2.2.2.2)
              rw [show sameM oo x'.1 oc' x'.2 = true from same_core (x := (oo, oc')) HCR.out] at hsame
              go_wp2_with (first
                | (refine load_any _ _ rfl rfl (.pointer (some ⟨g9, 0, none⟩)) (.agg (oc oo)) rfl (ld_at HG.out.1) ?_)
                | (refine load_any _ _ rfl rfl (.pointer (some ⟨g11, 0, none⟩)) (.agg (oc x'.1)) rfl (ld_at HG.out.2.1) ?_)
                | (go_at_call 17; refine hsame.mono ?_; rintro e w11 ⟨rfl, hb⟩; have HR := hid (And.intro (heap_keep HG.out.2.2.2.1 hb) (below_next HG.out.2.2.2.2 hb)); clear hb hsame))
              go_roundw
              case rel => exact ⟨i + 1, by omega, by go_num, HR⟩
              case measure => exact meas1 hli
      · obtain rfl : k = n := by omega
        have HCW := hid (below_dr wr)
        go_upto_region 15 with (fail)
        refine wp_flow (fun _ => none) (Fa.eq (.slice a k cp) :: Fa.dep (SortP l) :: Fa.eq (.slice a k cp) :: Fa.dep (SortP l) :: Fa.eq (.bool true) :: Fa.eq (.bool true) :: Fa.eq (.slice a k cp) :: Fa.eq (.agg (vc vv)) :: Fa.dep (RowAs (cutM l vv)) :: Fa.eq (.slice a k cp) :: Fa.eq (.agg (vc vv)) :: Fa.dep (RowAs (cutM l vv)) :: Fa.eq (.bool true) :: Fa.eq (.bool true) :: Fa.eq (.bool true) :: Fa.eq (.slice a k cp) :: Fa.eq (.agg (vc (knownM l))) :: Fa.eq (.slice a k cp) :: Fa.eq (.agg (vc (knownM l))) :: Fa.eq (.bool true) :: Fa.eq (.bool true) :: Fa.eq (.bool true) :: Fa.eq (.slice a k cp) :: Fa.eq (.int .i64 nr) :: Fa.eq (.int .i64 (histM nr l)) :: Fa.eq (.slice a k cp) :: Fa.eq (.int .i64 nr) :: Fa.eq (.int .i64 (histM nr l)) :: Fa.eq (.bool true) :: Fa.eq (.bool true) :: Fa.eq (.bool true) :: Fa.eq (.bool true) :: Fa.eq (.bool true) :: Fa.eq (.bool true) :: []) 177 (by kernel_rfl) (by kernel_rfl) (by kernel_rfl) rfl (by kernel_rfl) ?_ ?_ ?_
        · exact ⟨trivial, ⟨fun _ => rfl, fun _ _ _ hb h => SortP.keep h hb⟩, trivial, ⟨fun _ => rfl, fun _ _ _ hb h => SortP.keep h hb⟩, trivial, trivial, trivial, trivial, ⟨fun _ => rfl, fun _ _ _ hb h => RowAs.keep h hb⟩, trivial, trivial, ⟨fun _ => rfl, fun _ _ _ hb h => RowAs.keep h hb⟩, trivial, trivial, trivial, trivial, trivial, trivial, trivial, trivial, trivial, trivial, trivial, trivial, trivial, trivial, trivial, trivial, trivial, trivial, trivial, trivial, trivial, trivial, trivial⟩
        · refine ⟨?_, ?_, ?_, ?_, ?_, ?_, ?_, ?_, ?_, ?_, ?_, ?_, ?_, ?_, ?_, ?_, ?_, ?_, ?_, ?_, ?_, ?_, ?_, ?_, ?_, ?_, ?_, ?_, ?_, ?_, ?_, ?_, ?_, ?_, trivial⟩
          · exact v_move (.inl rfl) rfl (by kernel_rfl) True.intro (Ev.out (by kernel_rfl) rfl)
          · exact v_callr1 (u := .slice a k cp) rfl (fun args w => rfl) (fun w hB => sort_as (.slice a k cp) l w ⟨a, k, cp, rfl, HI.out.keep (below_next HR.out.2 (below_next HCW.out hB))⟩ (by have := HL.out.1; omega) (fun q hq => Nat.le_trans (HL.out.2 q hq) (by omega))) rfl (by kernel_rfl) True.intro (Ev.at (i := 0) (by kernel_rfl) (by kernel_rfl) rfl)
          · exact v_move (.inl rfl) rfl (by kernel_rfl) True.intro (Ev.out (by kernel_rfl) rfl)
          · exact v_callr1 (u := .slice a k cp) rfl (fun args w => rfl) (fun w hB => refSort_as (.slice a k cp) l w ⟨a, k, cp, rfl, HI.out.keep (below_next HR.out.2 (below_next HCW.out hB))⟩ (by have := HL.out.1; omega)) rfl (by kernel_rfl) True.intro (Ev.at (i := 2) (by kernel_rfl) (by kernel_rfl) rfl)
          · exact v_calle2 (p := SortP l) (q := SortP l) (c := .bool true) rfl (fun args w => rfl) (fun v u w hB hp hq => same_sort hp hq) rfl (by kernel_rfl) True.intro (EvD.at (i := 1) (by kernel_rfl) (by kernel_rfl) rfl) (EvD.at (i := 3) (by kernel_rfl) (by kernel_rfl) rfl)
          · exact v_move (.inl rfl) rfl (by kernel_rfl) True.intro (Ev.at (i := 4) (by kernel_rfl) (by kernel_rfl) rfl)
          · exact v_move (.inl rfl) rfl (by kernel_rfl) ⟨rfl, (by kernel_rfl), (by kernel_rfl)⟩ (Ev.out (by kernel_rfl) rfl)
          · exact v_load (u := .pointer (some ⟨W0.heap.size, 0, none⟩)) (c := .agg (vc vv)) rfl (fun w hB => ldp_vbox (heap_keep (show (World.drew _).heap[_]? = _ from HR.out.1) hB)) rfl (by kernel_rfl) ⟨rfl, (by kernel_rfl), (by kernel_rfl)⟩ (Ev.out (by kernel_rfl) rfl)
          · exact v_callr2 (u := .slice a k cp) (v := .agg (vc vv)) rfl (fun args w => rfl) (fun w hB => cut_as (.slice a k cp) l vv w ⟨a, k, cp, rfl, HI.out.keep (below_next HR.out.2 (below_next HCW.out hB))⟩ (fun q hq => Nat.le_trans (HL.out.2 q hq) (by omega)) (by have := HL.out.1; omega)) rfl (by kernel_rfl) ⟨rfl, (by kernel_rfl), (by kernel_rfl)⟩ (Ev.at (i := 6) (by kernel_rfl) (by kernel_rfl) rfl) (Ev.at (i := 7) (by kernel_rfl) (by kernel_rfl) rfl)
          · exact v_move (.inl rfl) rfl (by kernel_rfl) ⟨rfl, (by kernel_rfl), (by kernel_rfl)⟩ (Ev.out (by kernel_rfl) rfl)
          · exact v_load (u := .pointer (some ⟨W0.heap.size, 0, none⟩)) (c := .agg (vc vv)) rfl (fun w hB => ldp_vbox (heap_keep (show (World.drew _).heap[_]? = _ from HR.out.1) hB)) rfl (by kernel_rfl) ⟨rfl, (by kernel_rfl), (by kernel_rfl)⟩ (Ev.out (by kernel_rfl) rfl)
          · exact v_callr2 (u := .slice a k cp) (v := .agg (vc vv)) rfl (fun args w => rfl) (fun w hB => refCut_as (.slice a k cp) l vv w ⟨a, k, cp, rfl, HI.out.keep (below_next HR.out.2 (below_next HCW.out hB))⟩ (by have := HL.out.1; omega)) rfl (by kernel_rfl) ⟨rfl, (by kernel_rfl), (by kernel_rfl)⟩ (Ev.at (i := 9) (by kernel_rfl) (by kernel_rfl) rfl) (Ev.at (i := 10) (by kernel_rfl) (by kernel_rfl) rfl)
          · exact v_calle2 (p := RowAs (cutM l vv)) (q := RowAs (cutM l vv)) (c := .bool true) rfl (fun args w => rfl) (fun v u w hB hp hq => same_as hp hq rfl) rfl (by kernel_rfl) ⟨rfl, (by kernel_rfl), (by kernel_rfl)⟩ (EvD.at (i := 8) (by kernel_rfl) (by kernel_rfl) rfl) (EvD.at (i := 11) (by kernel_rfl) (by kernel_rfl) rfl)
          · exact v_and (p := true) (q := true) rfl rfl (by kernel_rfl) True.intro (Ev.at (i := 5) (by kernel_rfl) (by kernel_rfl) rfl) (fun hp => (Ev.at (i := 12) (by kernel_rfl) (by kernel_rfl) rfl))
          · exact v_move (.inl rfl) rfl (by kernel_rfl) True.intro (Ev.at (i := 13) (by kernel_rfl) (by kernel_rfl) rfl)
          · exact v_move (.inl rfl) rfl (by kernel_rfl) ⟨rfl, (by kernel_rfl), (by kernel_rfl)⟩ (Ev.out (by kernel_rfl) rfl)
          · exact v_call (vs := #[.slice a k cp]) (c := .agg (vc (knownM l))) rfl (fun args w => rfl) (fun w hB => order_Known (.slice a k cp) l w ⟨a, k, cp, rfl, HI.out.keep (below_next HR.out.2 (below_next HCW.out hB))⟩) rfl (by kernel_rfl) ⟨rfl, (by kernel_rfl), (by kernel_rfl)⟩ (ev1 (Ev.at (i := 15) (by kernel_rfl) (by kernel_rfl) rfl))
          · exact v_move (.inl rfl) rfl (by kernel_rfl) ⟨rfl, (by kernel_rfl), (by kernel_rfl)⟩ (Ev.out (by kernel_rfl) rfl)
          · exact v_call (vs := #[.slice a k cp]) (c := .agg (vc (knownM l))) rfl (fun args w => rfl) (fun w hB => ref_Known (.slice a k cp) l w ⟨a, k, cp, rfl, HI.out.keep (below_next HR.out.2 (below_next HCW.out hB))⟩) rfl (by kernel_rfl) ⟨rfl, (by kernel_rfl), (by kernel_rfl)⟩ (ev1 (Ev.at (i := 17) (by kernel_rfl) (by kernel_rfl) rfl))
          · exact v_bin (u := .agg (vc (knownM l))) (v := .agg (vc (knownM l))) (c := .bool true) rfl (fun w => eql_same _ _ _ w) rfl (by kernel_rfl) ⟨rfl, (by kernel_rfl), (by kernel_rfl)⟩ (Ev.at (i := 16) (by kernel_rfl) (by kernel_rfl) rfl) (Ev.at (i := 18) (by kernel_rfl) (by kernel_rfl) rfl)
          · exact v_and (p := true) (q := true) rfl rfl (by kernel_rfl) True.intro (Ev.at (i := 14) (by kernel_rfl) (by kernel_rfl) rfl) (fun hp => (Ev.at (i := 19) (by kernel_rfl) (by kernel_rfl) rfl))
          · exact v_move (.inl rfl) rfl (by kernel_rfl) True.intro (Ev.at (i := 20) (by kernel_rfl) (by kernel_rfl) rfl)
          · exact v_move (.inl rfl) rfl (by kernel_rfl) ⟨rfl, (by kernel_rfl), (by kernel_rfl)⟩ (Ev.out (by kernel_rfl) rfl)
          · exact v_move (.inl rfl) rfl (by kernel_rfl) ⟨rfl, (by kernel_rfl), (by kernel_rfl)⟩ (Ev.out (by kernel_rfl) rfl)
          · exact v_call (vs := #[.slice a k cp, .int .i64 nr]) (c := .int .i64 (histM nr l)) rfl (fun args w => rfl) (fun w hB => order_History (.slice a k cp) l nr w ⟨a, k, cp, rfl, HI.out.keep (below_next HR.out.2 (below_next HCW.out hB))⟩ (HT.out.keep (below_next HR.out.2 (below_next HCW.out hB))) (by have := HL.out.1; omega)) rfl (by kernel_rfl) ⟨rfl, (by kernel_rfl), (by kernel_rfl)⟩ (ev2 (Ev.at (i := 22) (by kernel_rfl) (by kernel_rfl) rfl) (Ev.at (i := 23) (by kernel_rfl) (by kernel_rfl) rfl))
          · exact v_move (.inl rfl) rfl (by kernel_rfl) ⟨rfl, (by kernel_rfl), (by kernel_rfl)⟩ (Ev.out (by kernel_rfl) rfl)
          · exact v_move (.inl rfl) rfl (by kernel_rfl) ⟨rfl, (by kernel_rfl), (by kernel_rfl)⟩ (Ev.out (by kernel_rfl) rfl)
          · exact v_call (vs := #[.slice a k cp, .int .i64 nr]) (c := .int .i64 (histM nr l)) rfl (fun args w => rfl) (fun w hB => ref_History (.slice a k cp) l nr w ⟨a, k, cp, rfl, HI.out.keep (below_next HR.out.2 (below_next HCW.out hB))⟩) rfl (by kernel_rfl) ⟨rfl, (by kernel_rfl), (by kernel_rfl)⟩ (ev2 (Ev.at (i := 25) (by kernel_rfl) (by kernel_rfl) rfl) (Ev.at (i := 26) (by kernel_rfl) (by kernel_rfl) rfl))
          · exact v_bin (u := .int .i64 (histM nr l)) (v := .int .i64 (histM nr l)) (c := .bool true) rfl (fun w => bin_eqlI _ _ _ w) rfl (by kernel_rfl) ⟨rfl, (by kernel_rfl), (by kernel_rfl)⟩ (Ev.at (i := 24) (by kernel_rfl) (by kernel_rfl) rfl) (Ev.at (i := 27) (by kernel_rfl) (by kernel_rfl) rfl)
          · exact v_and (p := true) (q := true) rfl rfl (by kernel_rfl) True.intro (Ev.at (i := 21) (by kernel_rfl) (by kernel_rfl) rfl) (fun hp => (Ev.at (i := 28) (by kernel_rfl) (by kernel_rfl) rfl))
          · exact v_move (.inl rfl) rfl (by kernel_rfl) True.intro (Ev.at (i := 29) (by kernel_rfl) (by kernel_rfl) rfl)
          · exact v_call (vs := #[]) (c := .bool true) rfl (fun args w => rfl) (fun w hB => HH.out w (below_next HR.out.2 (below_next HCW.out hB))) rfl (by kernel_rfl) ⟨rfl, (by kernel_rfl), (by kernel_rfl)⟩ ev0
          · exact v_and (p := true) (q := true) rfl rfl (by kernel_rfl) True.intro (Ev.at (i := 30) (by kernel_rfl) (by kernel_rfl) rfl) (fun hp => (Ev.at (i := 31) (by kernel_rfl) (by kernel_rfl) rfl))
          · exact v_move (.inr rfl) rfl (by kernel_rfl) True.intro (Ev.at (i := 32) (by kernel_rfl) (by kernel_rfl) rfl)
        intro _ vs W2 hB2 hf
        have e33 : vs 33 = .bool true := hf 33 (by decide)
        simp only [fill, List.setIfInBounds_toArray, List.set_cons_zero, List.set_cons_succ, e33]
        have HE := hid (below_next HR.out.2 hB2)
        clear hB2 hf
        go_wp2
        go_ret
        exact ⟨rfl, HE.out⟩
  · rw [hgb] at hgr
    have hhd := HH.out _ HW.out.2
    clear hgb
    go_wp2_with (first
      | (go_at_call 8; refine hgr.mono ?_; rintro e w1 ⟨rfl, hw⟩; have hw2 := hw.symm; clear hw; subst hw2)
      | (go_at_call 9; refine hhd.mono ?_; rintro e w3 ⟨rfl, hb⟩; have HE := hid (below_next HW.out.2 hb); clear hb))
    go_ret
    exact ⟨rfl, HE.out⟩
end Go.Proofs.YtagdapmnghnphaaDoor.V
