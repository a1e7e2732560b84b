/-
  Rows of operations compared: the document's, and slices.EqualFunc.
-/
import Derived.Test.YtagjgknkkbkjgaaFE
import Derived.Test.YtagjgknkkbkjgaaJO
namespace Go.Proofs.Ytagjgknkkbkjgaa.V
set_option linter.unusedVariables false
set_option linter.unusedSimpArgs false
set_option maxRecDepth 100000
open Go Go.RowKit Go.Maps Wire

def sameO (x y : OC) : Bool := sameM x.1 y.1 x.2 y.2
def sameL : List OC → List OC → Bool
  | [], [] => true
  | x :: r, y :: s => sameO x y && sameL r s
  | _, _ => false
theorem sameL_len : ∀ {la lb : List OC}, la.length ≠ lb.length → sameL la lb = false
  | [], [], h => absurd rfl h
  | [], _ :: _, _ => rfl
  | _ :: _, [], _ => rfl
  | x :: r, y :: s, h => by
    simp only [sameL, Bool.and_eq_false_iff]
    exact .inr (sameL_len (by simpa using h))
theorem sameL_all : ∀ {la lb : List OC}, la.length = lb.length → (∀ (j : Nat) x y, la[j]? = some x → lb[j]? = some y → sameO x y = true) → sameL la lb = true
  | [], [], _, _ => rfl
  | [], _ :: _, h, _ => by simp at h
  | _ :: _, [], h, _ => by simp at h
  | x :: r, y :: s, h, ha => by
    simp only [sameL, Bool.and_eq_true]
    exact ⟨ha 0 x y rfl rfl, sameL_all (by simpa using h) (fun j a b h1 h2 => ha (j + 1) a b (by simpa using h1) (by simpa using h2))⟩
theorem sameL_not : ∀ {la lb : List OC} {k : Nat} {x y : OC}, la[k]? = some x → lb[k]? = some y → sameO x y = false → sameL la lb = false
  | [], _, _, _, _, h, _, _ => by simp at h
  | _ :: _, [], _, _, _, _, h, _ => by simp at h
  | a :: r, b :: s, 0, x, y, h1, h2, h => by
    simp at h1 h2; subst h1; subst h2
    simp [sameL, h]
  | a :: r, b :: s, k + 1, x, y, h1, h2, h => by
    simp only [sameL, Bool.and_eq_false_iff]
    exact .inr (sameL_not (by simpa using h1) (by simpa using h2) h)
theorem load_op2 {ops : Array Oper} {rest : List Oper} {c : Oper} {a : Act} {w : World} {Q : Exit → Act → World → Prop} (x : Operand) (ho : c.op = .load 50 x) (hw : Region.wanted c (yielded ops a.tmps) = true)
    (g : Nat) (hx : a.eval x = .pointer (some ⟨g, 0, none⟩)) (o : OpM) (hg : OpAt w g o)
    (h : wpList Try.prog ops Q rest (a.put c.dst (.agg (oc o))) w) : wpList Try.prog ops Q (c :: rest) a w := load_op hw x ho g hx o hg h
theorem ld_opIn {w : World} {p : Addr} {o : OpM} (h : OpIn w p o) : (Instr.loadAt 50 (.pointer (some p))).run Try.prog w = .ok (.agg (oc o)) w := by
  simp only [Instr.loadAt, Instr.sureAddr, Sem.run_bind, Sem.run_pure, Result.andThen_ok, run_loadVar_op h]
theorem idx_ops {ad : Addr} {n cap k : Nat} (h : k < n) (w : World) : (Instr.indexAt 25 (.slice (some ad) n cap) (.int .i64 (k : Int))).run Try.prog w = .ok (.pointer (some (ad.add (k * 29)))) w := by
  have h1 : (0 : Int) ≤ (k : Int) := by omega
  have h2 : (k : Int) < (n : Int) := by omega
  go_simp
theorem idx_ops' {ad : Addr} {n cap k : Nat} {p : Addr} (h : k < n) (hp : ad.add (k * 29) = p) (w : World) : (Instr.indexAt 25 (.slice (some ad) n cap) (.int .i64 (k : Int))).run Try.prog w = .ok (.pointer (some p)) w := hp ▸ idx_ops h w

set_option maxHeartbeats 1000000 in
theorem ref_SameAll (la lb : List OC) (va vb : Value) (w : World) (ha : OpsV w va la) (hb : OpsV w vb lb) :
    Calls Try.prog 39 #[va, vb] w
      fun e w' => e = .returned (.bool (sameL la lb)) ∧ Below w.heap.size w w' := by
  obtain ⟨ad, n, cap, rfl, hIa⟩ := ha
  obtain ⟨bd, m, cap2, rfl, hIb⟩ := hb
  have HA := hid hIa
  have HB := hid hIb
  have hm : n ≤ 9223372036854775807 := by have h1 := hIa.2.1; have h2 := hIa.2.2.1; unfold maxLen at h2; omega
  have hm2 : m ≤ 9223372036854775807 := by have h1 := hIb.2.1; have h2 := hIb.2.2.1; unfold maxLen at h2; omega
  have HN := hid (And.intro hIa.1 hIb.1)
  clear hIa hIb
  by_cases hnm : n = m
  · subst hnm
    have hne : ((n : Int) != (n : Int)) = false := by simp
    go_enter Try.func39, Try.ntmps39
    go_upto_region 4 with (fail)
    clear hne
    go_loopw [5] (fun i wr => ∃ k : Nat, k ≤ n ∧ i = .int .i64 k ∧ Below w.heap.size w wr ∧ ∀ j x y, j < k → la[j]? = some x → lb[j]? = some y → sameO x y = true) (fun i _ => n - (intOf i).toNat)
    case atStart => exact ⟨0, by omega, rfl, Below.refl _ _, fun j x y h => by omega⟩
    case round =>
      obtain ⟨k, hk, rfl, hBr, hall⟩ := hrel
      have HALL := hid hall
      have HR := hid hBr
      clear hall hBr
      by_cases hlt : k < n
      · cases ad with
        | none => have := HA.out.none_len; omega
        | some ad =>
        cases bd with
        | none => have := HB.out.none_len; omega
        | some bd =>
          obtain ⟨o1, l1, a1, n1, c1, B1, O1, sp1, hx1, hok1, hc1, hin1, hA1, c281, hl1⟩ := (HA.out.keep HR.out).at' k hlt
          obtain ⟨o2, l2, a2, n2, c2, B2, O2, sp2, hx2, hok2, hc2, hin2, hA2, c282, hl2⟩ := (HB.out.keep HR.out).at' k hlt
          have HX := hid (And.intro hx1 hx2)
          have HC := hid (And.intro hc1 hc2)
          have HIN1 := hid hin1
          have HIN2 := hid hin2
          have HAD := hid (And.intro hA1 hA2)
          clear hx1 hok1 hc1 hin1 hA1 c281 hl1 hx2 hok2 hc2 hin2 hA2 c282 hl2
          go_upto_region 6 with (fail)
          refine wp_flow (fun _ => none) (Fa.eq (.slice (some ad) n cap) :: Fa.eq (.int .i64 ((k : Int))) :: Fa.eq (.pointer (some ⟨B1, O1, sp1⟩)) :: Fa.eq (.agg (oc o1)) :: Fa.eq (.slice (some bd) n cap2) :: Fa.eq (.int .i64 ((k : Int))) :: Fa.eq (.pointer (some ⟨B2, O2, sp2⟩)) :: Fa.eq (.agg (oc o2)) :: Fa.eq (.bool (sameM o1 o2 l1 l2)) :: Fa.eq (.bool (!(sameM o1 o2 l1 l2))) :: []) 27 (by kernel_rfl) rfl (by kernel_rfl) rfl (by kernel_rfl) ?_ ?_ ?_
          · exact fits_plain _ _ rfl
          · refine ⟨?_, ?_, ?_, ?_, ?_, ?_, ?_, ?_, ?_, ?_, trivial⟩
            · exact v_move (.inl rfl) rfl (by kernel_rfl) True.intro (Ev.out (by kernel_rfl) rfl)
            · exact v_move (.inl rfl) rfl (by kernel_rfl) True.intro (Ev.out (by kernel_rfl) rfl)
            · exact v_iaddr (u := .slice (some ad) n cap) (v := .int .i64 ((k : Int))) (c := .pointer (some ⟨B1, O1, sp1⟩)) rfl (fun w => idx_ops' hlt HAD.out.1 w) rfl (by kernel_rfl) True.intro (Ev.at (i := 0) (by kernel_rfl) (by kernel_rfl) rfl) (Ev.at (i := 1) (by kernel_rfl) (by kernel_rfl) rfl)
            · exact v_load (u := .pointer (some ⟨B1, O1, sp1⟩)) (c := .agg (oc o1)) rfl (fun w hB => ld_opIn (OpIn.keep (w := wr.drew) HIN1.out hB)) rfl (by kernel_rfl) True.intro (Ev.at (i := 2) (by kernel_rfl) (by kernel_rfl) rfl)
            · exact v_move (.inl rfl) rfl (by kernel_rfl) True.intro (Ev.out (by kernel_rfl) rfl)
            · exact v_move (.inl rfl) rfl (by kernel_rfl) True.intro (Ev.out (by kernel_rfl) rfl)
            · exact v_iaddr (u := .slice (some bd) n cap2) (v := .int .i64 ((k : Int))) (c := .pointer (some ⟨B2, O2, sp2⟩)) rfl (fun w => idx_ops' hlt HAD.out.2 w) rfl (by kernel_rfl) True.intro (Ev.at (i := 4) (by kernel_rfl) (by kernel_rfl) rfl) (Ev.at (i := 5) (by kernel_rfl) (by kernel_rfl) rfl)
            · exact v_load (u := .pointer (some ⟨B2, O2, sp2⟩)) (c := .agg (oc o2)) rfl (fun w hB => ld_opIn (OpIn.keep (w := wr.drew) HIN2.out hB)) rfl (by kernel_rfl) True.intro (Ev.at (i := 6) (by kernel_rfl) (by kernel_rfl) rfl)
            · exact v_call (vs := #[.agg (oc o1), .agg (oc o2)]) (c := .bool (sameM o1 o2 l1 l2)) rfl (fun args w => rfl) (fun w hB => ref_Same o1 o2 l1 l2 w (ClaimsV.keep (w := wr.drew) (ClaimsV.keep HC.out.1 (below_dr _)) hB) (ClaimsV.keep (w := wr.drew) (ClaimsV.keep HC.out.2 (below_dr _)) hB)) rfl (by kernel_rfl) True.intro (ev2 (Ev.at (i := 3) (by kernel_rfl) (by kernel_rfl) rfl) (Ev.at (i := 7) (by kernel_rfl) (by kernel_rfl) rfl))
            · exact v_not rfl rfl (by kernel_rfl) True.intro (Ev.at (i := 8) (by kernel_rfl) (by kernel_rfl) rfl)
          intro o vs w1 hB1 hf
          have e0 : vs 0 = .slice (some ad) n cap := hf 0 (by decide)
          have e1 : vs 1 = .int .i64 ((k : Int)) := hf 1 (by decide)
          have e2 : vs 2 = .pointer (some ⟨B1, O1, sp1⟩) := hf 2 (by decide)
          have e3 : vs 3 = .agg (oc o1) := hf 3 (by decide)
          have e4 : vs 4 = .slice (some bd) n cap2 := hf 4 (by decide)
          have e5 : vs 5 = .int .i64 ((k : Int)) := hf 5 (by decide)
          have e6 : vs 6 = .pointer (some ⟨B2, O2, sp2⟩) := hf 6 (by decide)
          have e7 : vs 7 = .agg (oc o2) := hf 7 (by decide)
          have e8 : vs 8 = .bool (sameM o1 o2 l1 l2) := hf 8 (by decide)
          have e9 : vs 9 = .bool (!(sameM o1 o2 l1 l2)) := hf 9 (by decide)
          simp only [fill, List.setIfInBounds_toArray, List.set_cons_zero, List.set_cons_succ, e0, e1, e2, e3, e4, e5, e6, e7, e8, e9]
          clear e0 e1 e2 e3 e4 e5 e6 e7 e8 e9 hf
          have HB1 := hid (below_next HR.out hB1)
          clear hB1
          obtain ⟨q, hq⟩ : ∃ q, sameM o1 o2 l1 l2 = q := ⟨_, rfl⟩
          rw [hq]
          have HQ := hid hq
          clear hq
          cases q with
          | true =>
            go_wp2
            go_roundw
            case rel =>
              refine ⟨k + 1, by omega, by go_num, HB1.out, fun j x y hj h1 h2 => ?_⟩
              by_cases e : j = k
              · subst e
                rw [HX.out.1] at h1
                rw [HX.out.2] at h2
                cases h1
                cases h2
                exact HQ.out
              · exact HALL.out j x y (by omega) h1 h2
            case measure => simp [intOf]; omega
          | false =>
            go_wp2
            go_ret
            exact ⟨by rw [sameL_not HX.out.1 HX.out.2 HQ.out]; rfl, HB1.out⟩
      · obtain rfl : k = n := by omega
        go_wp2
        go_ret
        refine ⟨congrArg (fun b => Ending.returned (.bool b)) ?_, HR.out⟩
        symm
        exact sameL_all (by rw [HN.out.1, HN.out.2]) (fun j x y h1 h2 => HALL.out j x y (by rw [← HN.out.1]; exact (List.getElem?_eq_some_iff.1 h1).1) h1 h2)
  · have hne : ((n : Int) != (m : Int)) = true := by simp; omega
    have HM := hid hnm
    clear hnm
    go_enter Try.func39, Try.ntmps39
    go_wp2
    go_ret
    exact ⟨by rw [sameL_len (by rw [HN.out.1, HN.out.2]; exact HM.out)]; rfl, Below.refl _ _⟩

def osV : Value := .func (.func 41) #[] #[]
set_option maxHeartbeats 1000000 in
theorem sl_EqualFunc (la lb : List OC) (va vb : Value) (w : World) (ha : OpsV w va la) (hb : OpsV w vb lb) :
    Calls Try.prog 40 #[va, vb, osV] w
      fun e w' => e = .returned (.bool (sameL la lb)) ∧ Below w.heap.size w w' := by
  unfold osV
  obtain ⟨ad, n, cap, rfl, hIa⟩ := ha
  obtain ⟨bd, m, cap2, rfl, hIb⟩ := hb
  have HA := hid hIa
  have HB := hid hIb
  have hm : n ≤ 9223372036854775807 := by have h1 := hIa.2.1; have h2 := hIa.2.2.1; unfold maxLen at h2; omega
  have hm2 : m ≤ 9223372036854775807 := by have h1 := hIb.2.1; have h2 := hIb.2.2.1; unfold maxLen at h2; omega
  have HN := hid (And.intro hIa.1 hIb.1)
  clear hIa hIb
  by_cases hnm : n = m
  · subst hnm
    have hne : ((n : Int) != (n : Int)) = false := by simp
    go_enter Try.func40, Try.ntmps40
    go_upto_region 4 with (fail)
    clear hne
    go_loopw [17] (fun i wr => ∃ k : Nat, k ≤ n ∧ i = .int .i64 k ∧ Below w.heap.size w wr ∧ ∀ j x y, j < k → la[j]? = some x → lb[j]? = some y → sameO x y = true) (fun i _ => n - (intOf i).toNat)
    case atStart => exact ⟨0, by omega, rfl, Below.refl _ _, fun j x y h => by omega⟩
    case round =>
      obtain ⟨k, hk, rfl, hBr, hall⟩ := hrel
      have HALL := hid hall
      have HR := hid hBr
      clear hall hBr
      by_cases hlt : k < n
      · cases ad with
        | none => have := HA.out.none_len; omega
        | some ad =>
        cases bd with
        | none => have := HB.out.none_len; omega
        | some bd =>
          obtain ⟨o1, l1, hx1, hok1, hc1, hin1⟩ := (HA.out.keep HR.out).at k hlt
          obtain ⟨o2, l2, hx2, hok2, hc2, hin2⟩ := (HB.out.keep HR.out).at k hlt
          have HX := hid (And.intro hx1 hx2)
          have HC := hid (And.intro hc1 hc2)
          have HIN1 := hid hin1
          have hB2 := below_al2 wr (.cells (oc o1) 50) (.cells (oc o2) 50)
          have HIN2 := hid (hin2.keep (below_al wr (.cells (oc o1) 50)))
          have H8 := hid ((opAt_new wr o1).al (.cells (oc o2) 50))
          have H9 := hid (show OpAt ((wr.alloc (.cells (oc o1) 50)).alloc (.cells (oc o2) 50)) (wr.heap.size + 1) o2 from last2 _ _ _)
          have hs := op_Same o1 o2 l1 l2 ((wr.alloc (.cells (oc o1) 50)).alloc (.cells (oc o2) 50)) (hc1.keep hB2) (hc2.keep hB2)
          have HB2 := hid (below_next HR.out hB2)
          clear hx1 hok1 hc1 hin1 hx2 hok2 hc2 hin2 hB2
          obtain ⟨q, hq⟩ : ∃ q, sameM o1 o2 l1 l2 = q := ⟨_, rfl⟩
          rw [hq] at hs
          have HQ := hid hq
          have HONE1 := hid (oneO o1 (ClaimsV.one HC.out.1))
          have HONE2 := hid (oneO o2 (ClaimsV.one HC.out.2))
          clear hq
          cases q with
          | true =>
            go_wp2_with (first
              | (refine load_opIn _ rfl (by kernel_rfl) (ad.add (k * 29)) rfl o1 HIN1.out ?_)
              | (refine wpList_store_row rfl _ _ _ rfl wr.heap.size (oc o1) rfl rfl 50 (oc zeroO) ?_ (opSize _) rfl HONE1.out ?_; (focus exact heap_alloc_last' _ _); rw [World.setRow_alloc_new])
              | (refine load_opIn _ rfl (by kernel_rfl) (bd.add (k * 29)) rfl o2 HIN2.out ?_)
              | (refine wpList_store_row rfl _ _ _ rfl (wr.heap.size + 1) (oc o2) rfl rfl 50 (oc zeroO) ?_ (opSize _) rfl HONE2.out ?_; (focus exact last2 _ _ _); rw [row_two])
              | (refine load_op2 _ rfl (by kernel_rfl) wr.heap.size rfl _ H8.out ?_)
              | (refine load_op2 _ rfl (by kernel_rfl) (wr.heap.size + 1) rfl _ H9.out ?_)
              | (go_at_call 41; (with_reducible refine hs.mono ?_); rintro e w1 ⟨rfl, hB1⟩; have HB1 := hid (below_next HB2.out hB1); clear hB1))
            go_roundw
            case rel =>
              refine ⟨k + 1, by omega, by go_num, HB1.out, fun j x y hj h1 h2 => ?_⟩
              by_cases e : j = k
              · subst e
                rw [HX.out.1] at h1
                rw [HX.out.2] at h2
                cases h1
                cases h2
                exact HQ.out
              · exact HALL.out j x y (by omega) h1 h2
            case measure => simp [intOf]; omega
          | false =>
            go_wp2_with (first
              | (refine load_opIn _ rfl (by kernel_rfl) (ad.add (k * 29)) rfl o1 HIN1.out ?_)
              | (refine wpList_store_row rfl _ _ _ rfl wr.heap.size (oc o1) rfl rfl 50 (oc zeroO) ?_ (opSize _) rfl HONE1.out ?_; (focus exact heap_alloc_last' _ _); rw [World.setRow_alloc_new])
              | (refine load_opIn _ rfl (by kernel_rfl) (bd.add (k * 29)) rfl o2 HIN2.out ?_)
              | (refine wpList_store_row rfl _ _ _ rfl (wr.heap.size + 1) (oc o2) rfl rfl 50 (oc zeroO) ?_ (opSize _) rfl HONE2.out ?_; (focus exact last2 _ _ _); rw [row_two])
              | (refine load_op2 _ rfl (by kernel_rfl) wr.heap.size rfl _ H8.out ?_)
              | (refine load_op2 _ rfl (by kernel_rfl) (wr.heap.size + 1) rfl _ H9.out ?_)
              | (go_at_call 41; (with_reducible refine hs.mono ?_); rintro e w1 ⟨rfl, hB1⟩; have HB1 := hid (below_next HB2.out hB1); clear hB1))
            go_ret
            exact ⟨by rw [sameL_not HX.out.1 HX.out.2 HQ.out]; rfl, HB1.out⟩
      · obtain rfl : k = n := by omega
        go_wp2
        go_ret
        refine ⟨congrArg (fun b => Ending.returned (.bool b)) ?_, HR.out⟩
        symm
        exact sameL_all (by rw [HN.out.1, HN.out.2]) (fun j x y h1 h2 => HALL.out j x y (by rw [← HN.out.1]; exact (List.getElem?_eq_some_iff.1 h1).1) h1 h2)
  · have hne : ((n : Int) != (m : Int)) = true := by simp; omega
    have HM := hid hnm
    clear hnm
    go_enter Try.func40, Try.ntmps40
    go_wp2
    go_ret
    exact ⟨by rw [sameL_len (by rw [HN.out.1, HN.out.2]; exact HM.out)]; rfl, Below.refl _ _⟩
end Go.Proofs.Ytagjgknkkbkjgaa.V
