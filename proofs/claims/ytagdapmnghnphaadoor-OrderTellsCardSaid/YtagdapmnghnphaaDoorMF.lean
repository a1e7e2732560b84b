/-
  Comparing two operations: order.Compare, Before, Beside; the document's.
-/
import Derived.Test.YtagdapmnghnphaaDoorME
import Derived.Deep.Cut
import Derived.Deep.CutRange
import Derived.Deep.RegionWith
import Derived.StillTailTactics
import Derived.LoopTactic
import Derived.Lib.Walk
import Derived.Lib.SliceRun
namespace Go.Proofs.YtagdapmnghnphaaDoor.V
set_option linter.unusedVariables false
set_option linter.unusedSimpArgs false
set_option maxRecDepth 100000
open Go Go.RowKit Go.Maps Go.Sort Wire

theorem w64 {z : Int} (h : -9223372036854775808 ≤ z) (h' : z < 9223372036854775808) : wrap64 z = z := by
  unfold wrap64; omega
theorem next64 {n k : Nat} (h : k < n) (hm : n ≤ 9223372036854775807) : wrap64 ((k : Int) + 1) = ((k + 1 : Nat) : Int) := by rw [w64 (by omega) (by omega)]; omega
theorem meas {n k : Nat} (h : k < n) (hm : n ≤ 9223372036854775807) : n - (intOf (.int .i64 (wrap64 ((k : Int) + 1)))).toNat < n - (intOf (.int .i64 (k : Int))).toNat := by
  rw [next64 h hm]
  show n - ((k + 1 : Nat) : Int).toNat < n - (k : Int).toNat
  rw [Int.toNat_natCast, Int.toNat_natCast]; omega
theorem meas1 {n k : Nat} (h : k < n) : n - (intOf (.int .i64 ((k : Int) + 1))).toNat < n - (intOf (.int .i64 (k : Int))).toNat := by
  show n - ((k : Int) + 1).toNat < n - (k : Int).toNat
  omega
theorem gen_code {P : Program} {Q : Exit → Act → World → Prop} {c : Code} {a : Act} {w : World} (R : World → Prop) (hR : R w) (h : ∀ W, R W → c.wp P Q a W) : c.wp P Q a w := h w hR
theorem bin_eqlD (r n s m : Nat) (w : World) : (do eqGuard .eql 30 (Operand.tmp 0) (Operand.tmp 0) (.agg #[.int .u8 (r : Int), .int .u32 (n : Int)]) (.agg #[.int .u8 (s : Int), .int .u32 (m : Int)]); binOp .eql 30 (.agg #[.int .u8 (r : Int), .int .u32 (n : Int)]) (.agg #[.int .u8 (s : Int), .int .u32 (m : Int)]) : Sem Value).run Tryd.prog w = .ok (.bool (eqB (r, n) (s, m))) w := by
  rw [Sem.run_bind, show (eqGuard .eql 30 (Operand.tmp 0) (Operand.tmp 0) (.agg #[.int .u8 (r : Int), .int .u32 (n : Int)]) (.agg #[.int .u8 (s : Int), .int .u32 (m : Int)])).run Tryd.prog w = .ok () w from by go_simp]
  exact run_eql r n s m w
theorem bin_neqD (r n s m : Nat) (w : World) : (do eqGuard .neq 30 (Operand.tmp 0) (Operand.tmp 0) (.agg #[.int .u8 (r : Int), .int .u32 (n : Int)]) (.agg #[.int .u8 (s : Int), .int .u32 (m : Int)]); binOp .neq 30 (.agg #[.int .u8 (r : Int), .int .u32 (n : Int)]) (.agg #[.int .u8 (s : Int), .int .u32 (m : Int)]) : Sem Value).run Tryd.prog w = .ok (.bool (!eqB (r, n) (s, m))) w := by
  rw [Sem.run_bind, show (eqGuard .neq 30 (Operand.tmp 0) (Operand.tmp 0) (.agg #[.int .u8 (r : Int), .int .u32 (n : Int)]) (.agg #[.int .u8 (s : Int), .int .u32 (m : Int)])).run Tryd.prog w = .ok () w from by go_simp]
  exact run_neq r n s m w
theorem len_ops (t : Nat) (p : Option Addr) (n m : Nat) (w : World) : (Builtin.len_ #[22] t #[.slice p n m]).run Tryd.prog w = .ok (.int .i64 (n : Int)) w := by go_simp
def cmpN (x y : Nat) : Int := if x < y then -1 else if y < x then 1 else 0
def orI (x y : Int) : Int := if x ≠ 0 then x else y
def cmpD (a b : Dot) : Int := orI (cmpN a.1 b.1) (cmpN a.2 b.2)
theorem cmpM_or (x y : OC) : cmpM x y = orI (cmpN x.1.tm y.1.tm) (orI (cmpN x.1.r y.1.r) (cmpN x.1.n y.1.n)) := by
  unfold cmpM ltO orI cmpN
  by_cases h1 : x.1.tm < y.1.tm
  · simp [h1]
  · by_cases h2 : y.1.tm < x.1.tm
    · have : ¬ x.1.tm = y.1.tm := by omega
      have h3 : ¬ y.1.tm = x.1.tm := by omega
      simp [h1, h2, this]
    · have e : x.1.tm = y.1.tm := by omega
      by_cases h3 : x.1.r < y.1.r
      · simp [e, h3]
      · by_cases h4 : y.1.r < x.1.r
        · have : ¬ x.1.r = y.1.r := by omega
          simp [e, h3, h4, this]
        · have e2 : x.1.r = y.1.r := by omega
          simp [e, e2]
theorem compare_u8 (x y : Nat) (w : World) :
    Calls Tryd.prog 30 #[.int .u8 (x : Int), .int .u8 (y : Int)] w fun e w' => e = .returned (.int .i64 (cmpN x y)) ∧ w = w' := by
  by_cases h1 : x < y
  · go_enter Tryd.func30, Tryd.ntmps30
    go_wp2
    go_ret
    exact ⟨ret_int (by unfold cmpN; rw [if_pos h1]), rfl⟩
  · by_cases h2 : y < x
    · go_enter Tryd.func30, Tryd.ntmps30
      go_wp2
      go_ret
      exact ⟨ret_int (by unfold cmpN; rw [if_neg h1, if_pos h2]), rfl⟩
    · go_enter Tryd.func30, Tryd.ntmps30
      go_wp2
      go_ret
      exact ⟨ret_int (by unfold cmpN; rw [if_neg h1, if_neg h2]), rfl⟩
theorem compare_u32 (x y : Nat) (w : World) :
    Calls Tryd.prog 31 #[.int .u32 (x : Int), .int .u32 (y : Int)] w fun e w' => e = .returned (.int .i64 (cmpN x y)) ∧ w = w' := by
  by_cases h1 : x < y
  · go_enter Tryd.func31, Tryd.ntmps31
    go_wp2
    go_ret
    exact ⟨ret_int (by unfold cmpN; rw [if_pos h1]), rfl⟩
  · by_cases h2 : y < x
    · go_enter Tryd.func31, Tryd.ntmps31
      go_wp2
      go_ret
      exact ⟨ret_int (by unfold cmpN; rw [if_neg h1, if_pos h2]), rfl⟩
    · go_enter Tryd.func31, Tryd.ntmps31
      go_wp2
      go_ret
      exact ⟨ret_int (by unfold cmpN; rw [if_neg h1, if_neg h2]), rfl⟩
theorem compare_u64 (x y : Nat) (w : World) :
    Calls Tryd.prog 29 #[.int .u64 (x : Int), .int .u64 (y : Int)] w fun e w' => e = .returned (.int .i64 (cmpN x y)) ∧ w = w' := by
  by_cases h1 : x < y
  · go_enter Tryd.func29, Tryd.ntmps29
    go_wp2
    go_ret
    exact ⟨ret_int (by unfold cmpN; rw [if_pos h1]), rfl⟩
  · by_cases h2 : y < x
    · go_enter Tryd.func29, Tryd.ntmps29
      go_wp2
      go_ret
      exact ⟨ret_int (by unfold cmpN; rw [if_neg h1, if_pos h2]), rfl⟩
    · go_enter Tryd.func29, Tryd.ntmps29
      go_wp2
      go_ret
      exact ⟨ret_int (by unfold cmpN; rw [if_neg h1, if_neg h2]), rfl⟩

theorem cmp_Or3 (b : Nat) (x y z : Int) (w : World) (h0 : w.cell? ⟨b, 0, none⟩ = some (.int .i64 x)) (h1 : w.cell? ⟨b, 1, none⟩ = some (.int .i64 y)) (h2 : w.cell? ⟨b, 2, none⟩ = some (.int .i64 z)) :
    Calls Tryd.prog 28 #[.slice (some ⟨b, 0, none⟩) 3 3] w fun e w' => e = .returned (.int .i64 (orI x (orI y z))) ∧ w = w' := by
  unfold orI
  by_cases hx : x = 0
  · subst hx
    by_cases hy : y = 0
    · subst hy
      by_cases hz : z = 0
      · subst hz
        go_enter Tryd.func28, Tryd.ntmps28
        go_wp2
        refine wp_loop_rounds 4 ?_
        rw [rounds_succ]
        go_wp2
        rw [rounds_succ]
        go_wp2
        rw [rounds_succ]
        go_wp2
        rw [rounds_succ]
        go_wp2
        go_ret
        exact ⟨rfl, rfl⟩
      · have hz' : (z == 0) = false := by simpa using hz
        have hz2 : (z != 0) = true := by simpa using hz
        go_enter Tryd.func28, Tryd.ntmps28
        go_wp2
        refine wp_loop_rounds 4 ?_
        rw [rounds_succ]
        go_wp2
        rw [rounds_succ]
        go_wp2
        rw [rounds_succ]
        go_wp2
        go_ret
        exact ⟨rfl, rfl⟩
    · have hy' : (y == 0) = false := by simpa using hy
      have hy2 : (y != 0) = true := by simpa using hy
      go_enter Tryd.func28, Tryd.ntmps28
      go_wp2
      refine wp_loop_rounds 4 ?_
      rw [rounds_succ]
      go_wp2
      rw [rounds_succ]
      go_wp2
      go_ret
      exact ⟨by simp [hy], rfl⟩
  · have hx' : (x == 0) = false := by simpa using hx
    have hx2 : (x != 0) = true := by simpa using hx
    go_enter Tryd.func28, Tryd.ntmps28
    go_wp2
    refine wp_loop_rounds 4 ?_
    rw [rounds_succ]
    go_wp2
    go_ret
    exact ⟨by simp [hx], rfl⟩
theorem grow3 (w : World) (a b c : Obj) : ((w.alloc a).alloc b).drew.alloc c = grow (w.drewN 1) #[a, b, c] := by
  rw [alloc_eq_grow, alloc_eq_grow, alloc_eq_grow]
  show grow (grow (grow (w.drewN 1) _) _) _ = _
  rw [grow_grow, grow_grow]; rfl
theorem below_grow (w : World) (q : Nat) (os : Array Obj) : Below w.heap.size w (grow (w.drewN q) os) :=
  ⟨rfl, rfl, rfl, by rw [size_grow]; exact Nat.le_add_right _ _, fun k hk => by
    show (w.heap ++ os)[k]? = _
    rw [Array.getElem?_append_left hk]⟩

set_option maxHeartbeats 1000000 in
/-- order.Compare: what it makes, exactly. -/
theorem order_CompareG (x y : OC) (w : World) :
    Calls Tryd.prog 10 #[.agg (oc x.1), .agg (oc y.1)] w fun e w' => e = .returned (.int .i64 (cmpM x y)) ∧ ∃ q os, w' = grow (w.drewN q) os := by
  rw [cmpM_or]
  obtain ⟨r, hr⟩ : ∃ r, r = cmpN x.1.tm y.1.tm := ⟨_, rfl⟩
  obtain ⟨s, hs⟩ : ∃ s, s = cmpN x.1.r y.1.r := ⟨_, rfl⟩
  obtain ⟨t, ht⟩ : ∃ t, t = cmpN x.1.n y.1.n := ⟨_, rfl⟩
  have c1 := fun w' => compare_u64 x.1.tm y.1.tm w'
  have c2 := fun w' => compare_u8 x.1.r y.1.r w'
  have c3 := fun w' => compare_u32 x.1.n y.1.n w'
  rw [← hr, ← hs, ← ht]
  rw [← hr] at c1
  rw [← hs] at c2
  rw [← ht] at c3
  clear hr hs ht
  go_enter Tryd.func10, Tryd.ntmps10
  go_upto_region 1 with (fail)
  refine wp_region_still_tail_w 19 (by kernel_rfl) (by kernel_rfl) ?_
  intro wd hwd
  have h0 : OpAt wd w.heap.size x.1 := by rw [hwd]; exact ((opAt_new w x.1).al _).dr
  have h1 : OpAt wd (w.heap.size + 1) y.1 := by rw [hwd]; exact OpAt.dr (last2 w _ _)
  have e0 := h0.c10
  have e1 := h0.c0
  have e2 := h0.c1
  have e3 := h1.c10
  have e4 := h1.c0
  have e5 := h1.c1
  have hW : Hid (wd = ((w.alloc (.cells (oc x.1) 34)).alloc (.cells (oc y.1) 34)).drew) := hwd
  clear hwd h0 h1
  simp only [List.take_succ_cons, List.take_zero, List.drop_succ_cons, List.drop_zero]
  repeat still_step
  still_call ((c1 _).mono fun _ _ ⟨he, hw⟩ => ⟨he, hw.symm⟩)
  repeat still_step
  still_call ((c2 _).mono fun _ _ ⟨he, hw⟩ => ⟨he, hw.symm⟩)
  repeat still_step
  still_call ((c3 _).mono fun _ _ ⟨he, hw⟩ => ⟨he, hw.symm⟩)
  refine wpStill_nil ?_
  go_wp2_with (go_at_call 28; (with_reducible refine (cmp_Or3 _ r s t _ (by simp) (by simp) (by simp)).mono ?_); rintro e w' ⟨rfl, rfl⟩)
  go_ret
  exact ⟨rfl, 1, _, by rw [hW.out]; exact grow3 _ _ _ _⟩
theorem order_Compare (x y : OC) (w : World) :
    Calls Tryd.prog 10 #[.agg (oc x.1), .agg (oc y.1)] w fun e w' => e = .returned (.int .i64 (cmpM x y)) ∧ Below w.heap.size w w' :=
  (order_CompareG x y w).mono fun _ _ ⟨he, q, os, hw⟩ => ⟨he, hw ▸ below_grow w q os⟩
theorem refCompare (x y : Dot) (hx : x.ok) (hy : y.ok) (w : World) :
    Calls Tryd.prog 32 #[.agg #[.int .u8 (x.1 : Int), .int .u32 (x.2 : Int)], .agg #[.int .u8 (y.1 : Int), .int .u32 (y.2 : Int)]] w
      fun e w' => e = .returned (.int .i64 (cmpD x y)) ∧ Below w.heap.size w w' := by
  obtain ⟨r, n⟩ := x
  obtain ⟨s, m⟩ := y
  obtain ⟨hr, hn⟩ := hx
  obtain ⟨hs, hm⟩ := hy
  have hr' : r < 256 := hr
  have hn' : n < 4294967296 := hn
  have hs' : s < 256 := hs
  have hm' : m < 4294967296 := hm
  have hc : cmpD (r, n) (s, m) = if (r : Int) * 8589934592 + n < s * 8589934592 + m then -1 else if (r : Int) * 8589934592 + n > s * 8589934592 + m then 1 else 0 := by
    unfold cmpD orI cmpN
    dsimp only
    by_cases h1 : r < s
    · rw [if_pos h1, if_pos (by omega), if_pos (by omega)]
    · by_cases h2 : s < r
      · rw [if_neg h1, if_pos h2, if_pos (by omega), if_neg (by omega), if_pos (by omega)]
      · obtain rfl : r = s := by omega
        rw [if_neg h1, if_neg h1, if_neg (by simp)]
        by_cases h3 : n < m
        · rw [if_pos h3, if_pos (by omega)]
        · rw [if_neg h3, if_neg (show ¬ ((r : Int) * 8589934592 + n < r * 8589934592 + m) by omega)]
          by_cases h4 : m < n
          · rw [if_pos h4, if_pos (by omega)]
          · rw [if_neg h4, if_neg (by omega)]
  have HC : Hid (cmpD (r, n) (s, m) = if (r : Int) * 8589934592 + n < s * 8589934592 + m then -1 else if (r : Int) * 8589934592 + n > s * 8589934592 + m then 1 else 0) := hc
  clear hc hr hn hs hm
  by_cases h1 : (r : Int) * 8589934592 + n < s * 8589934592 + m
  · go_enter Tryd.func32, Tryd.ntmps32
    go_wp2
    go_quiet (fail)
    go_wp2
    go_ret
    exact ⟨ret_int (by rw [HC.out, if_pos h1]), (((Below.refl _ _).alloc (Nat.le_refl _) _).alloc (by simp) _).trans (below_drewN _ _ _)⟩
  · by_cases h2 : (s : Int) * 8589934592 + m < r * 8589934592 + n
    · go_enter Tryd.func32, Tryd.ntmps32
      go_wp2
      go_quiet (fail)
      go_wp2
      go_ret
      exact ⟨ret_int (by rw [HC.out, if_neg (by omega), if_pos h2]), (((Below.refl _ _).alloc (Nat.le_refl _) _).alloc (by simp) _).trans (below_drewN _ _ _)⟩
    · go_enter Tryd.func32, Tryd.ntmps32
      go_wp2
      go_quiet (fail)
      go_wp2
      go_ret
      exact ⟨ret_int (by rw [HC.out, if_neg (by omega), if_neg (by omega)]), (((Below.refl _ _).alloc (Nat.le_refl _) _).alloc (by simp) _).trans (below_drewN _ _ _)⟩


structure Two (w : World) (x y : OpM) (W : World) : Prop where
  a : OpIn W ⟨w.heap.size, 0, none⟩ x
  b : OpIn W ⟨w.heap.size + 1, 0, none⟩ y
  below : Below w.heap.size w W
theorem two_new (w : World) (x y : OpM) : Two w x y ((w.alloc (.cells (oc x) 34)).alloc (.cells (oc y) 34)) :=
  ⟨((opAt_new w x).al _).in, OpAt.in (last2 w _ _), below_al2 w _ _⟩
theorem Two.next {w : World} {x y : OpM} {W W' : World} (h : Two w x y W) (hB : Below W.heap.size W W') : Two w x y W' := ⟨h.a.keep hB, h.b.keep hB, below_next h.below hB⟩
set_option maxHeartbeats 400000 in
theorem order_Before (x y : OC) (W0 : World) :
    Calls Tryd.prog 12 #[.agg (oc x.1), .agg (oc y.1)] W0 fun e w' => e = .returned (.bool (befB x y)) ∧ Below W0.heap.size W0 w' := by
  have H0 := two_new W0 x.1 y.1
  go_enter Tryd.func12, Tryd.ntmps12
  go_upto_region 1 with (fail)
  refine gen_code _ H0 ?_
  clear H0
  intro W H1
  have HT := hid H1
  clear H1
  refine wp_text (fun _ => none) (Fa.eq (.pointer (some ((⟨W0.heap.size + 1, 0, none⟩ : Addr).add 2))) :: Fa.eq (.agg (vc y.1.dep)) :: Fa.eq (.pointer (some ⟨W0.heap.size, 0, none⟩)) :: Fa.eq (.agg (#[.int .u8 (x.1.r : Int), .int .u32 (x.1.n : Int)])) :: Fa.eq (.bool (covB y.1.dep (x.1.r, x.1.n))) :: Fa.eq (.bool (covB y.1.dep (x.1.r, x.1.n))) :: []) 10 rfl (by kernel_rfl) rfl (by kernel_rfl) ?_ ?_ ?_
  · exact fits_plain _ _ rfl
  · refine ⟨?_, ?_, ?_, ?_, ?_, ?_, trivial⟩
    · exact v_faddr (u := .pointer (some ⟨W0.heap.size + 1, 0, none⟩)) (c := .pointer (some ((⟨W0.heap.size + 1, 0, none⟩ : Addr).add 2))) rfl (fun w => (fld_op ⟨W0.heap.size + 1, 0, none⟩ w).2.1) rfl (by kernel_rfl) True.intro (Ev.out (by kernel_rfl) rfl)
    · exact v_load (u := .pointer (some ((⟨W0.heap.size + 1, 0, none⟩ : Addr).add 2))) (c := .agg (vc y.1.dep)) rfl (fun w hB => ldp_vec (OpIn.keep HT.out.b hB)) rfl (by kernel_rfl) True.intro (Ev.at (i := 0) (by kernel_rfl) (by kernel_rfl) rfl)
    · exact v_faddr (u := .pointer (some ⟨W0.heap.size, 0, none⟩)) (c := .pointer (some ⟨W0.heap.size, 0, none⟩)) rfl (fun w => (fld_op ⟨W0.heap.size, 0, none⟩ w).1) rfl (by kernel_rfl) True.intro (Ev.out (by kernel_rfl) rfl)
    · exact v_load (u := .pointer (some ⟨W0.heap.size, 0, none⟩)) (c := .agg (#[.int .u8 (x.1.r : Int), .int .u32 (x.1.n : Int)])) rfl (fun w hB => ldp_dot (OpIn.keep HT.out.a hB)) rfl (by kernel_rfl) True.intro (Ev.at (i := 2) (by kernel_rfl) (by kernel_rfl) rfl)
    · exact v_call (vs := #[.agg (vc y.1.dep), .agg (#[.int .u8 (x.1.r : Int), .int .u32 (x.1.n : Int)])]) (c := .bool (covB y.1.dep (x.1.r, x.1.n))) rfl (fun args w => rfl) (fun w hB => vec_Covers y.1.dep (x.1.r, x.1.n) w) rfl (by kernel_rfl) True.intro (ev2 (Ev.at (i := 1) (by kernel_rfl) (by kernel_rfl) rfl) (Ev.at (i := 3) (by kernel_rfl) (by kernel_rfl) rfl))
    · exact v_move (.inr rfl) rfl (by kernel_rfl) True.intro (Ev.at (i := 4) (by kernel_rfl) (by kernel_rfl) rfl)
  intro _ vs W2 hB2 hf
  have e0 : vs 0 = .pointer (some ((⟨W0.heap.size + 1, 0, none⟩ : Addr).add 2)) := hf 0 (by decide)
  have e1 : vs 1 = .agg (vc y.1.dep) := hf 1 (by decide)
  have e2 : vs 2 = .pointer (some ⟨W0.heap.size, 0, none⟩) := hf 2 (by decide)
  have e3 : vs 3 = .agg (#[.int .u8 (x.1.r : Int), .int .u32 (x.1.n : Int)]) := hf 3 (by decide)
  have e4 : vs 4 = .bool (covB y.1.dep (x.1.r, x.1.n)) := hf 4 (by decide)
  have e5 : vs 5 = .bool (covB y.1.dep (x.1.r, x.1.n)) := hf 5 (by decide)
  simp only [fill, List.setIfInBounds_toArray, List.set_cons_zero, List.set_cons_succ, e0, e1, e2, e3, e4, e5]
  have HB := hid (HT.out.next hB2)
  clear hB2 hf
  go_wp2
  go_ret
  exact ⟨rfl, HB.out.below⟩
set_option maxHeartbeats 400000 in
theorem ref_Before (x y : OC) (W0 : World) :
    Calls Tryd.prog 13 #[.agg (oc x.1), .agg (oc y.1)] W0 fun e w' => e = .returned (.bool (befB x y)) ∧ Below W0.heap.size W0 w' := by
  have H0 := two_new W0 x.1 y.1
  go_enter Tryd.func13, Tryd.ntmps13
  go_upto_region 1 with (fail)
  refine gen_code _ H0 ?_
  clear H0
  intro W H1
  have HT := hid H1
  clear H1
  refine wp_text (fun _ => none) (Fa.eq (.pointer (some ((⟨W0.heap.size + 1, 0, none⟩ : Addr).add 2))) :: Fa.eq (.agg (vc y.1.dep)) :: Fa.eq (.pointer (some ⟨W0.heap.size, 0, none⟩)) :: Fa.eq (.agg (#[.int .u8 (x.1.r : Int), .int .u32 (x.1.n : Int)])) :: Fa.eq (.bool (covB y.1.dep (x.1.r, x.1.n))) :: Fa.eq (.bool (covB y.1.dep (x.1.r, x.1.n))) :: []) 10 rfl (by kernel_rfl) rfl (by kernel_rfl) ?_ ?_ ?_
  · exact fits_plain _ _ rfl
  · refine ⟨?_, ?_, ?_, ?_, ?_, ?_, trivial⟩
    · exact v_faddr (u := .pointer (some ⟨W0.heap.size + 1, 0, none⟩)) (c := .pointer (some ((⟨W0.heap.size + 1, 0, none⟩ : Addr).add 2))) rfl (fun w => (fld_op ⟨W0.heap.size + 1, 0, none⟩ w).2.1) rfl (by kernel_rfl) True.intro (Ev.out (by kernel_rfl) rfl)
    · exact v_load (u := .pointer (some ((⟨W0.heap.size + 1, 0, none⟩ : Addr).add 2))) (c := .agg (vc y.1.dep)) rfl (fun w hB => ldp_vec (OpIn.keep HT.out.b hB)) rfl (by kernel_rfl) True.intro (Ev.at (i := 0) (by kernel_rfl) (by kernel_rfl) rfl)
    · exact v_faddr (u := .pointer (some ⟨W0.heap.size, 0, none⟩)) (c := .pointer (some ⟨W0.heap.size, 0, none⟩)) rfl (fun w => (fld_op ⟨W0.heap.size, 0, none⟩ w).1) rfl (by kernel_rfl) True.intro (Ev.out (by kernel_rfl) rfl)
    · exact v_load (u := .pointer (some ⟨W0.heap.size, 0, none⟩)) (c := .agg (#[.int .u8 (x.1.r : Int), .int .u32 (x.1.n : Int)])) rfl (fun w hB => ldp_dot (OpIn.keep HT.out.a hB)) rfl (by kernel_rfl) True.intro (Ev.at (i := 2) (by kernel_rfl) (by kernel_rfl) rfl)
    · exact v_call (vs := #[.agg (vc y.1.dep), .agg (#[.int .u8 (x.1.r : Int), .int .u32 (x.1.n : Int)])]) (c := .bool (covB y.1.dep (x.1.r, x.1.n))) rfl (fun args w => rfl) (fun w hB => ref04_Covers y.1.dep (x.1.r, x.1.n) w) rfl (by kernel_rfl) True.intro (ev2 (Ev.at (i := 1) (by kernel_rfl) (by kernel_rfl) rfl) (Ev.at (i := 3) (by kernel_rfl) (by kernel_rfl) rfl))
    · exact v_move (.inr rfl) rfl (by kernel_rfl) True.intro (Ev.at (i := 4) (by kernel_rfl) (by kernel_rfl) rfl)
  intro _ vs W2 hB2 hf
  have e0 : vs 0 = .pointer (some ((⟨W0.heap.size + 1, 0, none⟩ : Addr).add 2)) := hf 0 (by decide)
  have e1 : vs 1 = .agg (vc y.1.dep) := hf 1 (by decide)
  have e2 : vs 2 = .pointer (some ⟨W0.heap.size, 0, none⟩) := hf 2 (by decide)
  have e3 : vs 3 = .agg (#[.int .u8 (x.1.r : Int), .int .u32 (x.1.n : Int)]) := hf 3 (by decide)
  have e4 : vs 4 = .bool (covB y.1.dep (x.1.r, x.1.n)) := hf 4 (by decide)
  have e5 : vs 5 = .bool (covB y.1.dep (x.1.r, x.1.n)) := hf 5 (by decide)
  simp only [fill, List.setIfInBounds_toArray, List.set_cons_zero, List.set_cons_succ, e0, e1, e2, e3, e4, e5]
  have HB := hid (HT.out.next hB2)
  clear hB2 hf
  go_wp2
  go_ret
  exact ⟨rfl, HB.out.below⟩
/-- Are two operations beside each other? -/
def besO (x y : OC) : Bool := (!(eqB (x.1.r, x.1.n) (y.1.r, y.1.n)) && !befB x y) && !befB y x
set_option maxHeartbeats 400000 in
theorem order_Beside (x y : OC) (W0 : World) :
    Calls Tryd.prog 14 #[.agg (oc x.1), .agg (oc y.1)] W0 fun e w' => e = .returned (.bool (besO x y)) ∧ Below W0.heap.size W0 w' := by
  have H0 := two_new W0 x.1 y.1
  go_enter Tryd.func14, Tryd.ntmps14
  go_upto_region 1 with (fail)
  refine gen_code _ H0 ?_
  clear H0
  intro W H1
  have HT := hid H1
  clear H1
  refine wp_text (fun _ => none) (Fa.eq (.pointer (some ⟨W0.heap.size, 0, none⟩)) :: Fa.eq (.agg (#[.int .u8 (x.1.r : Int), .int .u32 (x.1.n : Int)])) :: Fa.eq (.pointer (some ⟨W0.heap.size + 1, 0, none⟩)) :: Fa.eq (.agg (#[.int .u8 (y.1.r : Int), .int .u32 (y.1.n : Int)])) :: Fa.eq (.bool (!(eqB (x.1.r, x.1.n) (y.1.r, y.1.n)))) :: Fa.eq (.bool (!(eqB (x.1.r, x.1.n) (y.1.r, y.1.n)))) :: Fa.eq (gd (!(eqB (x.1.r, x.1.n) (y.1.r, y.1.n))) (.agg (oc x.1))) :: Fa.eq (gd (!(eqB (x.1.r, x.1.n) (y.1.r, y.1.n))) (.agg (oc y.1))) :: Fa.eq (gd (!(eqB (x.1.r, x.1.n) (y.1.r, y.1.n))) (.bool (befB x y))) :: Fa.eq (gd (!(eqB (x.1.r, x.1.n) (y.1.r, y.1.n))) (.bool (!(befB x y)))) :: Fa.eq (.bool ((!(eqB (x.1.r, x.1.n) (y.1.r, y.1.n))) && (!(befB x y)))) :: Fa.eq (.bool ((!(eqB (x.1.r, x.1.n) (y.1.r, y.1.n))) && (!(befB x y)))) :: Fa.eq (gd ((!(eqB (x.1.r, x.1.n) (y.1.r, y.1.n))) && (!(befB x y))) (.agg (oc y.1))) :: Fa.eq (gd ((!(eqB (x.1.r, x.1.n) (y.1.r, y.1.n))) && (!(befB x y))) (.agg (oc x.1))) :: Fa.eq (gd ((!(eqB (x.1.r, x.1.n) (y.1.r, y.1.n))) && (!(befB x y))) (.bool (befB y x))) :: Fa.eq (gd ((!(eqB (x.1.r, x.1.n) (y.1.r, y.1.n))) && (!(befB x y))) (.bool (!(befB y x)))) :: Fa.eq (.bool (((!(eqB (x.1.r, x.1.n) (y.1.r, y.1.n))) && (!(befB x y))) && (!(befB y x)))) :: Fa.eq (.bool (((!(eqB (x.1.r, x.1.n) (y.1.r, y.1.n))) && (!(befB x y))) && (!(befB y x)))) :: []) 22 rfl (by kernel_rfl) rfl (by kernel_rfl) ?_ ?_ ?_
  · exact fits_plain _ _ rfl
  · refine ⟨?_, ?_, ?_, ?_, ?_, ?_, ?_, ?_, ?_, ?_, ?_, ?_, ?_, ?_, ?_, ?_, ?_, ?_, trivial⟩
    · exact v_faddr (u := .pointer (some ⟨W0.heap.size, 0, none⟩)) (c := .pointer (some ⟨W0.heap.size, 0, none⟩)) rfl (fun w => (fld_op ⟨W0.heap.size, 0, none⟩ w).1) rfl (by kernel_rfl) True.intro (Ev.out (by kernel_rfl) rfl)
    · exact v_load (u := .pointer (some ⟨W0.heap.size, 0, none⟩)) (c := .agg (#[.int .u8 (x.1.r : Int), .int .u32 (x.1.n : Int)])) rfl (fun w hB => ldp_dot (OpIn.keep HT.out.a hB)) rfl (by kernel_rfl) True.intro (Ev.at (i := 0) (by kernel_rfl) (by kernel_rfl) rfl)
    · exact v_faddr (u := .pointer (some ⟨W0.heap.size + 1, 0, none⟩)) (c := .pointer (some ⟨W0.heap.size + 1, 0, none⟩)) rfl (fun w => (fld_op ⟨W0.heap.size + 1, 0, none⟩ w).1) rfl (by kernel_rfl) True.intro (Ev.out (by kernel_rfl) rfl)
    · exact v_load (u := .pointer (some ⟨W0.heap.size + 1, 0, none⟩)) (c := .agg (#[.int .u8 (y.1.r : Int), .int .u32 (y.1.n : Int)])) rfl (fun w hB => ldp_dot (OpIn.keep HT.out.b hB)) rfl (by kernel_rfl) True.intro (Ev.at (i := 2) (by kernel_rfl) (by kernel_rfl) rfl)
    · exact v_bin (u := .agg (#[.int .u8 (x.1.r : Int), .int .u32 (x.1.n : Int)])) (v := .agg (#[.int .u8 (y.1.r : Int), .int .u32 (y.1.n : Int)])) (c := .bool (!(eqB (x.1.r, x.1.n) (y.1.r, y.1.n)))) rfl (fun w => bin_neqD _ _ _ _ w) rfl (by kernel_rfl) True.intro (Ev.at (i := 1) (by kernel_rfl) (by kernel_rfl) rfl) (Ev.at (i := 3) (by kernel_rfl) (by kernel_rfl) rfl)
    · exact v_move (.inl rfl) rfl (by kernel_rfl) True.intro (Ev.at (i := 4) (by kernel_rfl) (by kernel_rfl) rfl)
    · exact flow_gd (!(eqB (x.1.r, x.1.n) (y.1.r, y.1.n))) (.agg (oc x.1)) 5 true (.bool (!(eqB (x.1.r, x.1.n) (y.1.r, y.1.n)))) rfl (by kernel_rfl) rfl gu_t rfl (fun hg hF hj => v_load (u := .pointer (some ⟨W0.heap.size, 0, none⟩)) (c := .agg (oc x.1)) rfl (fun w hB => ldp_op (OpIn.keep HT.out.a hB)) hF (by kernel_rfl) (guard_of rfl (by kernel_rfl) (by kernel_rfl) hj) (Ev.out (by kernel_rfl) rfl))
    · exact flow_gd (!(eqB (x.1.r, x.1.n) (y.1.r, y.1.n))) (.agg (oc y.1)) 5 true (.bool (!(eqB (x.1.r, x.1.n) (y.1.r, y.1.n)))) rfl (by kernel_rfl) rfl gu_t rfl (fun hg hF hj => v_load (u := .pointer (some ⟨W0.heap.size + 1, 0, none⟩)) (c := .agg (oc y.1)) rfl (fun w hB => ldp_op (OpIn.keep HT.out.b hB)) hF (by kernel_rfl) (guard_of rfl (by kernel_rfl) (by kernel_rfl) hj) (Ev.out (by kernel_rfl) rfl))
    · exact flow_gd (!(eqB (x.1.r, x.1.n) (y.1.r, y.1.n))) (.bool (befB x y)) 5 true (.bool (!(eqB (x.1.r, x.1.n) (y.1.r, y.1.n)))) rfl (by kernel_rfl) rfl gu_t rfl (fun hg hF hj => v_call (vs := #[.agg (oc x.1), .agg (oc y.1)]) (c := .bool (befB x y)) rfl (fun args w => rfl) (fun w hB => order_Before x y w) hF (by kernel_rfl) (guard_of rfl (by kernel_rfl) (by kernel_rfl) hj) (ev2 (Ev.at (i := 6) (by kernel_rfl) (by kernel_rfl) (fe rfl (gd_t hg))) (Ev.at (i := 7) (by kernel_rfl) (by kernel_rfl) (fe rfl (gd_t hg)))))
    · exact flow_gd (!(eqB (x.1.r, x.1.n) (y.1.r, y.1.n))) (.bool (!(befB x y))) 5 true (.bool (!(eqB (x.1.r, x.1.n) (y.1.r, y.1.n)))) rfl (by kernel_rfl) rfl gu_t rfl (fun hg hF hj => v_not rfl hF (by kernel_rfl) (guard_of rfl (by kernel_rfl) (by kernel_rfl) hj) (Ev.at (i := 8) (by kernel_rfl) (by kernel_rfl) (fe rfl (gd_t hg))))
    · exact v_and (p := !(eqB (x.1.r, x.1.n) (y.1.r, y.1.n))) (q := !(befB x y)) rfl rfl (by kernel_rfl) True.intro (Ev.at (i := 5) (by kernel_rfl) (by kernel_rfl) rfl) (fun hp => (Ev.at (i := 9) (by kernel_rfl) (by kernel_rfl) (fe rfl (gd_t hp))))
    · exact v_move (.inl rfl) rfl (by kernel_rfl) True.intro (Ev.at (i := 10) (by kernel_rfl) (by kernel_rfl) rfl)
    · exact flow_gd ((!(eqB (x.1.r, x.1.n) (y.1.r, y.1.n))) && (!(befB x y))) (.agg (oc y.1)) 11 true (.bool ((!(eqB (x.1.r, x.1.n) (y.1.r, y.1.n))) && (!(befB x y)))) rfl (by kernel_rfl) rfl gu_t rfl (fun hg hF hj => v_load (u := .pointer (some ⟨W0.heap.size + 1, 0, none⟩)) (c := .agg (oc y.1)) rfl (fun w hB => ldp_op (OpIn.keep HT.out.b hB)) hF (by kernel_rfl) (guard_of rfl (by kernel_rfl) (by kernel_rfl) hj) (Ev.out (by kernel_rfl) rfl))
    · exact flow_gd ((!(eqB (x.1.r, x.1.n) (y.1.r, y.1.n))) && (!(befB x y))) (.agg (oc x.1)) 11 true (.bool ((!(eqB (x.1.r, x.1.n) (y.1.r, y.1.n))) && (!(befB x y)))) rfl (by kernel_rfl) rfl gu_t rfl (fun hg hF hj => v_load (u := .pointer (some ⟨W0.heap.size, 0, none⟩)) (c := .agg (oc x.1)) rfl (fun w hB => ldp_op (OpIn.keep HT.out.a hB)) hF (by kernel_rfl) (guard_of rfl (by kernel_rfl) (by kernel_rfl) hj) (Ev.out (by kernel_rfl) rfl))
    · exact flow_gd ((!(eqB (x.1.r, x.1.n) (y.1.r, y.1.n))) && (!(befB x y))) (.bool (befB y x)) 11 true (.bool ((!(eqB (x.1.r, x.1.n) (y.1.r, y.1.n))) && (!(befB x y)))) rfl (by kernel_rfl) rfl gu_t rfl (fun hg hF hj => v_call (vs := #[.agg (oc y.1), .agg (oc x.1)]) (c := .bool (befB y x)) rfl (fun args w => rfl) (fun w hB => order_Before y x w) hF (by kernel_rfl) (guard_of rfl (by kernel_rfl) (by kernel_rfl) hj) (ev2 (Ev.at (i := 12) (by kernel_rfl) (by kernel_rfl) (fe rfl (gd_t hg))) (Ev.at (i := 13) (by kernel_rfl) (by kernel_rfl) (fe rfl (gd_t hg)))))
    · exact flow_gd ((!(eqB (x.1.r, x.1.n) (y.1.r, y.1.n))) && (!(befB x y))) (.bool (!(befB y x))) 11 true (.bool ((!(eqB (x.1.r, x.1.n) (y.1.r, y.1.n))) && (!(befB x y)))) rfl (by kernel_rfl) rfl gu_t rfl (fun hg hF hj => v_not rfl hF (by kernel_rfl) (guard_of rfl (by kernel_rfl) (by kernel_rfl) hj) (Ev.at (i := 14) (by kernel_rfl) (by kernel_rfl) (fe rfl (gd_t hg))))
    · exact v_and (p := (!(eqB (x.1.r, x.1.n) (y.1.r, y.1.n))) && (!(befB x y))) (q := !(befB y x)) rfl rfl (by kernel_rfl) True.intro (Ev.at (i := 11) (by kernel_rfl) (by kernel_rfl) rfl) (fun hp => (Ev.at (i := 15) (by kernel_rfl) (by kernel_rfl) (fe rfl (gd_t hp))))
    · exact v_move (.inr rfl) rfl (by kernel_rfl) True.intro (Ev.at (i := 16) (by kernel_rfl) (by kernel_rfl) rfl)
  intro _ vs W2 hB2 hf
  have e0 : vs 0 = .pointer (some ⟨W0.heap.size, 0, none⟩) := hf 0 (by decide)
  have e1 : vs 1 = .agg (#[.int .u8 (x.1.r : Int), .int .u32 (x.1.n : Int)]) := hf 1 (by decide)
  have e2 : vs 2 = .pointer (some ⟨W0.heap.size + 1, 0, none⟩) := hf 2 (by decide)
  have e3 : vs 3 = .agg (#[.int .u8 (y.1.r : Int), .int .u32 (y.1.n : Int)]) := hf 3 (by decide)
  have e4 : vs 4 = .bool (!(eqB (x.1.r, x.1.n) (y.1.r, y.1.n))) := hf 4 (by decide)
  have e5 : vs 5 = .bool (!(eqB (x.1.r, x.1.n) (y.1.r, y.1.n))) := hf 5 (by decide)
  have e6 : vs 6 = gd (!(eqB (x.1.r, x.1.n) (y.1.r, y.1.n))) (.agg (oc x.1)) := hf 6 (by decide)
  have e7 : vs 7 = gd (!(eqB (x.1.r, x.1.n) (y.1.r, y.1.n))) (.agg (oc y.1)) := hf 7 (by decide)
  have e8 : vs 8 = gd (!(eqB (x.1.r, x.1.n) (y.1.r, y.1.n))) (.bool (befB x y)) := hf 8 (by decide)
  have e9 : vs 9 = gd (!(eqB (x.1.r, x.1.n) (y.1.r, y.1.n))) (.bool (!(befB x y))) := hf 9 (by decide)
  have e10 : vs 10 = .bool ((!(eqB (x.1.r, x.1.n) (y.1.r, y.1.n))) && (!(befB x y))) := hf 10 (by decide)
  have e11 : vs 11 = .bool ((!(eqB (x.1.r, x.1.n) (y.1.r, y.1.n))) && (!(befB x y))) := hf 11 (by decide)
  have e12 : vs 12 = gd ((!(eqB (x.1.r, x.1.n) (y.1.r, y.1.n))) && (!(befB x y))) (.agg (oc y.1)) := hf 12 (by decide)
  have e13 : vs 13 = gd ((!(eqB (x.1.r, x.1.n) (y.1.r, y.1.n))) && (!(befB x y))) (.agg (oc x.1)) := hf 13 (by decide)
  have e14 : vs 14 = gd ((!(eqB (x.1.r, x.1.n) (y.1.r, y.1.n))) && (!(befB x y))) (.bool (befB y x)) := hf 14 (by decide)
  have e15 : vs 15 = gd ((!(eqB (x.1.r, x.1.n) (y.1.r, y.1.n))) && (!(befB x y))) (.bool (!(befB y x))) := hf 15 (by decide)
  have e16 : vs 16 = .bool (((!(eqB (x.1.r, x.1.n) (y.1.r, y.1.n))) && (!(befB x y))) && (!(befB y x))) := hf 16 (by decide)
  have e17 : vs 17 = .bool (((!(eqB (x.1.r, x.1.n) (y.1.r, y.1.n))) && (!(befB x y))) && (!(befB y x))) := hf 17 (by decide)
  simp only [fill, List.setIfInBounds_toArray, List.set_cons_zero, List.set_cons_succ, e0, e1, e2, e3, e4, e5, e6, e7, e8, e9, e10, e11, e12, e13, e14, e15, e16, e17]
  have HB := hid (HT.out.next hB2)
  clear hB2 hf
  go_wp2
  go_ret
  exact ⟨rfl, HB.out.below⟩

set_option maxHeartbeats 400000 in
theorem ref_Compare (x y : OC) (hx : okO x.1) (hy : okO y.1) (W0 : World) :
    Calls Tryd.prog 11 #[.agg (oc x.1), .agg (oc y.1)] W0 fun e w' => e = .returned (.int .i64 (cmpM x y)) ∧ Below W0.heap.size W0 w' := by
  rw [cmpM_or]
  have H0 := two_new W0 x.1 y.1
  have hd := fun W => refCompare (x.1.r, x.1.n) (y.1.r, y.1.n) ⟨hx.r, hx.n⟩ ⟨hy.r, hy.n⟩ W
  clear hx hy
  go_enter Tryd.func11, Tryd.ntmps11
  go_upto_region 1 with (fail)
  refine gen_code _ H0 ?_
  clear H0
  intro W H1
  have a0 := H1.a.r
  have a1 := H1.a.n
  have a2 := H1.a.tm
  have b0 := H1.b.r
  have b1 := H1.b.n
  have b2 := H1.b.tm
  rw [add8] at a1 a2 b1 b2
  have HT := hid H1
  clear H1
  by_cases h1 : x.1.tm < y.1.tm
  · go_wp2
    go_ret
    exact ⟨by unfold orI cmpN; simp [h1], HT.out.below⟩
  · by_cases h2 : y.1.tm < x.1.tm
    · go_wp2
      go_ret
      exact ⟨by unfold orI cmpN; simp [h1, h2], HT.out.below⟩
    · go_wp2_with (go_at_call 32; (with_reducible refine (hd _).mono ?_); rintro e w1 ⟨rfl, hB⟩)
      go_ret
      exact ⟨by unfold orI cmpN cmpD; simp [h1, h2, orI, cmpN], below_next HT.out.below hB⟩
end Go.Proofs.YtagdapmnghnphaaDoor.V

namespace Go.Proofs.YtagdapmnghnphaaDoor.V
set_option linter.unusedVariables false
set_option linter.unusedSimpArgs false
set_option maxRecDepth 100000
open Go Go.RowKit Go.Maps Wire

theorem flatC_one_cell (l : List Claim) : ∀ u ∈ flatC l, u.oneCell' = true := by
  intro u hu
  obtain ⟨x, _, hx⟩ := List.mem_flatMap.1 hu
  exact one_claim x u hx
theorem IsClaims.flat {w : World} {ad : Addr} {len cap : Nat} {l : List Claim} (h : IsClaims w (some ad) len cap l) : ∀ j u, (flatC l)[j]? = some u → w.cell? (ad.add j) = some u := by
  obtain ⟨h1, h2, h3, h4, h5⟩ := h
  intro j u hj
  have hlt : j < (flatC l).length := (List.getElem?_eq_some_iff.1 hj).1
  rw [flatC_length] at hlt
  have hi : j / 4 < l.length := by omega
  have hx : l[j / 4]? = some (l[j / 4]'hi) := List.getElem?_eq_getElem hi
  have hk : j % 4 < 4 := Nat.mod_lt _ (by omega)
  have h := h5 _ _ hx (j % 4) hk
  rw [add_add2, show j / 4 * 4 + j % 4 = j by omega] at h
  rw [h, ← flatC_get l _ _ hx _ hk, show j / 4 * 4 + j % 4 = j by omega, hj]

set_option maxHeartbeats 1000000 in
theorem lines_Clone (v : Value) (l : List Claim) (w : World) (h : ClaimsV w v l) (hl : l.length ≤ 1000) :
    Calls Tryd.prog 51 #[v] w fun e w' => ∃ u, e = .returned u ∧ ClaimsV w' u l ∧ (∀ B, ClaimsB B w' u l) ∧ Below w.heap.size w w' := by
  obtain ⟨a, n, c, rfl, hI⟩ := h
  cases a with
  | none =>
    have hn : n = 0 := hI.none_len
    have e0 : l = [] := List.length_eq_zero_iff.1 (hI.1.trans hn)
    subst e0 hn
    clear hI
    have q : ∀ (w : World), (binOp .eql 32 (.slice none 0 c) (.slice none 0 0)).run Tryd.prog w = .ok (.bool true) w := fun w => Lib.run_eql_slice_nil w _ _ none 0 c 0 0 Tryd.underlying32
    go_enter Tryd.func51, Tryd.ntmps51
    go_wp2
    go_ret
    exact ⟨_, rfl, ClaimsV.nil _, fun B => ⟨ClaimsV.nil _, fun a n c e => by cases e⟩, Below.refl _ _⟩
  | some ad =>
    have q : ∀ (w : World), (binOp .eql 32 (.slice (some ad) n c) (.slice none 0 0)).run Tryd.prog w = .ok (.bool false) w := fun w => Lib.run_eql_slice_nil w _ _ (some ad) n c 0 0 Tryd.underlying32
    obtain ⟨i0, hi, hz0, hz1, hz2⟩ := info_parts infoClaim
    have hfl := hI.flat
    have hlen : n = l.length := hI.1.symm
    have hok := hI.2.2.2.1
    have H := hid (And.intro hfl (And.intro hlen hok))
    clear hI hfl hok
    subst hlen
    go_enter Tryd.func51, Tryd.ntmps51
    go_wp2_with (at_builtin; refine wpList_append_own _ rfl _ _ 32 rfl w.heap.size 62 i0 _ 4 16 Tryd.underlying32 hi hz0 hz1 hz2 rfl (by decide) _ _ _ rfl (World.ownsRow_made w #[] 0 (Nat.le_refl _) (Nat.zero_le _) rfl) ad l.length c (flatC l) rfl ?q1 ?q2 ?q3 ?q4 ?q5 ?q6 ?_)
    case q1 => rw [flatC_length]
    case q2 =>
      intro j u hj
      have h := H.out.1 j u hj
      exact cell_keep (below_al _ _) h
    case q3 => exact flatC_one_cell l
    case q4 => unfold maxLen; omega
    case q5 => omega
    intro v' w1 hown hgrow hnil
    go_wp2
    go_ret
    have hown' : w1.ownsRow w.heap.size 62 4 v' l.length (flatC l) := by simpa using hown
    have hb : Below w.heap.size w w1 := ((Below.refl _ w).alloc (Nat.le_refl _) _).grown hgrow (by simp) (by intro k hk; simp [Value.ownBlock] at hk; omega)
    exact ⟨v', rfl, (owns_claimsB (B := 0) hown' H.out.2.2).1, fun B => owns_claimsB hown' H.out.2.2, hb⟩

theorem setL_cells (o : OpM) (u : Value) : (oc o).setIfInBounds 28 u = oc (setL o u) := rfl
theorem ok_setL {o : OpM} (h : okO o) (u : Value) : okO (setL o u) := { h with }
theorem ClaimsV.oneCell {w : World} {v : Value} {l : List Claim} (h : ClaimsV w v l) : v.oneCell' = true := by obtain ⟨a, n, c, rfl, _⟩ := h; rfl

set_option maxHeartbeats 400000 in
theorem order_copyOf (x : OC) (W0 : World) (h : ClaimsV W0 x.1.lv x.2) (hl : x.2.length ≤ 1000) :
    Calls Tryd.prog 37 #[.agg (oc x.1)] W0 fun e w' => ∃ u, e = .returned (.agg (oc (setL x.1 u))) ∧ ClaimsV w' u x.2 ∧ (∀ B, ClaimsB B w' u x.2) ∧ Below W0.heap.size W0 w' := by
  have H0 := two_new W0 x.1 zeroO
  have HV := hid h
  go_enter Tryd.func37, Tryd.ntmps37
  go_upto_region 1 with (fail)
  refine gen_code (fun W => OpAt W W0.heap.size x.1 ∧ OpAt W (W0.heap.size + 1) zeroO ∧ Below W0.heap.size W0 W) ⟨(opAt_new W0 x.1).al _, last2 W0 _ _, below_al2 W0 _ _⟩ ?_
  rintro W ⟨h1, h2, hB⟩
  have c28 := h1.c28
  have hcl := fun W' (hb : Below W0.heap.size W0 W') => lines_Clone x.1.lv x.2 W' (HV.out.keep hb) hl
  have HW := hid (And.intro h1 (And.intro h2 hB))
  have hcall := hcl W hB
  clear H0 h h1 h2 hB hcl
  go_upto_region 2 with (first
    | (go_at_call 51; refine hcall.mono ?_; rintro e w1 ⟨u, rfl, hu, huB, hB1⟩; obtain ⟨ua, un, uc, rfl, hus⟩ := id hu; clear hus; have k28 := OpAt.c28 (HW.out.1.keep hB1); have f28 := freeV (HW.out.1.keep hB1) 28; have HU := hid (And.intro hu (And.intro huB hB1)); have hone := hu.oneCell; clear hu huB hB1 c28))
  refine gen_code (fun W2 => OpAt W2 W0.heap.size (setL x.1 (Value.slice ua un uc)) ∧ OpAt W2 (W0.heap.size + 1) zeroO ∧ ClaimsV W2 (Value.slice ua un uc) x.2 ∧ (∀ B, ClaimsB B W2 (Value.slice ua un uc) x.2) ∧ Below W0.heap.size W0 W2) ?_ ?_
  · have hb := below_next HW.out.2.2 HU.out.2.2
    have hne : ∀ (b : Nat) (cs : Array Value), w1.heap[b]? = some (.cells cs 62 (0, 0)) → (w1.setCell ⟨W0.heap.size, 28, none⟩ (Value.slice ua un uc)).heap[b]? = some (.cells cs 62 (0, 0)) := fun b cs hc => heap_n hc (fun e => by
      have := HW.out.1.keep HU.out.2.2
      unfold OpAt at this
      rw [e, hc] at this
      cases this)
    have hz := HU.out.2.1 0
    have hz2 := hz.typ (w' := w1.setCell ⟨W0.heap.size, 28, none⟩ (Value.slice ua un uc)) (fun b hb => absurd hb (by omega)) hne
    refine ⟨?_, heap_n (HW.out.2.1.keep HU.out.2.2) (by omega), hz2.1, fun B => ?_, hb.setCell (by exact Nat.le_refl _) _⟩
    · show (w1.setCell ⟨W0.heap.size, 28, none⟩ (Value.slice ua un uc)).heap[W0.heap.size]? = _
      rw [← setL_cells]
      exact heap_s (HW.out.1.keep HU.out.2.2)
    · exact hz2.any B
  rintro W2 ⟨h1, h2, hu, huB, hB⟩
  have hone2 := hone
  have HX := hid (And.intro h1 (And.intro h2 (And.intro hu (And.intro huB hB))))
  clear h1 h2 hu huB hB HW HU
  go_wp2_with (first
    | (refine load_op rfl _ rfl W0.heap.size rfl _ HX.out.1 ?_)
    | (refine wpList_store_row rfl _ _ _ rfl (W0.heap.size + 1) (oc (setL x.1 (Value.slice ua un uc))) rfl rfl 34 (oc zeroO) HX.out.2.1 (opSize _) rfl (oneO _ hone2) ?_))
  have hR : (W2.setRow (W0.heap.size + 1) (oc (setL x.1 (Value.slice ua un uc)))).heap[W0.heap.size + 1]? = some (.cells (oc (setL x.1 (Value.slice ua un uc))) 34 (0, 0)) := setRow_heap _ _ _ _ _ _ HX.out.2.1
  refine bodyPost_ret (results_cell_row rfl _ _ _ _ _ _ _ rfl hR Tryd.underlying34 rfl (opSize _)) rfl ?_
  have hne : ∀ (b : Nat) (cs : Array Value), W2.heap[b]? = some (.cells cs 62 (0, 0)) → (W2.setRow (W0.heap.size + 1) (oc (setL x.1 (Value.slice ua un uc)))).heap[b]? = some (.cells cs 62 (0, 0)) := fun b cs hc => row_ne hc (fun e => by
    have := HX.out.2.1
    unfold OpAt at this
    rw [e, hc] at this
    cases this)
  have hz := (HX.out.2.2.2.1 0).typ (w' := W2.setRow (W0.heap.size + 1) (oc (setL x.1 (Value.slice ua un uc)))) (fun b hb => absurd hb (by omega)) hne
  exact ⟨_, rfl, hz.1, fun B => hz.any B, Below.setRow HX.out.2.2.2.2 (by omega) _⟩
end Go.Proofs.YtagdapmnghnphaaDoor.V

namespace Go.Proofs.YtagdapmnghnphaaDoor.V
set_option linter.unusedVariables false
set_option linter.unusedSimpArgs false
set_option maxRecDepth 100000
open Go Go.RowKit Go.Maps Wire

/-- Where a dot stands first. -/
def idxD (l : List OC) (d : Dot) : Int := match l.findIdx? (fun x => dt x == d) with | some i => (i : Int) | none => -1
def dbox (d : Dot) : Array Value := #[.int .u8 (d.1 : Int), .int .u32 (d.2 : Int)]

set_option maxHeartbeats 400000 in
theorem find_1 (x : OC) (d : Dot) (gb : Nat) (w : World) (hb : w.heap[gb]? = some (.cells (dbox d) 30 (0, 0))) :
    Calls Tryd.prog 36 #[.agg (oc x.1), .pointer (some ⟨gb, 0, none⟩)] w fun e w' => e = .returned (.bool (dt x == d)) ∧ Below w.heap.size w w' := by
  have hx := opAt_new w x.1
  have hd := heap_keep hb (below_al w (.cells (oc x.1) 34))
  have a0 := hx.c0
  have a1 := hx.c1
  have b0 : (w.alloc (.cells (oc x.1) 34)).cell? ⟨gb, 0, none⟩ = some (.int .u8 (d.1 : Int)) := (cell_of_heap hd).trans rfl
  have b1 : (w.alloc (.cells (oc x.1) 34)).cell? ⟨gb, 1, none⟩ = some (.int .u32 (d.2 : Int)) := (cell_of_heap hd).trans rfl
  have HB := hid (below_al w (.cells (oc x.1) 34))
  have q := fun W => run_eql x.1.r x.1.n d.1 d.2 W
  have e : (dt x == d) = eqB (x.1.r, x.1.n) (d.1, d.2) := by unfold eqB dt; rw [Bool.eq_iff_iff]; cases d; simp
  rw [e]
  clear hx hd hb e
  go_enter Tryd.func36, Tryd.ntmps36
  go_wp2
  go_ret
  exact ⟨rfl, HB.out⟩

set_option maxHeartbeats 400000 in
theorem index_Dot (v : Value) (l : List OC) (d : Dot) (gb : Nat) (w : World) (hv : OpsV w v l) (hb : w.heap[gb]? = some (.cells (dbox d) 30 (0, 0))) :
    Calls Tryd.prog 35 #[v, .func (.func 36) #[] #[.pointer (some ⟨gb, 0, none⟩)]] w fun e w' => e = .returned (.int .i64 (idxD l d)) ∧ Below w.heap.size w w' := by
  obtain ⟨a, n, c, rfl, hI⟩ := hv
  have H := hid (And.intro hI hb)
  have HN := hid (show n = l.length from hI.1.symm)
  have hm : n ≤ 9223372036854775807 := Nat.le_trans hI.2.1 hI.2.2.1
  clear hI hb
  go_enter Tryd.func35, Tryd.ntmps35
  go_wp2
  go_loopw [8] (fun i wr => ∃ k : Nat, k ≤ n ∧ i = .int .i64 k ∧ Below w.heap.size w wr ∧ Hid (∀ j x, j < k → l[j]? = some x → (dt x == d) = false)) (fun i _ => n - (intOf i).toNat)
  case atStart => exact ⟨0, by omega, rfl, Below.refl _ _, fun j x hj => absurd hj (by omega)⟩
  case round =>
    obtain ⟨k, hk, rfl, hB, hall⟩ := hrel
    by_cases hlt : k < n
    · cases a with
      | none => have := H.out.1.none_len; omega
      | some ad =>
        obtain ⟨o, cl', hx, hok, hcl, hin⟩ := (H.out.1.keep hB).at k hlt
        have hcall := find_1 (o, cl') d gb wr (heap_keep H.out.2 hB)
        have HX := hid hx
        have HB := hid hB
        have HA := hid hin
        clear hx hcl hin hB hok
        have h1 : (k : Int) < (n : Int) := by omega
        cases hq : (dt (o, cl') == d)
        · rw [hq] at hcall
          go_wp2_with (first
            | (refine load_opIn _ rfl rfl (ad.add (k * 29)) rfl o HA.out ?_)
            | (go_at_call 36; refine hcall.mono ?_; rintro e w1 ⟨rfl, hB1⟩))
          go_roundw
          case rel =>
            refine ⟨k + 1, by omega, by go_num, below_next HB.out hB1, fun j x hj hjx => ?_⟩
            by_cases he : j = k
            · subst he
              rw [HX.out] at hjx
              obtain rfl := Option.some.inj hjx
              exact hq
            · exact hall.out j x (by omega) hjx
          case measure => exact meas1 hlt
        · rw [hq] at hcall
          go_wp2_with (first
            | (refine load_opIn _ rfl rfl (ad.add (k * 29)) rfl o HA.out ?_)
            | (go_at_call 36; refine hcall.mono ?_; rintro e w1 ⟨rfl, hB1⟩))
          go_ret
          refine ⟨?_, below_next HB.out hB1⟩
          have hf : l.findIdx? (fun x => dt x == d) = some k := by
            rw [List.findIdx?_eq_some_iff_getElem]
            have hkl : k < l.length := by have := HN.out; omega
            have hget : l[k] = (o, cl') := by have := HX.out; rw [List.getElem?_eq_getElem hkl] at this; exact Option.some.inj this
            refine ⟨hkl, by rw [hget]; exact hq, fun j hj => ?_⟩
            have := hall.out j l[j] hj (List.getElem?_eq_getElem (by omega))
            simp [this]
          unfold idxD
          rw [hf]
          rfl
    · obtain rfl : k = n := by omega
      go_wp2
      go_ret
      refine ⟨?_, hB⟩
      have hf : l.findIdx? (fun x => dt x == d) = none := by
        rw [List.findIdx?_eq_none_iff]
        intro x hx
        obtain ⟨j, hj, rfl⟩ := List.mem_iff_getElem.1 hx
        exact hall.out j _ (by have := HN.out; omega) (List.getElem?_eq_getElem hj)
      unfold idxD
      rw [hf]
      rfl

/-! ### order.Find -/
def findM (l : List OC) (d : Dot) : Option OC := l.find? fun x => dt x == d
def zeroC : OC := (zeroO, [])
theorem idx_find (l : List OC) (d : Dot) : (idxD l d = -1 ∧ findM l d = none) ∨ ∃ k : Nat, idxD l d = k ∧ k < l.length ∧ l[k]? = findM l d ∧ (findM l d).isSome = true := by
  unfold idxD findM
  cases h : l.findIdx? (fun x => dt x == d) with
  | none =>
    left
    refine ⟨rfl, ?_⟩
    rw [List.findIdx?_eq_none_iff] at h
    rw [List.find?_eq_none]
    intro x hx
    have := h x hx
    simp at this
    simpa using this
  | some k =>
    right
    obtain ⟨hk, h1, h2⟩ := List.findIdx?_eq_some_iff_getElem.1 h
    have hf : l.find? (fun x => dt x == d) = some l[k] := by
      rw [List.find?_eq_some_iff_getElem]
      exact ⟨h1, k, hk, rfl, fun j hj => by have := h2 j hj; simpa using this⟩
    exact ⟨k, rfl, hk, by rw [hf, List.getElem?_eq_getElem hk], by rw [hf]; rfl⟩
theorem ok_zeroO : okO zeroO := by refine ⟨⟨?_, ?_⟩, ?_, ?_, ?_, ?_, ?_, ?_, ?_, ?_, ?_, ?_, ?_, ?_, ?_, ?_, ?_, ?_, ?_, ?_, ?_, ?_⟩ <;> first | decide | (intro i; show (0 : Nat) < _; decide) | (intro i _; rfl)
/-- What Find returns: an operation that reads as the first one with the dot, or as the zero one. -/
structure Found (w : World) (f : Option OC) (o : OpM) (c : List Claim) : Prop where
  ok : okO o
  cl : ClaimsV w o.lv c
  clB : ∀ B, ClaimsB B w o.lv c
  is : core (o, c) = match f with | some x => core x | none => zeroC

theorem buildOp0 (w : World) : (Instr.build 34 #[]).run Tryd.prog w = .ok (.agg (oc zeroO)) w := by
  go_simp
  rfl

set_option maxHeartbeats 400000 in
theorem order_Find (v : Value) (l : List OC) (d : Dot) (W0 : World) (hv : OpsV W0 v l) (hs : ∀ x ∈ l, x.2.length ≤ 1000) :
    Calls Tryd.prog 15 #[v, .agg #[.int .u8 (d.1 : Int), .int .u32 (d.2 : Int)]] W0 fun e w' => ∃ o c, e = .returned (.tuple #[.agg (oc o), .bool (findM l d).isSome]) ∧ Found w' (findM l d) o c ∧ Below W0.heap.size W0 w' := by
  obtain ⟨a, n, cp, rfl, hI⟩ := hv
  have HI := hid hI
  have hcall := fun W (hb : Below W0.heap.size W0 W) (hg : W.heap[W0.heap.size]? = some (.cells (dbox d) 30 (0, 0))) => index_Dot _ l d W0.heap.size W ⟨a, n, cp, rfl, hI.keep hb⟩ hg
  clear hI
  rcases idx_find l d with ⟨h1, h2⟩ | ⟨k, h1, h2, h3, h4⟩
  · rw [h1] at hcall
    rw [h2]
    clear h1 h2
    go_enter Tryd.func15, Tryd.ntmps15
    go_upto_region 1 with (fail)
    refine gen_code (fun W => W.heap[W0.heap.size]? = some (.cells (dbox d) 30 (0, 0)) ∧ OpAt W (W0.heap.size + 1) zeroO ∧ Below W0.heap.size W0 W) ⟨heap_al (heap_alloc_last' _ _) _, last2 W0 _ _, below_al2 W0 _ _⟩ ?_
    rintro W ⟨h1, h2, hB⟩
    have hc := hcall W hB h1
    have HW := hid (And.intro h1 (And.intro h2 hB))
    clear hcall h1 h2 hB
    go_wp2_with (first
      | (go_at_call 35; refine hc.mono ?_; rintro e w1 ⟨rfl, hB1⟩; have H1 := hid (And.intro (HW.out.2.1.keep hB1) (below_next HW.out.2.2 hB1)); clear hB1)
      | (refine wpList_store_row rfl _ _ _ rfl (W0.heap.size + 1) (oc zeroO) rfl rfl 34 (oc zeroO) H1.out.1 (opSize _) rfl (oneO _ rfl) ?_))
    refine bodyPost_ret (results_row_tmp rfl _ _ _ _ _ _ _ _ rfl rfl (setRow_heap _ _ _ _ _ _ H1.out.1) Tryd.underlying34 rfl (opSize _)) rfl ?_
    exact ⟨zeroO, [], rfl, ⟨ok_zeroO, ClaimsV.nil _, fun B => ⟨ClaimsV.nil _, fun a n c e => by cases e⟩, rfl⟩, Below.setRow H1.out.2 (by omega) _⟩
  · rw [h1] at hcall
    cases a with
    | none => have := HI.out.none_len; have := HI.out.1; omega
    | some ad =>
      have hlen := HI.out.1
      obtain ⟨o, cl', hx, hok, hcl, hin⟩ := HI.out.at k (by omega)
      rw [hx] at h3
      rw [← h3]
      have hsm := hs _ (List.mem_of_getElem? hx)
      have HX := hid (And.intro hin (And.intro hcl (And.intro hok hsm)))
      have hkn : (k : Int) < (n : Int) := by omega
      clear h1 h2 h3 h4 hx hcl hin hok hsm hlen hs
      have hcp := fun W (hb : Below W0.heap.size W0 W) => order_copyOf (o, cl') W (HX.out.2.1.keep hb) HX.out.2.2.2
      go_enter Tryd.func15, Tryd.ntmps15
      go_upto_region 1 with (fail)
      refine gen_code (fun W => W.heap[W0.heap.size]? = some (.cells (dbox d) 30 (0, 0)) ∧ OpAt W (W0.heap.size + 1) zeroO ∧ Below W0.heap.size W0 W) ⟨heap_al (heap_alloc_last' _ _) _, last2 W0 _ _, below_al2 W0 _ _⟩ ?_
      rintro W ⟨h1, h2, hB⟩
      have hc := hcall W hB h1
      have HW := hid (And.intro h1 (And.intro h2 hB))
      clear hcall h1 h2 hB
      go_wp2_with (first
        | (go_at_call 35; refine hc.mono ?_; rintro e w1 ⟨rfl, hB1⟩; have H1 := hid (And.intro (HW.out.2.1.keep hB1) (below_next HW.out.2.2 hB1)); clear hB1; have hin1 := HX.out.1.keep H1.out.2; have hcp1 := hcp _ H1.out.2; clear hcp)
        | (refine load_opIn _ rfl rfl (ad.add (k * 29)) rfl o hin1 ?_)
        | (go_at_call 37; refine hcp1.mono ?_; rintro e w2 ⟨u, rfl, hu, huB, hB2⟩; have H2 := hid (And.intro (H1.out.1.keep hB2) (And.intro (below_next H1.out.2 hB2) (And.intro hu huB))); have hone := hu.oneCell; clear hu huB hB2)
        | (refine wpList_store_row rfl _ _ _ rfl (W0.heap.size + 1) (oc (setL o u)) rfl rfl 34 (oc zeroO) H2.out.1 (opSize _) rfl (oneO _ hone) ?_))
      refine bodyPost_ret (results_row_tmp rfl _ _ _ _ _ _ _ _ rfl rfl (setRow_heap _ _ _ _ _ _ H2.out.1) Tryd.underlying34 rfl (opSize _)) rfl ?_
      have hne : ∀ (b : Nat) (cs : Array Value), w2.heap[b]? = some (.cells cs 62 (0, 0)) → (w2.setRow (W0.heap.size + 1) (oc (setL o u))).heap[b]? = some (.cells cs 62 (0, 0)) := fun b cs hc => row_ne hc (fun e => by
        have := H2.out.1
        unfold OpAt at this
        rw [e, hc] at this
        cases this)
      have hz := (H2.out.2.2.2 0).typ (w' := w2.setRow (W0.heap.size + 1) (oc (setL o u))) (fun b hb => absurd hb (by omega)) hne
      exact ⟨setL o u, cl', rfl, ⟨ok_setL HX.out.2.2.1 u, hz.1, fun B => hz.any B, rfl⟩, Below.setRow H2.out.2.1 (by omega) _⟩
end Go.Proofs.YtagdapmnghnphaaDoor.V
