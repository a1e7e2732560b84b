/-
  Comparing two operations: order.Compare, Before, Beside; the document's.
-/
import Derived.Test.YtfnmekmgjcjglaaDoorYME
import Derived.Deep.Cut
import Derived.Deep.CutRange
import Derived.Deep.RegionWith
import Derived.StillTailTactics
import Derived.LoopTactic
import Derived.Lib.Walk
import Derived.Lib.SliceRun
namespace Go.Proofs.YtfnmekmgjcjglaaDoor.V
set_option linter.unusedVariables false
set_option linter.unusedSimpArgs false
set_option maxRecDepth 100000
open Go Go.RowKit Go.Maps Go.Sort Wire
set_option maxRecDepth 100000
set_option linter.unusedVariables false
set_option linter.unusedSimpArgs false
theorem meas1 {n k : Nat} (h : k < n) : n - (intOf (.int .i64 ((k : Int) + 1))).toNat < n - (intOf (.int .i64 (k : Int))).toNat := by
  show n - ((k : Int) + 1).toNat < n - (k : Int).toNat
  omega
theorem gen_code {P : Program} {Q : Exit → Act → World → Prop} {c : Code} {a : Act} {w : World} (R : World → Prop) (hR : R w) (h : ∀ W, R W → c.wp P Q a W) : c.wp P Q a w := h w hR
def cmpN (x y : Nat) : Int := if x < y then -1 else if y < x then 1 else 0
def orI (x y : Int) : Int := if x ≠ 0 then x else y
def cmpD (a b : Dot) : Int := orI (cmpN a.1 b.1) (cmpN a.2 b.2)
theorem cmpM_or (x y : OC) : cmpM x y = orI (cmpN x.1.tm y.1.tm) (orI (cmpN x.1.r y.1.r) (cmpN x.1.n y.1.n)) := by
  unfold cmpM ltO orI cmpN
  by_cases h1 : x.1.tm < y.1.tm
  · simp [h1]
  · by_cases h2 : y.1.tm < x.1.tm
    · have : ¬ x.1.tm = y.1.tm := by omega
      have h3 : ¬ y.1.tm = x.1.tm := by omega
      simp [h1, h2, this]
    · have e : x.1.tm = y.1.tm := by omega
      by_cases h3 : x.1.r < y.1.r
      · simp [e, h3]
      · by_cases h4 : y.1.r < x.1.r
        · have : ¬ x.1.r = y.1.r := by omega
          simp [e, h3, h4, this]
        · have e2 : x.1.r = y.1.r := by omega
          simp [e, e2]
theorem compare_u8 (x y : Nat) (w : World) :
    Calls Tryd.prog 78 #[.int .u8 (x : Int), .int .u8 (y : Int)] w fun e w' => e = .returned (.int .i64 (cmpN x y)) ∧ w = w' := by
  by_cases h1 : x < y
  · go_enter Tryd.func78, Tryd.ntmps78
    go_wp2
    go_ret
    exact ⟨ret_int (by unfold cmpN; rw [if_pos h1]), rfl⟩
  · by_cases h2 : y < x
    · go_enter Tryd.func78, Tryd.ntmps78
      go_wp2
      go_ret
      exact ⟨ret_int (by unfold cmpN; rw [if_neg h1, if_pos h2]), rfl⟩
    · go_enter Tryd.func78, Tryd.ntmps78
      go_wp2
      go_ret
      exact ⟨ret_int (by unfold cmpN; rw [if_neg h1, if_neg h2]), rfl⟩
theorem compare_u32 (x y : Nat) (w : World) :
    Calls Tryd.prog 79 #[.int .u32 (x : Int), .int .u32 (y : Int)] w fun e w' => e = .returned (.int .i64 (cmpN x y)) ∧ w = w' := by
  by_cases h1 : x < y
  · go_enter Tryd.func79, Tryd.ntmps79
    go_wp2
    go_ret
    exact ⟨ret_int (by unfold cmpN; rw [if_pos h1]), rfl⟩
  · by_cases h2 : y < x
    · go_enter Tryd.func79, Tryd.ntmps79
      go_wp2
      go_ret
      exact ⟨ret_int (by unfold cmpN; rw [if_neg h1, if_pos h2]), rfl⟩
    · go_enter Tryd.func79, Tryd.ntmps79
      go_wp2
      go_ret
      exact ⟨ret_int (by unfold cmpN; rw [if_neg h1, if_neg h2]), rfl⟩
theorem compare_u64 (x y : Nat) (w : World) :
    Calls Tryd.prog 77 #[.int .u64 (x : Int), .int .u64 (y : Int)] w fun e w' => e = .returned (.int .i64 (cmpN x y)) ∧ w = w' := by
  by_cases h1 : x < y
  · go_enter Tryd.func77, Tryd.ntmps77
    go_wp2
    go_ret
    exact ⟨ret_int (by unfold cmpN; rw [if_pos h1]), rfl⟩
  · by_cases h2 : y < x
    · go_enter Tryd.func77, Tryd.ntmps77
      go_wp2
      go_ret
      exact ⟨ret_int (by unfold cmpN; rw [if_neg h1, if_pos h2]), rfl⟩
    · go_enter Tryd.func77, Tryd.ntmps77
      go_wp2
      go_ret
      exact ⟨ret_int (by unfold cmpN; rw [if_neg h1, if_neg h2]), rfl⟩
theorem cmp_Or3 (b : Nat) (x y z : Int) (w : World) (h0 : w.cell? ⟨b, 0, none⟩ = some (.int .i64 x)) (h1 : w.cell? ⟨b, 1, none⟩ = some (.int .i64 y)) (h2 : w.cell? ⟨b, 2, none⟩ = some (.int .i64 z)) :
    Calls Tryd.prog 76 #[.slice (some ⟨b, 0, none⟩) 3 3] w fun e w' => e = .returned (.int .i64 (orI x (orI y z))) ∧ w = w' := by
  unfold orI
  by_cases hx : x = 0
  · subst hx
    by_cases hy : y = 0
    · subst hy
      by_cases hz : z = 0
      · subst hz
        go_enter Tryd.func76, Tryd.ntmps76
        go_wp2
        refine wp_loop_rounds 4 ?_
        rw [rounds_succ]
        go_wp2
        rw [rounds_succ]
        go_wp2
        rw [rounds_succ]
        go_wp2
        rw [rounds_succ]
        go_wp2
        go_ret
        exact ⟨rfl, rfl⟩
      · have hz' : (z == 0) = false := by simpa using hz
        have hz2 : (z != 0) = true := by simpa using hz
        go_enter Tryd.func76, Tryd.ntmps76
        go_wp2
        refine wp_loop_rounds 4 ?_
        rw [rounds_succ]
        go_wp2
        rw [rounds_succ]
        go_wp2
        rw [rounds_succ]
        go_wp2
        go_ret
        exact ⟨rfl, rfl⟩
    · have hy' : (y == 0) = false := by simpa using hy
      have hy2 : (y != 0) = true := by simpa using hy
      go_enter Tryd.func76, Tryd.ntmps76
      go_wp2
      refine wp_loop_rounds 4 ?_
      rw [rounds_succ]
      go_wp2
      rw [rounds_succ]
      go_wp2
      go_ret
      exact ⟨by simp [hy], rfl⟩
  · have hx' : (x == 0) = false := by simpa using hx
    have hx2 : (x != 0) = true := by simpa using hx
    go_enter Tryd.func76, Tryd.ntmps76
    go_wp2
    refine wp_loop_rounds 4 ?_
    rw [rounds_succ]
    go_wp2
    go_ret
    exact ⟨by simp [hx], rfl⟩
theorem grow3 (w : World) (a b c : Obj) : ((w.alloc a).alloc b).drew.alloc c = grow (w.drewN 1) #[a, b, c] := by
  rw [alloc_eq_grow, alloc_eq_grow, alloc_eq_grow]
  show grow (grow (grow (w.drewN 1) _) _) _ = _
  rw [grow_grow, grow_grow]; rfl
theorem below_grow (w : World) (q : Nat) (os : Array Obj) : Below w.heap.size w (grow (w.drewN q) os) :=
  ⟨rfl, rfl, rfl, by rw [size_grow]; exact Nat.le_add_right _ _, fun k hk => by
    show (w.heap ++ os)[k]? = _
    rw [Array.getElem?_append_left hk]⟩
set_option maxHeartbeats 1000000 in
/-- order.Compare: what it makes, exactly. -/
theorem order_CompareG (x y : OC) (w : World) :
    Calls Tryd.prog 71 #[.agg (oc x.1), .agg (oc y.1)] w fun e w' => e = .returned (.int .i64 (cmpM x y)) ∧ ∃ q os, w' = grow (w.drewN q) os := by
  rw [cmpM_or]
  obtain ⟨r, hr⟩ : ∃ r, r = cmpN x.1.tm y.1.tm := ⟨_, rfl⟩
  obtain ⟨s, hs⟩ : ∃ s, s = cmpN x.1.r y.1.r := ⟨_, rfl⟩
  obtain ⟨t, ht⟩ : ∃ t, t = cmpN x.1.n y.1.n := ⟨_, rfl⟩
  have c1 := fun w' => compare_u64 x.1.tm y.1.tm w'
  have c2 := fun w' => compare_u8 x.1.r y.1.r w'
  have c3 := fun w' => compare_u32 x.1.n y.1.n w'
  rw [← hr, ← hs, ← ht]
  rw [← hr] at c1
  rw [← hs] at c2
  rw [← ht] at c3
  clear hr hs ht
  go_enter Tryd.func71, Tryd.ntmps71
  go_upto_region 1 with (fail)
  refine wp_region_still_tail_w 19 (by kernel_rfl) (by kernel_rfl) ?_
  intro wd hwd
  have h0 : OpAt wd w.heap.size x.1 := by rw [hwd]; exact ((opAt_new w x.1).al _).dr
  have h1 : OpAt wd (w.heap.size + 1) y.1 := by rw [hwd]; exact OpAt.dr (last2 w _ _)
  have e0 := h0.c10
  have e1 := h0.c0
  have e2 := h0.c1
  have e3 := h1.c10
  have e4 := h1.c0
  have e5 := h1.c1
  have hW : Hid (wd = ((w.alloc (.cells (oc x.1) 50)).alloc (.cells (oc y.1) 50)).drew) := hwd
  clear hwd h0 h1
  simp only [List.take_succ_cons, List.take_zero, List.drop_succ_cons, List.drop_zero]
  repeat still_step
  still_call ((c1 _).mono fun _ _ ⟨he, hw⟩ => ⟨he, hw.symm⟩)
  repeat still_step
  still_call ((c2 _).mono fun _ _ ⟨he, hw⟩ => ⟨he, hw.symm⟩)
  repeat still_step
  still_call ((c3 _).mono fun _ _ ⟨he, hw⟩ => ⟨he, hw.symm⟩)
  refine wpStill_nil ?_
  go_wp2_with (go_at_call 76; (with_reducible refine (cmp_Or3 _ r s t _ (by simp) (by simp) (by simp)).mono ?_); rintro e w' ⟨rfl, rfl⟩)
  go_ret
  exact ⟨rfl, 1, _, by rw [hW.out]; exact grow3 _ _ _ _⟩
theorem order_Compare (x y : OC) (w : World) :
    Calls Tryd.prog 71 #[.agg (oc x.1), .agg (oc y.1)] w fun e w' => e = .returned (.int .i64 (cmpM x y)) ∧ Below w.heap.size w w' :=
  (order_CompareG x y w).mono fun _ _ ⟨he, q, os, hw⟩ => ⟨he, hw ▸ below_grow w q os⟩
structure Two (w : World) (x y : OpM) (W : World) : Prop where
  a : OpIn W ⟨w.heap.size, 0, none⟩ x
  b : OpIn W ⟨w.heap.size + 1, 0, none⟩ y
  below : Below w.heap.size w W
theorem two_new (w : World) (x y : OpM) : Two w x y ((w.alloc (.cells (oc x) 50)).alloc (.cells (oc y) 50)) :=
  ⟨((opAt_new w x).al _).in, OpAt.in (last2 w _ _), below_al2 w _ _⟩
theorem Two.next {w : World} {x y : OpM} {W W' : World} (h : Two w x y W) (hB : Below W.heap.size W W') : Two w x y W' := ⟨h.a.keep hB, h.b.keep hB, below_next h.below hB⟩
/-- Are two operations beside each other? -/
def besO (x y : OC) : Bool := (!(eqB (x.1.r, x.1.n) (y.1.r, y.1.n)) && !befB x y) && !befB y x
end Go.Proofs.YtfnmekmgjcjglaaDoor.V
namespace Go.Proofs.YtfnmekmgjcjglaaDoor.V
set_option linter.unusedVariables false
set_option linter.unusedSimpArgs false
set_option maxRecDepth 100000
open Go Go.RowKit Go.Maps Wire
set_option maxRecDepth 100000
set_option linter.unusedVariables false
set_option linter.unusedSimpArgs false
theorem flatC_one_cell (l : List Claim) : ∀ u ∈ flatC l, u.oneCell' = true := by
  intro u hu
  obtain ⟨x, _, hx⟩ := List.mem_flatMap.1 hu
  exact one_claim x u hx
theorem IsClaims.flat {w : World} {ad : Addr} {len cap : Nat} {l : List Claim} (h : IsClaims w (some ad) len cap l) : ∀ j u, (flatC l)[j]? = some u → w.cell? (ad.add j) = some u := by
  obtain ⟨h1, h2, h3, h4, h5⟩ := h
  intro j u hj
  have hlt : j < (flatC l).length := (List.getElem?_eq_some_iff.1 hj).1
  rw [flatC_length] at hlt
  have hi : j / 4 < l.length := by omega
  have hx : l[j / 4]? = some (l[j / 4]'hi) := List.getElem?_eq_getElem hi
  have hk : j % 4 < 4 := Nat.mod_lt _ (by omega)
  have h := h5 _ _ hx (j % 4) hk
  rw [add_add2, show j / 4 * 4 + j % 4 = j by omega] at h
  rw [h, ← flatC_get l _ _ hx _ hk, show j / 4 * 4 + j % 4 = j by omega, hj]
set_option maxHeartbeats 1000000 in
theorem lines_Clone (v : Value) (l : List Claim) (w : World) (h : ClaimsV w v l) (hl : l.length ≤ 1000) :
    Calls Tryd.prog 48 #[v] w fun e w' => ∃ u, e = .returned u ∧ ClaimsV w' u l ∧ (∀ B, ClaimsB B w' u l) ∧ Below w.heap.size w w' := by
  obtain ⟨a, n, c, rfl, hI⟩ := h
  cases a with
  | none =>
    have hn : n = 0 := hI.none_len
    have e0 : l = [] := List.length_eq_zero_iff.1 (hI.1.trans hn)
    subst e0 hn
    clear hI
    have q : ∀ (w : World), (binOp .eql 48 (.slice none 0 c) (.slice none 0 0)).run Tryd.prog w = .ok (.bool true) w := fun w => Lib.run_eql_slice_nil w _ _ none 0 c 0 0 Tryd.underlying48
    go_enter Tryd.func48, Tryd.ntmps48
    go_wp2
    go_ret
    exact ⟨_, rfl, ClaimsV.nil _, fun B => ⟨ClaimsV.nil _, fun a n c e => by cases e⟩, Below.refl _ _⟩
  | some ad =>
    have q : ∀ (w : World), (binOp .eql 48 (.slice (some ad) n c) (.slice none 0 0)).run Tryd.prog w = .ok (.bool false) w := fun w => Lib.run_eql_slice_nil w _ _ (some ad) n c 0 0 Tryd.underlying48
    obtain ⟨i0, hi, hz0, hz1, hz2⟩ := info_parts infoClaim
    have hfl := hI.flat
    have hlen : n = l.length := hI.1.symm
    have hok := hI.2.2.2.1
    have H := hid (And.intro hfl (And.intro hlen hok))
    clear hI hfl hok
    subst hlen
    go_enter Tryd.func48, Tryd.ntmps48
    go_wp2_with (at_builtin; refine wpList_append_own _ rfl _ _ 48 rfl w.heap.size 94 i0 _ 4 16 Tryd.underlying48 hi hz0 hz1 hz2 rfl (by decide) _ _ _ rfl (World.ownsRow_made w #[] 0 (Nat.le_refl _) (Nat.zero_le _) rfl) ad l.length c (flatC l) rfl ?q1 ?q2 ?q3 ?q4 ?q5 ?q6 ?_)
    case q1 => rw [flatC_length]
    case q2 =>
      intro j u hj
      have h := H.out.1 j u hj
      exact cell_keep (below_al _ _) h
    case q3 => exact flatC_one_cell l
    case q4 => unfold maxLen; omega
    case q5 => omega
    intro v' w1 hown hgrow hnil
    go_wp2
    go_ret
    have hown' : w1.ownsRow w.heap.size 94 4 v' l.length (flatC l) := by simpa using hown
    have hb : Below w.heap.size w w1 := ((Below.refl _ w).alloc (Nat.le_refl _) _).grown hgrow (by simp) (by intro k hk; simp [Value.ownBlock] at hk; omega)
    exact ⟨v', rfl, (owns_claimsB (B := 0) hown' H.out.2.2).1, fun B => owns_claimsB hown' H.out.2.2, hb⟩
theorem setL_cells (o : OpM) (u : Value) : (oc o).setIfInBounds 28 u = oc (setL o u) := rfl
theorem ok_setL {o : OpM} (h : okO o) (u : Value) : okO (setL o u) := { h with }
theorem ClaimsV.oneCell {w : World} {v : Value} {l : List Claim} (h : ClaimsV w v l) : v.oneCell' = true := by obtain ⟨a, n, c, rfl, _⟩ := h; rfl
set_option maxHeartbeats 400000 in
theorem order_copyOf (x : OC) (W0 : World) (h : ClaimsV W0 x.1.lv x.2) (hl : x.2.length ≤ 1000) :
    Calls Tryd.prog 60 #[.agg (oc x.1)] W0 fun e w' => ∃ u, e = .returned (.agg (oc (setL x.1 u))) ∧ ClaimsV w' u x.2 ∧ (∀ B, ClaimsB B w' u x.2) ∧ Below W0.heap.size W0 w' := by
  have H0 := two_new W0 x.1 zeroO
  have HV := hid h
  go_enter Tryd.func60, Tryd.ntmps60
  go_upto_region 1 with (fail)
  refine gen_code (fun W => OpAt W W0.heap.size x.1 ∧ OpAt W (W0.heap.size + 1) zeroO ∧ Below W0.heap.size W0 W) ⟨(opAt_new W0 x.1).al _, last2 W0 _ _, below_al2 W0 _ _⟩ ?_
  rintro W ⟨h1, h2, hB⟩
  have c28 := h1.c28
  have hcl := fun W' (hb : Below W0.heap.size W0 W') => lines_Clone x.1.lv x.2 W' (HV.out.keep hb) hl
  have HW := hid (And.intro h1 (And.intro h2 hB))
  have hcall := hcl W hB
  clear H0 h h1 h2 hB hcl
  go_upto_region 2 with (first
    | (go_at_call 48; refine hcall.mono ?_; rintro e w1 ⟨u, rfl, hu, huB, hB1⟩; obtain ⟨ua, un, uc, rfl, hus⟩ := id hu; clear hus; have k28 := OpAt.c28 (HW.out.1.keep hB1); have f28 := freeV (HW.out.1.keep hB1) 28; have HU := hid (And.intro hu (And.intro huB hB1)); have hone := hu.oneCell; clear hu huB hB1 c28))
  refine gen_code (fun W2 => OpAt W2 W0.heap.size (setL x.1 (Value.slice ua un uc)) ∧ OpAt W2 (W0.heap.size + 1) zeroO ∧ ClaimsV W2 (Value.slice ua un uc) x.2 ∧ (∀ B, ClaimsB B W2 (Value.slice ua un uc) x.2) ∧ Below W0.heap.size W0 W2) ?_ ?_
  · have hb := below_next HW.out.2.2 HU.out.2.2
    have hne : ∀ (b : Nat) (cs : Array Value), w1.heap[b]? = some (.cells cs 94 (0, 0)) → (w1.setCell ⟨W0.heap.size, 28, none⟩ (Value.slice ua un uc)).heap[b]? = some (.cells cs 94 (0, 0)) := fun b cs hc => heap_n hc (fun e => by
      have := HW.out.1.keep HU.out.2.2
      unfold OpAt at this
      rw [e, hc] at this
      cases this)
    have hz := HU.out.2.1 0
    have hz2 := hz.typ (w' := w1.setCell ⟨W0.heap.size, 28, none⟩ (Value.slice ua un uc)) (fun b hb => absurd hb (by omega)) hne
    refine ⟨?_, heap_n (HW.out.2.1.keep HU.out.2.2) (by omega), hz2.1, fun B => ?_, hb.setCell (by exact Nat.le_refl _) _⟩
    · show (w1.setCell ⟨W0.heap.size, 28, none⟩ (Value.slice ua un uc)).heap[W0.heap.size]? = _
      rw [← setL_cells]
      exact heap_s (HW.out.1.keep HU.out.2.2)
    · exact hz2.any B
  rintro W2 ⟨h1, h2, hu, huB, hB⟩
  have hone2 := hone
  have HX := hid (And.intro h1 (And.intro h2 (And.intro hu (And.intro huB hB))))
  clear h1 h2 hu huB hB HW HU
  go_wp2_with (first
    | (refine load_op rfl _ rfl W0.heap.size rfl _ HX.out.1 ?_)
    | (refine wpList_store_row rfl _ _ _ rfl (W0.heap.size + 1) (oc (setL x.1 (Value.slice ua un uc))) rfl rfl 50 (oc zeroO) HX.out.2.1 (opSize _) rfl (oneO _ hone2) ?_))
  have hR : (W2.setRow (W0.heap.size + 1) (oc (setL x.1 (Value.slice ua un uc)))).heap[W0.heap.size + 1]? = some (.cells (oc (setL x.1 (Value.slice ua un uc))) 50 (0, 0)) := setRow_heap _ _ _ _ _ _ HX.out.2.1
  refine bodyPost_ret (results_cell_row rfl _ _ _ _ _ _ _ rfl hR Tryd.underlying50 rfl (opSize _)) rfl ?_
  have hne : ∀ (b : Nat) (cs : Array Value), W2.heap[b]? = some (.cells cs 94 (0, 0)) → (W2.setRow (W0.heap.size + 1) (oc (setL x.1 (Value.slice ua un uc)))).heap[b]? = some (.cells cs 94 (0, 0)) := fun b cs hc => row_ne hc (fun e => by
    have := HX.out.2.1
    unfold OpAt at this
    rw [e, hc] at this
    cases this)
  have hz := (HX.out.2.2.2.1 0).typ (w' := W2.setRow (W0.heap.size + 1) (oc (setL x.1 (Value.slice ua un uc)))) (fun b hb => absurd hb (by omega)) hne
  exact ⟨_, rfl, hz.1, fun B => hz.any B, Below.setRow HX.out.2.2.2.2 (by omega) _⟩
end Go.Proofs.YtfnmekmgjcjglaaDoor.V
namespace Go.Proofs.YtfnmekmgjcjglaaDoor.V
set_option linter.unusedVariables false
set_option linter.unusedSimpArgs false
set_option maxRecDepth 100000
open Go Go.RowKit Go.Maps Wire
set_option maxRecDepth 100000
set_option linter.unusedVariables false
set_option linter.unusedSimpArgs false
/-- Where a dot stands first. -/
def idxD (l : List OC) (d : Dot) : Int := match l.findIdx? (fun x => dt x == d) with | some i => (i : Int) | none => -1
def dbox (d : Dot) : Array Value := #[.int .u8 (d.1 : Int), .int .u32 (d.2 : Int)]
/-! ### order.Find -/
def findM (l : List OC) (d : Dot) : Option OC := l.find? fun x => dt x == d
def zeroC : OC := (zeroO, [])
theorem idx_find (l : List OC) (d : Dot) : (idxD l d = -1 ∧ findM l d = none) ∨ ∃ k : Nat, idxD l d = k ∧ k < l.length ∧ l[k]? = findM l d ∧ (findM l d).isSome = true := by
  unfold idxD findM
  cases h : l.findIdx? (fun x => dt x == d) with
  | none =>
    left
    refine ⟨rfl, ?_⟩
    rw [List.findIdx?_eq_none_iff] at h
    rw [List.find?_eq_none]
    intro x hx
    have := h x hx
    simp at this
    simpa using this
  | some k =>
    right
    obtain ⟨hk, h1, h2⟩ := List.findIdx?_eq_some_iff_getElem.1 h
    have hf : l.find? (fun x => dt x == d) = some l[k] := by
      rw [List.find?_eq_some_iff_getElem]
      exact ⟨h1, k, hk, rfl, fun j hj => by have := h2 j hj; simpa using this⟩
    exact ⟨k, rfl, hk, by rw [hf, List.getElem?_eq_getElem hk], by rw [hf]; rfl⟩
theorem ok_zeroO : okO zeroO := by refine ⟨⟨?_, ?_⟩, ?_, ?_, ?_, ?_, ?_, ?_, ?_, ?_, ?_, ?_, ?_, ?_, ?_, ?_, ?_, ?_, ?_, ?_, ?_, ?_⟩ <;> first | decide | (intro i; show (0 : Nat) < _; decide) | (intro i _; rfl)
/-- What Find returns: an operation that reads as the first one with the dot, or as the zero one. -/
structure Found (w : World) (f : Option OC) (o : OpM) (c : List Claim) : Prop where
  ok : okO o
  cl : ClaimsV w o.lv c
  clB : ∀ B, ClaimsB B w o.lv c
  is : core (o, c) = match f with | some x => core x | none => zeroC
end Go.Proofs.YtfnmekmgjcjglaaDoor.V
