/-
  Sorting indices by a comparing method value: slices.SortFunc; the ranking.
-/
import Derived.Test.YtfnmekmgjcjglaaDoorYHK8
import Derived.Test.YtfnmekmgjcjglaaDoorYMH
import Derived.RangeFuncFrom
import Derived.RangeFuncLeaves
import Derived.RangeFuncBox
import Derived.RangeFuncCalls
import Derived.Shelf.RegionOpen
import Derived.OwnWalkIn
import Derived.TacticsInMore
import Derived.LoopNIn
import Derived.LoopIn
import Derived.Maps.OwnIn
import Derived.Test.YtfnmekmgjcjglaaDoorYMG
namespace Go.Proofs.YtfnmekmgjcjglaaDoor.V
set_option linter.unusedVariables false
set_option linter.unusedSimpArgs false
set_option maxRecDepth 100000
open Go Go.RowKit Go.Maps Wire
set_option maxRecDepth 100000
set_option linter.unusedVariables false
set_option linter.unusedSimpArgs false
open Go.Sort (swp PermIn SortedIn SWO)
section Sorting
variable {w0 : World} {blk : Nat} {ok : Nat → Prop} {d : Array Nat} {W W' : World}
theorem bits_len (n : Nat) (hn : n < 1000000000) (w : World) : ∃ k : Nat, k < 1000 ∧ Calls Tryd.prog 82 #[.int .u64 (n : Int)] w fun e w' => e = .returned (.int .i64 (k : Nat)) ∧ w' = w := by
  refine ⟨Go.Sort.bitsLen n, Nat.lt_of_le_of_lt ((Go.Sort.bitsLen_le_iff n 62).2 (by omega)) (by omega), ?_⟩
  have h := Go.Proofs.Any.bits_Len (Go.Proofs.SlLaysF0.n15.bits lenI) (n : Int) w (by omega) (by omega)
  rw [Int.toNat_natCast, Go.Proofs.bitLen_eq _ (by omega)] at h
  exact h
set_option maxHeartbeats 800000 in
theorem sort_func (recv : Value) (c : Nat → Nat → Int) (HC : Hid (CmpOK w0 recv ok c)) (HO : Hid (Str ok c)) (n cap : Nat) (hsz : n < 1000000000) (d : Array Nat) (hn : d.size = n) (hnd : d.toList.Nodup) (W0 : World) (h : Srt w0 blk ok d W0) :
    Calls Tryd.prog 73 #[.slice (some ⟨blk, 0, none⟩) n cap, .func (.func 59) #[recv] #[]] W0 fun e w' => e = .returned (.tuple #[]) ∧ ∃ d', PermIn 0 n d d' ∧ SortedIn (ltC c) 0 n d' ∧ Srt w0 blk ok d' w' := by
  obtain ⟨k, hk, hb⟩ := bits_len n hsz W0
  have hp := sort_pdq recv c HC HO n cap hsz (n + 1) 0 n k d W0 (by omega) hn hnd (by omega) (by omega) hk (.inl rfl) h
  have ew : IntKind.u64.wrap (n : Int) = n := by simp [IntKind.wrap, IntKind.bits, IntKind.signed]; omega
  have HD := hid (And.intro hn (And.intro hnd h))
  clear hn hnd h
  go_enter Tryd.func73, Tryd.ntmps73
  go_wp2_with (first
    | (go_at_call 82; refine hb.mono ?_; rintro e w' ⟨rfl, rfl⟩)
    | (go_at_call 81; refine hp.mono ?_; rintro e w1 ⟨rfl, hw⟩; have HW := hid hw; clear hw))
  first | go_end0 | ((try simp only [Exit.inBlock, Exit.then]); refine bodyPost_ret (results_none rfl _ _ _) rfl ?_)
  exact ⟨rfl, HW.out⟩
/-! ### No row -/
set_option maxHeartbeats 400000 in
theorem sort_none_ins (fv : Value) (W0 : World) :
    Calls Tryd.prog 86 #[.slice none 0 0, .int .i64 0, .int .i64 0, fv] W0 fun e w' => e = .returned (.tuple #[]) ∧ w' = W0 := by
  go_enter Tryd.func86, Tryd.ntmps86
  go_wp2
  go_loopw [8] (fun x wr => x = .int .i64 1 ∧ wr = W0) (fun x _ => 0)
  case atStart => exact ⟨rfl, rfl⟩
  case round =>
    obtain ⟨rfl, rfl⟩ := hrel
    go_wp2
    first | go_end0 | ((try simp only [Exit.inBlock, Exit.then]); refine bodyPost_ret (results_none rfl _ _ _) rfl ?_)
    exact ⟨rfl, rfl⟩
set_option maxHeartbeats 400000 in
theorem sort_none_pdq (lim : Nat) (fv : Value) (W0 : World) :
    Calls Tryd.prog 81 #[.slice none 0 0, .int .i64 0, .int .i64 0, .int .i64 (lim : Nat), fv] W0 fun e w' => e = .returned (.tuple #[]) ∧ w' = W0 := by
  go_enter Tryd.func81, Tryd.ntmps81
  go_wp2
  go_loopw [1, 2, 3, 10, 11] (fun s1 s2 s3 s8 s9 wr => s1 = .int .i64 0 ∧ s2 = .int .i64 0 ∧ wr = W0) (fun _ _ _ _ _ _ => 0)
  case atStart => exact ⟨rfl, rfl, rfl⟩
  case round =>
    obtain ⟨rfl, rfl, rfl⟩ := hrel
    go_wp2_with (go_at_call 86; refine (sort_none_ins _ _).mono ?_; rintro e w1 ⟨rfl, rfl⟩)
    first | go_end0 | ((try simp only [Exit.inBlock, Exit.then]); refine bodyPost_ret (results_none rfl _ _ _) rfl ?_)
    exact ⟨rfl, rfl⟩
set_option maxHeartbeats 400000 in
theorem sort_none (fv : Value) (W0 : World) :
    Calls Tryd.prog 73 #[.slice none 0 0, fv] W0 fun e w' => e = .returned (.tuple #[]) ∧ w' = W0 := by
  obtain ⟨k, hk, hb⟩ := bits_len 0 (by omega) W0
  go_enter Tryd.func73, Tryd.ntmps73
  go_wp2_with (first
    | (go_at_call 82; refine hb.mono ?_; rintro e w' ⟨rfl, rfl⟩)
    | (go_at_call 81; refine (sort_none_pdq _ _ _).mono ?_; rintro e w1 ⟨rfl, rfl⟩))
  first | go_end0 | ((try simp only [Exit.inBlock, Exit.then]); refine bodyPost_ret (results_none rfl _ _ _) rfl ?_)
  exact ⟨rfl, rfl⟩
end Sorting
/-! ### The ranking -/
def zeroX : OC := (zeroO, [])
/-- The operation at a place. -/
def atO (l : List OC) (i : Nat) : OC := l.getD i zeroX
theorem atO_get {l : List OC} {i : Nat} {x : OC} (h : l[i]? = some x) : atO l i = x := by unfold atO; rw [List.getD_eq_getElem?_getD, h]; rfl
/-- The comparing of two places. -/
def cO (l : List OC) (i j : Nat) : Int := cmpM (atO l i) (atO l j)
/-- A place at which a name stands for the first time. -/
def FirstAt (l : List OC) (i : Nat) : Prop := i < l.length ∧ ∀ j, j < i → dt (atO l j) ≠ dt (atO l i)
theorem ltC_iff {l : List OC} {i j : Nat} : ltC (cO l) i j = true ↔ ltO (atO l i) (atO l j) := by unfold ltC cO; rw [decide_eq_true_eq, cmpM_neg]
theorem ltC_not {l : List OC} {i j : Nat} : ltC (cO l) i j = false ↔ ¬ ltO (atO l i) (atO l j) := by rw [← ltC_iff]; simp
theorem ltO_ntrans {a b c : OC} (h : ¬ ltO a b) (k : ¬ ltO b c) : ¬ ltO a c := by unfold ltO at *; omega
theorem str_ops (l : List OC) : Str (FirstAt l) (cO l) where
  swo := ⟨fun x => ltC_not.2 (ltO_irr _), fun x y z h k => ltC_iff.2 (ltO_trans (ltC_iff.1 h) (ltC_iff.1 k)), fun x y z h k => ltC_not.2 (ltO_ntrans (ltC_not.1 h) (ltC_not.1 k))⟩
  tri := fun x y hx hy h k => by
    have e : dt (atO l x) = dt (atO l y) := by
      by_cases e : dt (atO l x) = dt (atO l y)
      · exact e
      · rcases ltO_total e with g | g
        · exact absurd g (ltC_not.1 h)
        · exact absurd g (ltC_not.1 k)
    rcases Nat.lt_trichotomy x y with g | g | g
    · exact absurd e (hy.2 x g)
    · exact g
    · exact absurd e.symm (hx.2 y g)
theorem fld_rank (p : Addr) (w : World) : (Instr.fieldAt 106 (.pointer (some p)) 0).run Tryd.prog w = .ok (.pointer (some p)) w := by go_simp
theorem ld_rank {w : World} {g : Nat} {v : Value} (h : w.heap[g]? = some (.cells #[v] 106 (0, 0))) : (Instr.loadAt 22 (.pointer (some ⟨g, 0, none⟩))).run Tryd.prog w = .ok v w := by
  have c0 : w.cell? ⟨g, 0, none⟩ = some v := (cell_of_heap h).trans rfl
  go_simp
set_option maxHeartbeats 800000 in
theorem ranking_compare (l : List OC) (ad : Addr) (len cap : Nat) (w0 : World) (hI : IsOps w0 (some ad) len cap l) : CmpOK w0 (.agg #[.slice (some ad) len cap]) (FirstAt l) (cO l) := by
  refine ⟨fun W hB i j hi hj => ?_⟩
  have hl : l.length = len := hI.1
  have hI2 := hI.keep hB
  obtain ⟨x, B1, O1, s1, hx, _, _, hA1, hC1⟩ := OpsV.at hI2 (i := i) (by have := hi.1; omega)
  obtain ⟨y, B2, O2, s2, hy, _, _, hA2, hC2⟩ := OpsV.at hI2 (i := j) (by have := hj.1; omega)
  have ex := atO_get hx
  have ey := atO_get hy
  unfold cO
  rw [ex, ey]
  have h1 : i < len := by have := hi.1; omega
  have h2 : j < len := by have := hj.1; omega
  have o1 : OpIn W (ad.add (i * 29)) x.1 := hA1 ▸ hC1.all
  have o2 : OpIn W (ad.add (j * 29)) y.1 := hA2 ▸ hC2.all
  have HO1 := hid o1
  have HO2 := hid o2
  clear o1 o2 hA1 hA2 hC1 hC2 hx hy ex ey hi hj hI2 hI hl
  show Calls _ _ #[.agg #[.slice (some ad) len cap], .int .i64 (i : Nat), .int .i64 (j : Nat)] _ _
  go_enter Tryd.func59, Tryd.ntmps59
  go_upto_region 1 with (fail)
  refine gen_code (fun w => w.heap[W.heap.size]? = some (.cells #[.slice (some ad) len cap] 106 (0, 0)) ∧ Below W.heap.size W w) ⟨heap_alloc_last' _ _, below_al _ _⟩ ?_
  rintro W1 ⟨hb1, hB1⟩
  have HO1' := hid (HO1.out.keep hB1)
  have HO2' := hid (HO2.out.keep hB1)
  have HH := hid hb1
  have HB1 := hid hB1
  clear hb1 hB1 HO1 HO2
  refine wp_flow (fun _ => none) (Fa.eq (.pointer (some ⟨W.heap.size, 0, none⟩)) :: Fa.eq (.slice (some ad) len cap) :: Fa.eq (.int .i64 ((i : Nat))) :: Fa.eq (.pointer (some (ad.add (i * 29)))) :: Fa.eq (.agg (oc x.1)) :: Fa.eq (.pointer (some ⟨W.heap.size, 0, none⟩)) :: Fa.eq (.slice (some ad) len cap) :: Fa.eq (.int .i64 ((j : Nat))) :: Fa.eq (.pointer (some (ad.add (j * 29)))) :: Fa.eq (.agg (oc y.1)) :: Fa.eq (.int .i64 (cmpM x y)) :: Fa.eq (.int .i64 (cmpM x y)) :: []) 18 (by kernel_rfl) rfl (by kernel_rfl) rfl (by kernel_rfl) ?_ ?_ ?_
  · exact fits_plain _ _ rfl
  · refine ⟨?_, ?_, ?_, ?_, ?_, ?_, ?_, ?_, ?_, ?_, ?_, ?_, trivial⟩
    · exact v_faddr (u := .pointer (some ⟨W.heap.size, 0, none⟩)) (c := .pointer (some ⟨W.heap.size, 0, none⟩)) rfl (fun w => fld_rank _ w) rfl (by kernel_rfl) True.intro (Ev.out (by kernel_rfl) rfl)
    · exact v_load (u := .pointer (some ⟨W.heap.size, 0, none⟩)) (c := .slice (some ad) len cap) rfl (fun w hB => ld_rank (heap_keep (w := W1.drew) HH.out hB)) rfl (by kernel_rfl) True.intro (Ev.at (i := 0) (by kernel_rfl) (by kernel_rfl) rfl)
    · exact v_move (.inl rfl) rfl (by kernel_rfl) True.intro (Ev.out (by kernel_rfl) rfl)
    · exact v_iaddr (u := .slice (some ad) len cap) (v := .int .i64 ((i : Nat))) (c := .pointer (some (ad.add (i * 29)))) rfl (fun w => idx_op ad len cap i h1 w) rfl (by kernel_rfl) True.intro (Ev.at (i := 1) (by kernel_rfl) (by kernel_rfl) rfl) (Ev.at (i := 2) (by kernel_rfl) (by kernel_rfl) rfl)
    · exact v_load (u := .pointer (some (ad.add (i * 29)))) (c := .agg (oc x.1)) rfl (fun w hB => ldp_op (OpIn.keep (OpIn.dr HO1'.out) hB)) rfl (by kernel_rfl) True.intro (Ev.at (i := 3) (by kernel_rfl) (by kernel_rfl) rfl)
    · exact v_faddr (u := .pointer (some ⟨W.heap.size, 0, none⟩)) (c := .pointer (some ⟨W.heap.size, 0, none⟩)) rfl (fun w => fld_rank _ w) rfl (by kernel_rfl) True.intro (Ev.out (by kernel_rfl) rfl)
    · exact v_load (u := .pointer (some ⟨W.heap.size, 0, none⟩)) (c := .slice (some ad) len cap) rfl (fun w hB => ld_rank (heap_keep (w := W1.drew) HH.out hB)) rfl (by kernel_rfl) True.intro (Ev.at (i := 5) (by kernel_rfl) (by kernel_rfl) rfl)
    · exact v_move (.inl rfl) rfl (by kernel_rfl) True.intro (Ev.out (by kernel_rfl) rfl)
    · exact v_iaddr (u := .slice (some ad) len cap) (v := .int .i64 ((j : Nat))) (c := .pointer (some (ad.add (j * 29)))) rfl (fun w => idx_op ad len cap j h2 w) rfl (by kernel_rfl) True.intro (Ev.at (i := 6) (by kernel_rfl) (by kernel_rfl) rfl) (Ev.at (i := 7) (by kernel_rfl) (by kernel_rfl) rfl)
    · exact v_load (u := .pointer (some (ad.add (j * 29)))) (c := .agg (oc y.1)) rfl (fun w hB => ldp_op (OpIn.keep (OpIn.dr HO2'.out) hB)) rfl (by kernel_rfl) True.intro (Ev.at (i := 8) (by kernel_rfl) (by kernel_rfl) rfl)
    · exact v_call (vs := #[.agg (oc x.1), .agg (oc y.1)]) (c := .int .i64 (cmpM x y)) rfl (fun args w => rfl) (fun w hB => order_Compare x y w) rfl (by kernel_rfl) True.intro (ev2 (Ev.at (i := 4) (by kernel_rfl) (by kernel_rfl) rfl) (Ev.at (i := 9) (by kernel_rfl) (by kernel_rfl) rfl))
    · exact v_move (.inr rfl) rfl (by kernel_rfl) True.intro (Ev.at (i := 10) (by kernel_rfl) (by kernel_rfl) rfl)
  intro _ vs W2 hB2 hf
  have e0 : vs 0 = .pointer (some ⟨W.heap.size, 0, none⟩) := hf 0 (by decide)
  have e1 : vs 1 = .slice (some ad) len cap := hf 1 (by decide)
  have e2 : vs 2 = .int .i64 ((i : Nat)) := hf 2 (by decide)
  have e3 : vs 3 = .pointer (some (ad.add (i * 29))) := hf 3 (by decide)
  have e4 : vs 4 = .agg (oc x.1) := hf 4 (by decide)
  have e5 : vs 5 = .pointer (some ⟨W.heap.size, 0, none⟩) := hf 5 (by decide)
  have e6 : vs 6 = .slice (some ad) len cap := hf 6 (by decide)
  have e7 : vs 7 = .int .i64 ((j : Nat)) := hf 7 (by decide)
  have e8 : vs 8 = .pointer (some (ad.add (j * 29))) := hf 8 (by decide)
  have e9 : vs 9 = .agg (oc y.1) := hf 9 (by decide)
  have e10 : vs 10 = .int .i64 (cmpM x y) := hf 10 (by decide)
  have e11 : vs 11 = .int .i64 (cmpM x y) := hf 11 (by decide)
  simp only [fill, List.setIfInBounds_toArray, List.set_cons_zero, List.set_cons_succ, e0, e1, e2, e3, e4, e5, e6, e7, e8, e9, e10, e11]
  clear e0 e1 e2 e3 e4 e5 e6 e7 e8 e9 e10 e11
  have HE := hid (below_next HB1.out hB2)
  clear hB2 hf
  go_wp2
  go_ret
  exact ⟨rfl, HE.out⟩
end Go.Proofs.YtfnmekmgjcjglaaDoor.V
namespace Go.Proofs.YtfnmekmgjcjglaaDoor.V
set_option linter.unusedVariables false
set_option linter.unusedSimpArgs false
set_option maxRecDepth 100000
open Go Go.RowKit Go.Maps Wire
set_option maxRecDepth 100000
set_option linter.unusedVariables false
set_option linter.unusedSimpArgs false
attribute [local go_sem] Oper.semAt_some
def encI (x : Nat) : Array Value := #[.int .i64 (x : Nat)]
/-- What a round keeps. -/
def KpN (n₀ : Nat) (A B : World) : Prop := Below n₀ A B ∧ KeepsWalks A B
instance (l : List OC) (i : Nat) : Decidable (FirstAt l i) := by unfold FirstAt; exact inferInstance
/-- The places at which a name stands for the first time. -/
def firstsM (l : List OC) (k : Nat) : List Nat := (List.range k).filter fun i => decide (FirstAt l i)
theorem firsts_yes {l : List OC} {k : Nat} (h : FirstAt l k) : firstsM l (k + 1) = firstsM l k ++ [k] := by
  unfold firstsM; rw [List.range_succ, List.filter_append]; simp [h]
theorem firsts_no {l : List OC} {k : Nat} (h : ¬ FirstAt l k) : firstsM l (k + 1) = firstsM l k := by
  unfold firstsM; rw [List.range_succ, List.filter_append]; simp [h]
theorem firsts_len (l : List OC) (k : Nat) : (firstsM l k).length ≤ k := by
  unfold firstsM; refine Nat.le_trans (List.length_filter_le _ _) ?_; simp
theorem firsts_mem {l : List OC} {k i : Nat} : i ∈ firstsM l k ↔ i < k ∧ FirstAt l i := by unfold firstsM; simp
theorem firsts_nodup (l : List OC) (k : Nat) : (firstsM l k).Nodup := List.nodup_range.sublist List.filter_sublist
theorem first_iff {l : List OC} {k : Nat} {x : OC} (hx : l[k]? = some x) : idxD l (dt x) = (k : Int) ↔ FirstAt l k := by
  have hk := (List.getElem?_eq_some_iff.1 hx).1
  have ex := atO_get hx
  unfold idxD FirstAt
  rw [ex]
  have hex : ∃ y ∈ l, (dt y == dt x) = true := ⟨x, List.mem_of_getElem? hx, by simp⟩
  cases h : l.findIdx? (fun y => dt y == dt x) with
  | none =>
    rw [List.findIdx?_eq_none_iff] at h
    have := h x (List.mem_of_getElem? hx)
    simp at this
  | some i =>
    obtain ⟨hi, h1, h2⟩ := List.findIdx?_eq_some_iff_getElem.1 h
    show (i : Int) = (k : Int) ↔ _
    constructor
    · intro e
      obtain rfl : i = k := by omega
      refine ⟨hk, fun j hj e => ?_⟩
      have := h2 j hj
      rw [atO_get (List.getElem?_eq_getElem (by omega : j < l.length))] at e
      simp [e] at this
    · rintro ⟨_, hf⟩
      have hle : i ≤ k := by
        rcases Nat.lt_or_ge k i with g | g
        · have := h2 k g
          rw [List.getElem?_eq_getElem hk] at hx
          cases hx
          simp at this
        · exact g
      rcases Nat.lt_or_ge i k with g | g
      · have := hf i g
        rw [atO_get (List.getElem?_eq_getElem hi)] at this
        exact absurd (by simpa using h1) this
      · omega
theorem idx_some {l : List OC} {k : Nat} {x : OC} (hx : l[k]? = some x) : ∃ q : Nat, idxD l (dt x) = (q : Int) := by
  have h : idxD l (dt x) ≠ -1 := idx_mem.2 (List.mem_map.2 ⟨x, List.mem_of_getElem? hx, rfl⟩)
  unfold idxD at *
  cases h2 : l.findIdx? (fun y => dt y == dt x) with
  | none => rw [h2] at h; exact absurd rfl h
  | some i => exact ⟨i, rfl⟩
theorem PlacesAt.walks {n₀ : Nat} {w w' : World} {b : Nat} {l : List OC} (h : PlacesAt w b l) (hB : KeepsWalks w w') : PlacesAt w' b l := by
  obtain ⟨n, D, ⟨es, clock, h1, h2⟩, r⟩ := h
  exact ⟨n, D, ⟨es, clock, hB.same b _ h1 rfl, h2⟩, r⟩
theorem grown_of_below {W W' : World} (h : Below W.heap.size W W') : W.grownBy W' none := ⟨h.os, h.tape, h.output, h.size, fun k hk _ => h.block k hk⟩
theorem order_firsts (a : Option Addr) (len cp : Nat) (w : World) :
    Calls Tryd.prog 58 #[.slice a len cp] w fun e w' => e = .returned (.func (.func 74) #[] #[.pointer (some ⟨w.heap.size, 0, none⟩)]) ∧ w' = w.alloc (.cells #[.slice a len cp] 22) := by
  go_enter Tryd.func58, Tryd.ntmps58
  go_wp2
  go_ret
  exact ⟨rfl, rfl⟩
set_option maxHeartbeats 2000000 in
theorem firsts_stops (n : Nat) (hn : 2 ≤ n) (g : Nat) (v : Value) (l : List OC) (wB w : World) (hg : wB.heap[g]? = some (.cells #[v] 22 (0, 0))) (hv : OpsV wB v l) (hl : l.length ≤ 100000) (hbw : Below wB.heap.size wB w) :
    SeqStopsK Fence.wide n Tryd.prog 74 #[.pointer (some ⟨g, 0, none⟩)] encI (KpN wB.heap.size) (fun xs => xs = firstsM l l.length) (fun _ => True) l.length w := by
  intro lp J Jx W hW hJ hJx hY h0
  obtain ⟨a, len, cp, rfl, hI⟩ := hv
  have HN := hid (show len = l.length from hI.1.symm)
  have hm : len ≤ 9223372036854775807 := Nat.le_trans hI.2.1 hI.2.2.1
  have hbW : Below wB.heap.size wB W := hbw.trans (hW.mono hbw.size)
  have HBW := hid hbW
  have HI := hid hI
  have HL := hid hl
  have hgW : W.cell? ⟨g, 0, none⟩ = some (.slice a len cp) := (cell_of_heap (heap_keep hg hbW)).trans rfl
  have hpl := fun V (hV : Below wB.heap.size wB V) => places_Of (.slice a len cp) l V ⟨a, len, cp, rfl, hI.keep hV⟩ hl
  have HP := hid (hpl W hbW)
  have HG := hid hg
  clear hl hI hbW hbw hpl hg
  refine callsIn_of_wp Tryd.func74 rfl trivial ?_ rfl
  simp only [Tryd.ntmps74, List.size_toArray, List.length_cons, List.length_nil, Nat.reduceAdd, Nat.reduceSub, Array.replicate_succ, Array.replicate_zero, List.push_toArray, List.append_toArray, List.nil_append, List.cons_append]
  refine wpIn_wide.2 ?_
  go_upto_region 1 with (go_at_call 39; refine HP.out.mono ?_; rintro e w1 ⟨b, rfl, hb, hp, hB1⟩; have HPB := hid (And.intro hb (And.intro hp hB1)); clear hb hp hB1)
  have hg1 : w1.cell? ⟨g, 0, none⟩ = some (.slice a len cp) := (cell_of_heap (heap_keep HG.out (HBW.out.trans (HPB.out.2.2.mono HBW.out.size)))).trans rfl
  clear hgW
  go_wp2
  go_loopw [10] (fun i wr => ∃ k : Nat, k ≤ len ∧ i = .int .i64 (k : Nat) ∧ Hid (J (firstsM l k) wr) ∧ Hid (PlacesAt wr b l) ∧ Hid (Below wB.heap.size wB wr)) (fun i _ => len - (intOf i).toNat)
  case atStart =>
    exact ⟨0, by omega, rfl, hid (hJ _ W w1 none h0 (grown_of_below HPB.out.2.2) (fun r h => (by cases h))), hid HPB.out.2.1, hid (HBW.out.trans (HPB.out.2.2.mono HBW.out.size))⟩
  case round =>
    clear hg1 h0
    obtain ⟨k, hk, rfl, HJ, HPL, HB⟩ := hrel
    have HJJ := hid hJ
    have HJX := hid hJx
    have HY := hid hY
    clear hJ hJx hY
    by_cases hlt : k < len
    · cases a with
      | none => have := HI.out.none_len; omega
      | some ad =>
        obtain ⟨o, cl', hx, hok, hcl, hin⟩ := (HI.out.keep HB.out).at k hlt
        have hpl := HPL.out.lt
        have hkey := keyOf_dot (OpIn.dok hok)
        have HX := hid (And.intro hx (And.intro hin hok))
        have hone := hcl.oneCell
        have h1 : (k : Int) < (len : Int) := by omega
        clear hx hcl hin hok
        go_upto_region 4 with (first
          | (refine load_opIn _ rfl rfl (ad.add (k * 29)) rfl o HX.out.2.1 ?_)
          | (refine wpList_store_row rfl _ _ _ rfl wr.heap.size (oc o) rfl rfl 50 (oc zeroO) ?_ (opSize _) rfl (oneO _ hone) ?_; (focus exact heap_alloc_last' _ _); rw [World.setRow_alloc_new]))
        refine gen_code (fun W => OpAt W wr.heap.size o ∧ Below wr.heap.size wr W) ⟨opAt_new _ _, below_al _ _⟩ ?_
        rintro W3 ⟨g1, g4⟩
        have c0 := g1.c0
        have c1 := g1.c1
        obtain ⟨nn, D, hown, hnn, hK⟩ := HPL.out.keep g4
        have hat := hK.at_ (o.r, o.n) (OpIn.dok HX.out.2.2)
        have HO := hid (And.intro hown hkey)
        have hjk := HJJ.out _ wr W3 none HJ.out (grown_of_below g4) (fun r h => (by cases h))
        have HJ3 := hid hjk
        have HB3 := hid (HB.out.trans (g4.mono HB.out.size))
        have HP3 := hid (show PlacesAt W3 b l from ⟨nn, D, hown, hnn, hK⟩)
        clear g1 g4 hown hnn hK hkey hone hjk hpl
        obtain ⟨q, hq⟩ := idx_some HX.out.1
        have hdx : dt (o, cl') = (o.r, o.n) := rfl
        rw [hdx] at hq
        rw [hq, if_neg (by omega)] at hat
        have HAT := hid hat
        clear hat
        by_cases hf : FirstAt l k
        · have hqk := (first_iff HX.out.1).2 hf
          rw [hdx, hq] at hqk
          obtain rfl : q = k := by omega
          have HF := hid hf
          have HQ := hid hq
          clear hf hq hqk hdx
          refine (wpIn_wide (n := n)).1 ?_
          gi_wp2_with (gi_at_lookup; refine wpListIn_lookup_own_int _ rfl _ _ 78 rfl 46 3 .i64 dotKeyed Tryd.underlying78 Tryd.underlying3 (Tryd.zeroValue3 _) b nn D rfl HO.out.1 _ _ rfl HO.out.2 ?_; intro c hc hwc; obtain rfl : c = (q : Int) := (by have h := hc.symm.trans HAT.out; simpa using h); clear hc hwc)
          obtain ⟨fn, tmps, assign, body, hy, hR⟩ := HY.out _ q W3 HJ3.out (by have := firsts_len l q; have := HN.out; omega)
          simp only [encI] at hy
          rw [hy]
          gi_wp2
          refine ⟨fun h => (by cases h), hR.mono ?_⟩
          rintro e W' (⟨rfl, hj, hkp⟩ | ⟨rfl, hj⟩)
          · rw [← firsts_yes HF.out] at hj
            have HJ4 := hid hj
            have HK := hid hkp
            clear hj hkp hy hR c0 c1
            gi_wp2
            go_wp2
            go_roundw
            case rel => exact ⟨q + 1, by omega, by go_num, HJ4, hid (PlacesAt.walks (n₀ := 0) HP3.out HK.out.2), hid (HB3.out.trans HK.out.1)⟩
            case measure => exact meas1 hlt
          · have HJ4 := hid hj
            clear hj hy hR c0 c1
            gi_wp2
            go_wp2
            first | go_end0 | ((try simp only [Exit.inBlock, Exit.then]); refine bodyPost_ret (results_none rfl _ _ _) rfl ?_)
            exact ⟨⟨_, rfl⟩, .inr ⟨_, trivial, HJ4.out⟩⟩
        · have hqk : ¬ (q : Int) = (k : Int) := fun e => hf ((first_iff HX.out.1).1 (by rw [hdx, hq]; exact e))
          have hqb : ((q : Int) == (k : Int)) = false := by simp; omega
          have HF := hid hf
          have HQ := hid hq
          clear hf hq hqk hdx
          go_wp2_with (at_lookup; refine wpList_lookup_own_int _ rfl _ _ 78 rfl 46 3 .i64 dotKeyed Tryd.underlying78 Tryd.underlying3 (Tryd.zeroValue3 _) b nn D rfl HO.out.1 _ _ rfl HO.out.2 ?_; intro c hc hwc; obtain rfl : c = (q : Int) := (by have h := hc.symm.trans HAT.out; simpa using h); clear hc hwc)
          go_roundw
          case rel => exact ⟨k + 1, by omega, by go_num, by rw [firsts_no HF.out]; exact HJ3, HP3, HB3⟩
          case measure => exact meas1 hlt
    · obtain rfl : k = len := by omega
      have hkl : k = l.length := HN.out
      have HJ4 := hid (show J (firstsM l l.length) wr by rw [← hkl]; exact HJ.out)
      clear hkl
      go_wp2
      first | go_end0 | ((try simp only [Exit.inBlock, Exit.then]); refine bodyPost_ret (results_none rfl _ _ _) rfl ?_)
      exact ⟨⟨_, rfl⟩, .inl ⟨_, rfl, HJ4.out⟩⟩
end Go.Proofs.YtfnmekmgjcjglaaDoor.V
namespace Go.Proofs.YtfnmekmgjcjglaaDoor.V
set_option linter.unusedVariables false
set_option linter.unusedSimpArgs false
set_option maxRecDepth 100000
open Go Go.RowKit Go.Maps Wire
set_option maxRecDepth 100000
set_option linter.unusedVariables false
set_option linter.unusedSimpArgs false
open Go.Sort (swp PermIn SortedIn SWO)
attribute [local go_sem] Oper.semAt_some
theorem int_info : (Tryd.prog.info? 3).map (fun i => (i.zero, i.size, i.bytes)) = some (some (.int .i64 0), 1, 8) := by kernel_rfl
/-- Cells of places. -/
def cellsN (l : List Nat) : List Value := l.map fun i => .int .i64 (i : Nat)
abbrev seqV (g : Nat) : Value := .func (.func 74) #[] #[.pointer (some ⟨g, 0, none⟩)]
set_option maxHeartbeats 2000000 in
theorem append_seq (n : Nat) (hn : 4 ≤ n) (g : Nat) (v : Value) (l : List OC) (w : World) (hg : w.heap[g]? = some (.cells #[v] 22 (0, 0))) (hv : OpsV w v l) (hl : l.length ≤ 100000) :
    CallsIn Fence.wide n Tryd.prog 80 #[.slice none 0 0, seqV g] w fun e w' => ∃ v, e = .returned v ∧ w'.ownsRow w.heap.size 3 1 v (firstsM l l.length).length (cellsN (firstsM l l.length)) ∧ Below w.heap.size w w' := by
  obtain ⟨i0, hi, hz0, hz1, hz2⟩ := info_parts int_info
  refine callsIn_of_wp_marks Tryd.func80 rfl trivial ?_ rfl
  simp only [Tryd.ntmps80, List.size_toArray, List.length_cons, List.length_nil, Nat.reduceAdd, Nat.reduceSub, Array.replicate_succ, Array.replicate_zero, List.push_toArray, List.append_toArray, List.nil_append, List.cons_append]
  gi_wp2
  have q0 : Boxed (w.alloc (.cells #[.slice none 0 0] 99)) w.heap.size 99 (.slice none 0 0) := Boxed.new _ _ _
  have hB0 : Below w.heap.size w (w.alloc (.cells #[.slice none 0 0] 99)) := below_al _ _
  have hsz : (w.alloc (.cells #[.slice none 0 0] 99)).heap.size = w.heap.size + 1 := by simp
  obtain ⟨W0, hW0⟩ : ∃ W0, w.alloc (.cells #[.slice none 0 0] 99) = W0 := ⟨_, rfl⟩
  rw [hW0] at q0 hB0 hsz ⊢
  clear hW0
  refine wpIn_rangeFunc_ownF rfl (by omega) (gf := 74) (lb := #[.pointer (some ⟨g, 0, none⟩)]) rfl trivial (enters_of Tryd.func74 (by kernel_rfl) rfl)
    (firsts_stops (n - 1) (by omega) g v l w W0 hg hv hl hB0) (fun h k => ⟨h.1.trans k.1, h.2.trans k.2⟩)
    (fun W j o o' hj ho hc hw => ⟨⟨rfl, rfl, rfl, by simp [World.putObj], fun k hk => World.putObj_heap_other (by omega)⟩, KeepsWalks.putObj _ ho hw⟩)
    (Below.refl _ _) (fun _ => rfl)
    (fun pre W => (∃ v, Boxed W w.heap.size 99 v ∧ W.ownsRow w.heap.size 3 1 v pre.length (cellsN pre) ∧ True) ∧ Below w.heap.size w W ∧ w.heap.size + 1 ≤ W.heap.size)
    (fun _ _ _ => False)
    (OwnFrom.and (Own.from (holdsRow_own w.heap.size w.heap.size 99 3 1 (fun pre => pre.length) (fun pre : List Nat => cellsN pre) (fun _ _ => True)) _) (OwnFrom.and (ownFrom_below (Nat.le_refl _) (by omega)) (fun _ _ _ _ h hg _ => Nat.le_trans h hg.size)))
    (fun _ _ _ _ _ hs _ _ => hs)
    ⟨⟨_, q0, World.ownsRow_nil _ _ _ _, trivial⟩, hB0, by omega⟩
    (fun x => { tmps := #[.slice none 0 0, seqV g, .pointer (some ⟨w.heap.size, 0, none⟩), undef, .slice none 0 0, .int .i64 (x : Nat), seqV g, .int .i64 (x : Nat), undef, undef, undef, undef, undef], defers := [] })
    ?assign ?body ?done ?stop
  case assign =>
    rintro lp x W K hK
    unfold encI
    gi_wp2
    exact hK
  case body =>
    rintro lp pre x W ⟨⟨v, hv, hrow, _⟩, hB, hW4⟩ hlt
    have hc := hv.cell
    have hpl : pre.length ≤ 900000 := by omega
    gi_wp2_with (gi_at_builtin; refine wpListIn_append_own _ rfl _ _ 99 rfl w.heap.size 3 i0 (.int .i64 0) 1 8 Tryd.underlying99 hi hz0 hz1 hz2 rfl (by decide) _ _ _ rfl (hrow.alloc _) ⟨W.heap.size, 0, none⟩ 1 1 [.int .i64 (x : Nat)] rfl rfl (cell_one_new _ _ _) (by intro u hu; simp at hu; subst hu; rfl) (by unfold maxLen; omega) (by omega) (by simp; omega) ?_; intro v' w1 hown' hgrow _; obtain ⟨g', cap', rfl⟩ := ownsRow_succ hown'; obtain ⟨hv1, hv2, hr2, hk2, hb2⟩ := hv.appended (n₀ := w.heap.size) (by decide) hrow hB.size (Nat.le_refl _) hown' hgrow; have hc1 := hv1.cell; have hf1 := hv1.frozen)
    refine ⟨hk2, ⟨hb2, hk2.walks⟩, ⟨_, hv2, ?_, trivial⟩, hB.trans hb2, ?_⟩
    · rw [List.length_append]
      rw [show cellsN (pre ++ [x]) = cellsN pre ++ [.int .i64 (x : Nat)] by simp [cellsN]]
      exact hr2
    · have := hk2.size
      omega
  case done =>
    rintro D ys W hD rfl ⟨⟨v, hv, hrow, _⟩, hB, hW4⟩ hK
    have hc := hv.cell
    have hne : some D ≠ v.ownBlock := by
      rcases hrow.2 with ⟨rfl, _⟩ | ⟨g', cap, cur, rfl, _, hgb, _⟩
      · simp [Value.ownBlock]
      · intro e'
        obtain rfl : D = g' := by simpa [Value.ownBlock] using e'
        rw [hgb] at hK
        cases hK
    have hr3 := hrow.kept (grownBy_putObj' W D (.deferred none)) (.inr hne.symm)
    gi_wp2
    refine ⟨by simp, .inl ⟨_, _, rfl, run_takeDeferred hK, ?_⟩⟩
    have hbp : Below w.heap.size W (W.putObj D (.deferred none)) := ⟨rfl, rfl, rfl, by simp [World.putObj], fun k hk => World.putObj_heap_other (by omega)⟩
    refine ⟨v, ?_, v, rfl, hr3, hB.trans hbp⟩
    simp [results, Tryd.f80, go_sem]
  case stop =>
    rintro D c pre W _ _ h _
    exact h.elim
theorem collect_seq (g : Nat) (v : Value) (l : List OC) (w : World) (hg : w.heap[g]? = some (.cells #[v] 22 (0, 0))) (hv : OpsV w v l) (hl : l.length ≤ 100000) :
    Calls Tryd.prog 72 #[seqV g] w fun e w' => ∃ v, e = .returned v ∧ w'.ownsRow w.heap.size 3 1 v (firstsM l l.length).length (cellsN (firstsM l l.length)) ∧ Below w.heap.size w w' := by
  have hc := callsIn_wide.1 (append_seq 5 (by omega) g v l w hg hv hl)
  have HG := hid (And.intro hg (And.intro hv hl))
  clear hg hv hl
  go_enter Tryd.func72, Tryd.ntmps72
  go_wp2_with (go_at_call 80; refine hc.mono ?_; rintro e w1 ⟨v1, rfl, hr⟩; have HR := hid hr; clear hr)
  go_ret
  exact ⟨v1, rfl, HR.out⟩
/-- A slice that reads as these places. -/
def IntsV (w : World) (v : Value) (s : List Nat) : Prop := (v = .slice none 0 0 ∧ s = []) ∨ ∃ (blk cap : Nat) (cs : Array Value), v = .slice (some ⟨blk, 0, none⟩) s.length cap ∧ w.heap[blk]? = some (.cells cs 3 (0, 0)) ∧ ∀ (i x : Nat), s[i]? = some x → cs[i]? = some (Value.int .i64 (x : Nat))
theorem IntsV.keep {w w' : World} {v : Value} {s : List Nat} (h : IntsV w v s) (hB : Below w.heap.size w w') : IntsV w' v s := by
  rcases h with h | ⟨blk, cap, cs, h1, h2, h3⟩
  · exact .inl h
  · exact .inr ⟨blk, cap, cs, h1, heap_keep h2 hB, h3⟩
/-- The places, put in order. -/
structure Ranked (l : List OC) (s : List Nat) : Prop where
  perm : s.Perm (firstsM l l.length)
  inc : s.Pairwise fun i j => ltO (atO l i) (atO l j)
theorem ranked_of {l : List OC} {d d' : Array Nat} (hd : d.toList = firstsM l l.length) (hp : PermIn 0 d.size d d') (hs : SortedIn (ltC (cO l)) 0 d.size d') : Ranked l d'.toList := by
  have hpm := permIn_list hp (Nat.le_refl _)
  rw [hd] at hpm
  refine ⟨hpm, ?_⟩
  have hnd : d'.toList.Nodup := hpm.nodup_iff.2 (firsts_nodup _ _)
  have hf : ∀ i, i < d'.size → FirstAt l (gA d' i) := fun i hi => by
    have : gA d' i ∈ d'.toList := by rw [gA_get hi]; simp
    exact (firsts_mem.1 (hpm.mem_iff.1 this)).2
  rw [List.pairwise_iff_getElem]
  intro i j hi hj hij
  have hi' : i < d'.size := by simpa using hi
  have hj' : j < d'.size := by simpa using hj
  have e1 : d'.toList[i] = gA d' i := by rw [gA_get hi']; simp
  have e2 : d'.toList[j] = gA d' j := by rw [gA_get hj']; simp
  rw [e1, e2]
  have hn : ¬ ltO (atO l (gA d' j)) (atO l (gA d' i)) := ltC_not.1 (hs i j (Nat.zero_le _) hij (by rw [← hp.1]; exact hj'))
  by_cases e : dt (atO l (gA d' i)) = dt (atO l (gA d' j))
  · have hle := (hf i hi').2
    have hle2 := (hf j hj').2
    exfalso
    rcases Nat.lt_trichotomy (gA d' i) (gA d' j) with g | g | g
    · exact hle2 _ g e
    · have := gA_inj hnd hi' hj' g
      omega
    · exact hle _ g e.symm
  · rcases ltO_total e with g | g
    · exact g
    · exact absurd g hn
theorem find_atO {l : List OC} {x : OC} : l.find? (fun y => dt y == dt x) = some x ↔ ∃ i, FirstAt l i ∧ atO l i = x := by
  rw [List.find?_eq_some_iff_getElem]
  constructor
  · rintro ⟨_, i, hi, h1, h2⟩
    have e := atO_get (List.getElem?_eq_getElem hi)
    refine ⟨i, ⟨hi, fun j hj e' => ?_⟩, e.trans h1⟩
    have := h2 j hj
    rw [atO_get (List.getElem?_eq_getElem (by omega : j < l.length)), e, h1] at e'
    simp [e'] at this
  · rintro ⟨i, ⟨hi, hf⟩, e⟩
    have e2 := atO_get (List.getElem?_eq_getElem hi)
    refine ⟨by simp, i, hi, e2.symm.trans e, fun j hj => ?_⟩
    have := hf j hj
    rw [atO_get (List.getElem?_eq_getElem (by omega : j < l.length)), e] at this
    simp [this]
theorem Ranked.sortOf {l : List OC} {s : List Nat} (h : Ranked l s) : SortOf l (s.map (atO l)) := by
  refine ⟨List.pairwise_map.2 h.inc, fun x => ?_⟩
  rw [find_atO, List.mem_map]
  constructor
  · rintro ⟨i, hi, e⟩
    exact ⟨i, (firsts_mem.1 (h.perm.mem_iff.1 hi)).2, e⟩
  · rintro ⟨i, hi, e⟩
    exact ⟨i, h.perm.mem_iff.2 (firsts_mem.2 ⟨hi.1, hi⟩), e⟩
set_option maxHeartbeats 400000 in
theorem sorted_func (g : Nat) (a : Option Addr) (len cp : Nat) (l : List OC) (w : World) (hg : w.heap[g]? = some (.cells #[.slice a len cp] 22 (0, 0))) (hI : IsOps w a len cp l) (hl : l.length ≤ 100000) :
    Calls Tryd.prog 57 #[seqV g, .func (.func 59) #[.agg #[.slice a len cp]] #[]] w fun e w' => ∃ v s, e = .returned v ∧ IntsV w' v s ∧ Ranked l s ∧ Below w.heap.size w w' := by
  have hc := collect_seq g (.slice a len cp) l w hg ⟨a, len, cp, rfl, hI⟩ hl
  have HI := hid hI
  have HL := hid hl
  clear hg hI hl
  go_enter Tryd.func57, Tryd.ntmps57
  go_upto_region 2 with (go_at_call 72; refine hc.mono ?_; rintro e w1 ⟨v1, rfl, hr, hb⟩; have HR := hid hr; have HB := hid hb; clear hr hb)
  clear hc
  rcases HR.out.2 with ⟨rfl, h0⟩ | ⟨blk, cap, cur, rfl, hbk, hgb, hle, hcm, hcz, hcs⟩
  · have HZ := hid h0
    clear h0
    go_wp2_with (go_at_call 73; refine (sort_none _ _).mono ?_; rintro e w2 ⟨rfl, rfl⟩)
    go_ret
    refine ⟨_, [], rfl, .inl ⟨rfl, rfl⟩, ⟨?_, List.Pairwise.nil⟩, HB.out⟩
    rw [List.length_eq_zero_iff.1 HZ.out]
  · obtain ⟨d, hd⟩ : ∃ d : Array Nat, d.toList = firstsM l l.length := ⟨(firstsM l l.length).toArray, rfl⟩
    have hds : d.size = (firstsM l l.length).length := by rw [← hd]; simp
    have hsrt : Srt w blk (FirstAt l) d w1 := by
      refine ⟨⟨cur, hgb, fun i hi => ?_⟩, HB.out, hbk, fun i hi => ?_⟩
      · have h1 : (cellsN (firstsM l l.length))[i]? = some (.int .i64 (gA d i : Nat)) := by
          unfold cellsN
          rw [List.getElem?_map, ← hd, gA_get hi]
          rw [List.getElem?_eq_getElem (by simpa using hi)]
          simp
        rw [← hcs, List.getElem?_take] at h1
        split at h1
        · rw [← Array.getElem?_toList]; exact h1
        · cases h1
      · have : gA d i ∈ d.toList := by rw [gA_get hi]; simp
        rw [hd] at this
        exact (firsts_mem.1 this).2
    have hlen : d.size < 1000000000 := by have := firsts_len l l.length; have := HL.out; omega
    have hnd : d.toList.Nodup := by rw [hd]; exact firsts_nodup _ _
    have hcmp : CmpOK w (.agg #[.slice a len cp]) (FirstAt l) (cO l) := by
      cases a with
      | none =>
        have hl0 : l.length = 0 := by have h1 := HI.out.none_len; have h2 : l.length = len := HI.out.1; omega
        exact ⟨fun W _ i j hi => absurd hi.1 (by omega)⟩
      | some ad => exact ranking_compare l ad len cp w HI.out
    have hsf := sort_func (.agg #[.slice a len cp]) (cO l) (hid hcmp) (hid (str_ops l)) (firstsM l l.length).length cap (by omega) d hds hnd w1 hsrt
    have HD := hid (And.intro hd hds)
    clear hsrt hcmp hnd hd hds hlen hcs hcm hcz hgb hle hbk
    go_wp2_with (go_at_call 73; refine hsf.mono ?_; rintro e w2 ⟨rfl, d', hp, hs, hw⟩; have HW := hid (And.intro hp (And.intro hs hw)); clear hp hs hw)
    go_ret
    obtain ⟨hp, hs, hw⟩ := HW.out
    have hsz : d'.size = (firstsM l l.length).length := hp.1.trans HD.out.2
    refine ⟨_, d'.toList, rfl, ?_, ranked_of HD.out.1 (by rw [HD.out.2]; exact hp) (by rw [HD.out.2]; exact hs), hw.below⟩
    obtain ⟨cs, hc, hx⟩ := hw.row
    have el : d'.toList.length = (firstsM l l.length).length := (Array.length_toList).trans hsz
    refine .inr ⟨blk, cap, cs, by rw [el]; rfl, hc, fun i x hxi => ?_⟩
    have hi : i < d'.size := by have := (List.getElem?_eq_some_iff.1 hxi).1; simpa using this
    rw [hx i hi, gA_get hi]
    rw [List.getElem?_eq_getElem (by simpa using hi)] at hxi
    have e : d'[i] = x := by simpa using hxi
    rw [e]
end Go.Proofs.YtfnmekmgjcjglaaDoor.V
namespace Go.Proofs.YtfnmekmgjcjglaaDoor.V
set_option linter.unusedVariables false
set_option linter.unusedSimpArgs false
set_option maxRecDepth 100000
open Go Go.RowKit Go.Maps Wire
set_option maxRecDepth 100000
set_option linter.unusedVariables false
set_option linter.unusedSimpArgs false
theorem make_ops (n : Nat) (hn : n ≤ 100000) (W : World) : ∃ cur : Array Value, cur.size = n * 29 ∧ (Instr.makeSlice 22 (.int .i64 (n : Int)) (.int .i64 (n : Int))).run Tryd.prog W = .ok (.slice (some ⟨W.heap.size, 0, none⟩) n n) (W.alloc (.cells cur 50)) := by
  obtain ⟨i0, hi, hz0, hz1, hz2⟩ := info_parts infoOp
  have h := run_makeSlice (P := Tryd.prog) W 22 50 i0 (.agg (oc zeroO)) Tryd.underlying22 hi hz0 .i64 .i64 (n : Int) (n : Int) (by omega) (Int.le_refl _) (by rw [hz1]; simp; omega) (by rw [hz2]; omega) (by omega)
  rw [hz1] at h
  simp only [Int.toNat_natCast] at h
  exact ⟨_, size_madeCells _ _, h⟩
/-- A value of an operation stored in the middle of a row. -/
theorem store_opMid {ops : Array Oper} {rest : List Oper} {op : Oper} {a : Act} {w : World} {Q : Exit → Act → World → Prop} (hgd : op.guard = none) (x y : Operand) (ho : op.op = .store 50 x y)
    (b o : Nat) (c : OpM) (cur : Array Value) (hx : a.eval x = .pointer (some ⟨b, o, none⟩)) (hy : a.eval y = .agg (oc c)) (hg : w.heap[b]? = some (.cells cur 50 (0, 0))) (hle : o + 29 ≤ cur.size) (h1 : c.lv.oneCell' = true) (R : Array Value) (hR : R = (cur.toList.take o ++ (oc c).toList ++ cur.toList.drop (o + 29)).toArray)
    (h : wpList Tryd.prog ops Q rest (a.put op.dst undef) (w.setRow b R)) : wpList Tryd.prog ops Q (op :: rest) a w :=
  wpList_plain hgd fun K hK => by
    subst hR
    have hs := run_storeCells_at (P := Tryd.prog) b o 50 (oc c).toList 0 cur w hg (by simp [oc_size]; omega) (one_op c h1)
    have hi : (Tryd.prog.info? 50).map (·.size) = some 29 := by kernel_rfl
    have hsv : (storeVar 50 ⟨b, o, none⟩ (.agg (oc c))).run Tryd.prog w = .ok () (w.setRow b (cur.toList.take o ++ (oc c).toList ++ cur.toList.drop (o + 29)).toArray) := by
      cases hq : Tryd.prog.info? 50 with
      | none => simp [hq] at hi
      | some i =>
        have hsz : (oc c).size = i.size := by simp [hq] at hi; rw [oc_size]; omega
        have hl : (oc c).toList.length = 29 := by simp [oc_size]
        rw [hl] at hs
        simp only [Nat.add_zero] at hs
        simp [storeVar, sizeOf, typeInfo, hq, Value.cells, hsz, hs]
    unfold Oper.wp execOp
    simp only [ho, hx, hy, Instr.storeAt, Instr.sureAddr, Sem.run_bind, Sem.run_pure, Result.andThen_ok, hsv]
    exact hK _ _ h
theorem heap_row {w : World} {b : Nat} {cs cs' : Array Value} {t : TypeId} (h : w.heap[b]? = some (.cells cs t (0, 0))) : (w.setRow b cs').heap[b]? = some (.cells cs' t (0, 0)) := setRow_heap w b cs cs' t _ h
/-- A row that is filled from its head: these first, then the rest. -/
structure Fill (B : Nat) (w : World) (b n : Nat) (r : List OC) : Prop where
  row : ∃ cur : Array Value, w.heap[b]? = some (.cells cur 50 (0, 0)) ∧ cur.size = n * 29 ∧ cur.toList.take (r.length * 29) = flatO r
  all : ∀ x ∈ r, okO x.1 ∧ ClaimsB B w x.1.lv x.2
  hb : B ≤ b
theorem Fill.keep {B : Nat} {w w' : World} {b n : Nat} {r : List OC} (h : Fill B w b n r) (hB : B ≤ w.heap.size) (hb : Below w.heap.size w w') : Fill B w' b n r :=
  ⟨by obtain ⟨cur, h1, h2, h3⟩ := h.row; exact ⟨cur, heap_keep h1 hb, h2, h3⟩, fun x hx => ⟨(h.all x hx).1, (h.all x hx).2.keep hB hb⟩, h.hb⟩
theorem Fill.own {B : Nat} {w : World} {b n : Nat} {r : List OC} (h : Fill B w b n r) (hr : r.length = n) (hn : n ≤ 100000) : OwnO B w (.slice (some ⟨b, 0, none⟩) n n) r := by
  obtain ⟨cur, h1, h2, h3⟩ := h.row
  refine ⟨⟨by rw [flatO_length], .inr ⟨b, n, cur, by rw [hr], h.hb, h1, by omega, by unfold maxLen; omega, h2, h3⟩⟩, h.all⟩
theorem Fill.put {B : Nat} {w : World} {b n : Nat} {r : List OC} (h : Fill B w b n r) (hlt : r.length < n) {x : OC} (hx : okO x.1) (hc : ClaimsB B w x.1.lv x.2) {cur : Array Value} (hcur : w.heap[b]? = some (.cells cur 50 (0, 0))) :
    r.length * 29 + 29 ≤ cur.size ∧ Fill B (w.setRow b (cur.toList.take (r.length * 29) ++ (oc x.1).toList ++ cur.toList.drop (r.length * 29 + 29)).toArray) b n (r ++ [x]) := by
  obtain ⟨cur2, h1, h2, h3⟩ := h.row
  have e : cur2 = cur := by rw [hcur] at h1; cases h1; rfl
  subst e
  have hle : r.length * 29 + 29 ≤ cur2.size := by rw [h2]; omega
  have hl2 : cur2.toList.length = n * 29 := by simpa using h2
  refine ⟨hle, ⟨_, heap_row hcur, ?_, ?_⟩, fun y hy => ?_, h.hb⟩
  · simp only [List.size_toArray, List.length_append, List.length_take, List.length_drop, hl2, Array.length_toList, oc_size]
    omega
  · rw [flatO_append, flatO_one, ← h3, List.length_append]
    have e1 : (cur2.toList.take (r.length * 29) ++ (oc x.1).toList).length = (r.length + [x].length) * 29 := by
      simp only [List.length_append, List.length_take, hl2, Array.length_toList, oc_size, List.length_cons, List.length_nil]
      omega
    rw [← e1]
    exact List.take_left
  · have hty : ∀ {v : Value} {l : List Claim}, ClaimsB B w v l → ClaimsB B (w.setRow b (cur2.toList.take (r.length * 29) ++ (oc x.1).toList ++ cur2.toList.drop (r.length * 29 + 29)).toArray) v l := fun h' =>
      h'.typ (fun k hk => row_ne rfl (by have := h.hb; omega)) (fun k cs hc => by
        by_cases e : b = k
        · subst e; rw [hcur] at hc; cases hc
        · exact row_ne hc e)
    rcases List.mem_append.1 hy with hy | hy
    · exact ⟨(h.all y hy).1, hty (h.all y hy).2⟩
    · obtain rfl := List.mem_singleton.1 hy
      exact ⟨hx, hty hc⟩
theorem IntsV.form {w : World} {v : Value} {s : List Nat} (h : IntsV w v s) : ∃ p cap, v = .slice p s.length cap := by
  rcases h with ⟨rfl, rfl⟩ | ⟨blk, cap, cs, h1, _⟩
  · exact ⟨none, 0, rfl⟩
  · exact ⟨_, _, h1⟩
theorem IntsV.get {w : World} {p : Option Addr} {n cap : Nat} {s : List Nat} (h : IntsV w (.slice p n cap) s) {k x : Nat} (hx : s[k]? = some x) : ∃ blk, p = some ⟨blk, 0, none⟩ ∧ w.cell? ⟨blk, k, none⟩ = some (.int .i64 (x : Nat)) := by
  rcases h with ⟨_, rfl⟩ | ⟨blk, cap', cs, h1, h2, h3⟩
  · simp at hx
  · cases h1
    exact ⟨blk, rfl, by rw [cell_of_heap h2]; exact h3 k x hx⟩
theorem IntsV.row {w : World} {v : Value} {s : List Nat} (h : IntsV w v s) {b : Nat} {cur : Array Value} (hc : w.heap[b]? = some (.cells cur 50 (0, 0))) (R : Array Value) : IntsV (w.setRow b R) v s := by
  rcases h with h | ⟨blk, cap, cs, h1, h2, h3⟩
  · exact .inl h
  · refine .inr ⟨blk, cap, cs, h1, row_ne h2 (fun e => ?_), h3⟩
    subst e
    rw [hc] at h2
    cases h2
set_option maxHeartbeats 1000000 in
theorem order_Sort (v : Value) (l : List OC) (W0 : World) (hv : OpsV W0 v l) (hl : l.length ≤ 100000) (hcl : ∀ x ∈ l, x.2.length ≤ 1000) :
    Calls Tryd.prog 34 #[v] W0 fun e w' => ∃ u s s', e = .returned u ∧ OwnO W0.heap.size w' u s' ∧ SortOf l s ∧ s'.map core = s.map core ∧ Below W0.heap.size W0 w' := by
  obtain ⟨a, len, cp, rfl, hI⟩ := hv
  have HN := hid (show len = l.length from hI.1.symm)
  have hm : len ≤ 9223372036854775807 := Nat.le_trans hI.2.1 hI.2.2.1
  have HI := hid hI
  have HL := hid hl
  have HC := hid hcl
  have hf := order_firsts a len cp W0
  have hsf := sorted_func W0.heap.size a len cp l (W0.alloc (.cells #[.slice a len cp] 22)) (heap_alloc_last' _ _) (hI.keep (below_al _ _)) hl
  clear hI hl hcl
  go_enter Tryd.func34, Tryd.ntmps34
  go_upto_region 2 with (first
    | (go_at_call 58; refine hf.mono ?_; rintro e w1 ⟨rfl, rfl⟩)
    | (go_at_call 57; refine hsf.mono ?_; rintro e w2 ⟨v2, s, rfl, hiv, hrk, hb2⟩; have HV := hid hiv; have HR := hid hrk; have HB2 := hid (below_next (below_al _ _) hb2); clear hiv hrk hb2))
  clear hf hsf
  obtain ⟨p, cap, rfl⟩ := HV.out.form
  have hsl : s.length ≤ 100000 := by have h1 := HR.out.perm.length_eq; have h2 := firsts_len l l.length; have := HL.out; omega
  obtain ⟨n, hn⟩ : ∃ n, n = s.length := ⟨_, rfl⟩
  rw [← hn] at HV hsl ⊢
  have HNS := hid hn
  clear hn
  obtain ⟨cur, hcz, hmk⟩ := make_ops n hsl w2
  go_wp2
  obtain ⟨b, hbE⟩ : ∃ b, b = w2.heap.size := ⟨_, rfl⟩
  rw [← hbE]
  have hfill0 : Fill W0.heap.size (w2.alloc (.cells cur 50)) b n [] := ⟨⟨cur, by rw [hbE]; exact heap_alloc_last' _ _, hcz, by simp [flatO]⟩, by simp, by rw [hbE]; exact HB2.out.size⟩
  have HF0 := hid hfill0
  have HB3 := hid (HB2.out.trans ((below_al w2 (.cells cur 50)).mono HB2.out.size))
  have HVB := hid (HV.out.keep (below_al w2 (.cells cur 50)))
  clear hmk hcz hfill0 hbE HV
  generalize w2.alloc (.cells cur 50) = W3 at HF0 HB3 HVB ⊢
  go_loopw [18] (fun i wr => ∃ (k : Nat) (r : List OC), k ≤ n ∧ i = .int .i64 (k : Nat) ∧ r.length = k ∧ Hid (r.map core = ((s.map (atO l)).take k).map core) ∧ Hid (Fill W0.heap.size wr b n r) ∧ Hid (Below W0.heap.size W0 wr) ∧ Hid (Below W3.heap.size W3 wr ∨ IntsV wr (.slice p n cap) s)) (fun i _ => n - (intOf i).toNat)
  case atStart => exact ⟨0, [], by omega, rfl, rfl, rfl, HF0, HB3, hid (.inr HVB.out)⟩
  case round =>
    obtain ⟨k, r, hk, rfl, hrl, HCO, HF, HB, HI2⟩ := hrel
    have HI3 := hid (show IntsV wr (.slice p n cap) s from HI2.out.elim (fun h => HVB.out.keep h) id)
    clear HI2
    by_cases hlt : k < n
    · have hks : k < s.length := by have := HNS.out; omega
      obtain ⟨x, hx⟩ : ∃ x, s[k]? = some x := ⟨_, List.getElem?_eq_getElem hks⟩
      obtain ⟨blk, rfl, hcell⟩ := HI3.out.get hx
      have hfx := (firsts_mem.1 (HR.out.perm.mem_iff.1 (List.mem_of_getElem? hx))).2
      have hxl : x < len := by have := hfx.1; have := HN.out; omega
      cases a with
      | none => have := HI.out.none_len; omega
      | some ad =>
        obtain ⟨o, cl', hox, hok, hcl, hin⟩ := (HI.out.keep HB.out).at x hxl
        have hcp := order_copyOf (o, cl') wr hcl (HC.out _ (List.mem_of_getElem? hox))
        have HX := hid (And.intro hx (And.intro hox (And.intro hok hin)))
        have hi1 : (k : Int) < (n : Int) := by omega
        have hi2 : (x : Int) < (len : Int) := by omega
        clear hx hox hok hin hcl hfx
        have hBr : W0.heap.size ≤ wr.heap.size := HB.out.size
        obtain ⟨kk, hkk⟩ : ∃ kk, kk = k * 29 := ⟨_, rfl⟩
        have HKK := hid hkk
        go_wp2_with (first
          | (refine load_opIn _ rfl rfl (ad.add (x * 29)) rfl o HX.out.2.2.2 ?_)
          | (go_at_call 60; refine hcp.mono ?_; rintro e w4 ⟨u, rfl, hu, huB, hB4⟩; have hone := hu.oneCell; have hf4 := HF.out.keep hBr hB4; obtain ⟨cur4, hc4, _⟩ := id hf4.row; obtain ⟨hle4, hf5⟩ := hf4.put (by rw [hrl]; exact hlt) (x := (setL o u, cl')) (ok_setL HX.out.2.2.1 u) (huB _) hc4; rw [hrl, ← hkk] at hle4 hf5; obtain ⟨R, hR⟩ : ∃ R, R = (cur4.toList.take kk ++ (oc (setL o u)).toList ++ cur4.toList.drop (kk + 29)).toArray := ⟨_, rfl⟩; rw [← hR] at hf5; have HRR := hid hR; clear hR; have HI4 := hid ((HI3.out.keep hB4).row hc4 R); have HU := hid hB4; have HF5 := hid hf5; clear hu huB hB4 hf4 hf5)
          | (refine store_opMid rfl _ _ rfl b kk (setL o u) cur4 (by rw [hkk]; rfl) rfl hc4 hle4 hone R HRR.out ?_))
        go_roundw
        case rel =>
          refine ⟨k + 1, r ++ [(setL o u, cl')], by omega, by go_num, by rw [List.length_append, hrl]; rfl, hid ?_, HF5, hid (Below.setRow (HB.out.trans (HU.out.mono hBr)) HF.out.hb _), hid (.inr HI4.out)⟩
          · have ht : (s.map (atO l)).take (k + 1) = (s.map (atO l)).take k ++ [(o, cl')] := by
              rw [List.take_add_one, List.getElem?_map, HX.out.1]
              show _ ++ [atO l x] = _
              rw [atO_get HX.out.2.1]
            rw [ht, List.map_append, List.map_append, HCO.out]
            rfl
        case measure => exact meas1 hlt
    · obtain rfl : k = n := by omega
      have ht : (s.map (atO l)).take k = s.map (atO l) := List.take_of_length_le (by rw [List.length_map]; have := HNS.out; omega)
      have HCO2 := hid (show r.map core = (s.map (atO l)).map core by rw [← ht]; exact HCO.out)
      clear ht
      go_wp2
      go_ret
      exact ⟨_, _, r, rfl, HF.out.own hrl hsl, HR.out.sortOf, HCO2.out, HB.out⟩
end Go.Proofs.YtfnmekmgjcjglaaDoor.V
