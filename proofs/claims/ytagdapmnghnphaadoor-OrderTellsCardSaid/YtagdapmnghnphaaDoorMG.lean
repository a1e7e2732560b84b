/-
  What a row knows: order.Known, the document's.
-/
import Derived.Test.YtagdapmnghnphaaDoorMF
namespace Go.Proofs.YtagdapmnghnphaaDoor.V
set_option linter.unusedVariables false
set_option linter.unusedSimpArgs false
set_option maxRecDepth 100000
open Go Go.RowKit Go.Maps Wire

theorem known_snoc (l : List OC) (x : OC) : knownM (l ++ [x]) = if x.1.r < 8 then upd (knownM l) x.1.r (max (knownM l x.1.r) x.1.n) else knownM l := by
  funext r
  by_cases h8 : x.1.r < 8
  · rw [if_pos h8]
    unfold knownM upd
    by_cases hr : r < 8
    · rw [if_pos hr, List.foldl_append]
      show topN r (l.foldl (topN r) 0) x = _
      by_cases e : x.1.r = r
      · subst e
        show (if x.1.r = x.1.r then max _ x.1.n else _) = _
        rw [if_pos rfl, if_pos rfl]
        show _ = max (if x.1.r < 8 then l.foldl (topN x.1.r) 0 else 0) x.1.n
        rw [if_pos h8]
      · show (if x.1.r = r then _ else l.foldl (topN r) 0) = _
        rw [if_neg e, if_neg (fun h => e h.symm)]
        show _ = if r < 8 then l.foldl (topN r) 0 else 0
        rw [if_pos hr]
    · rw [if_neg hr, if_neg (fun e => by omega)]
      show _ = if r < 8 then l.foldl (topN r) 0 else 0
      rw [if_neg hr]
  · rw [if_neg h8]
    unfold knownM
    by_cases hr : r < 8
    · rw [if_pos hr, if_pos hr, List.foldl_append]
      show topN r (l.foldl (topN r) 0) x = _
      show (if x.1.r = r then _ else l.foldl (topN r) 0) = _
      rw [if_neg (fun e => by omega)]
    · rw [if_neg hr, if_neg hr]
theorem known_lt {l : List OC} (h : ∀ x ∈ l, okO x.1) (r : Nat) : knownM l r < 4294967296 := by
  rcases known_or l r with e | ⟨x, hx, _, hn⟩
  · rw [e]; decide
  · rw [← hn]; exact (h x hx).n
theorem known_nil : knownM [] = zeroV := by funext r; unfold knownM zeroV; split <;> rfl
theorem ok_known {l : List OC} (h : ∀ x ∈ l, okO x.1) : okV (knownM l) := ⟨known_lt h, fun i hi => known_out l (by omega)⟩
theorem take_snocO {l : List OC} {k : Nat} {x : OC} (hx : l[k]? = some x) : l.take (k + 1) = l.take k ++ [x] := (take_snocC hx).symm
theorem known_step {l : List OC} {k : Nat} {x : OC} (hx : l[k]? = some x) : knownM (l.take (k + 1)) = if x.1.r < 8 then upd (knownM (l.take k)) x.1.r (max (knownM (l.take k) x.1.r) x.1.n) else knownM (l.take k) := by rw [take_snocO hx, known_snoc]

theorem oneVc (v : Vec) : (vc v).all (·.oneCell') = true := by simp [vc, Value.oneCell']
set_option maxHeartbeats 400000 in
theorem order_Known (v : Value) (l : List OC) (W0 : World) (hv : OpsV W0 v l) :
    Calls Tryd.prog 23 #[v] W0 fun e w' => e = .returned (.agg (vc (knownM l))) ∧ Below W0.heap.size W0 w' := by
  obtain ⟨a, n, cp, rfl, hI⟩ := hv
  have HN := hid (show n = l.length from hI.1.symm)
  have hm : n ≤ 9223372036854775807 := Nat.le_trans hI.2.1 hI.2.2.1
  have HI := hid hI
  clear hI
  go_enter Tryd.func23, Tryd.ntmps23
  go_upto_region 2 with (fail)
  refine gen_code (fun W => W.heap[W0.heap.size]? = some (.cells (vc zeroV) 25 (0, 0)) ∧ W.heap[W0.heap.size + 1]? = some (.cells (vc zeroV) 25 (0, 0)) ∧ Below W0.heap.size W0 W) ⟨heap_al (heap_alloc_last' _ _) _, last2 W0 _ _, below_al2 W0 _ _⟩ ?_
  rintro W ⟨h1, h2, hB⟩
  have HW := hid (And.intro h1 (And.intro h2 hB))
  clear h1 h2 hB
  go_wp2
  go_loopw [8] (fun i wr => ∃ k : Nat, k ≤ n ∧ i = .int .i64 k ∧ wr.heap[W0.heap.size]? = some (.cells (vc zeroV) 25 (0, 0)) ∧ wr.heap[W0.heap.size + 1]? = some (.cells (vc (knownM (l.take k))) 25 (0, 0)) ∧ Below W0.heap.size W0 wr) (fun i _ => n - (intOf i).toNat)
  case atStart => exact ⟨0, by omega, rfl, HW.out.1, by rw [List.take_zero, known_nil]; exact HW.out.2.1, HW.out.2.2⟩
  case round =>
    obtain ⟨k, hk, rfl, hz, hv, hB⟩ := hrel
    by_cases hlt : k < n
    · cases a with
      | none => have := HI.out.none_len; omega
      | some ad =>
        obtain ⟨o, cl', hx, hok, hcl, hin⟩ := (HI.out.keep hB).at k hlt
        have HX := hid (And.intro hx (And.intro hin hok))
        have HB := hid (And.intro hz (And.intro hv hB))
        have hone := hcl.oneCell
        have h1 : (k : Int) < (n : Int) := by omega
        have hst := known_step hx
        have HST := hid hst
        clear hx hcl hin hB hz hv hst
        go_upto_region 5 with (first
          | (refine load_opIn _ rfl rfl (ad.add (k * 29)) rfl o HX.out.2.1 ?_)
          | (refine wpList_store_row rfl _ _ _ rfl wr.heap.size (oc o) rfl rfl 34 (oc zeroO) ?_ (opSize _) rfl (oneO _ hone) ?_; (focus exact heap_alloc_last' _ _); rw [World.setRow_alloc_new]))
        refine gen_code (fun W => OpAt W wr.heap.size o ∧ W.heap[W0.heap.size]? = some (.cells (vc zeroV) 25 (0, 0)) ∧ W.heap[W0.heap.size + 1]? = some (.cells (vc (knownM (l.take k))) 25 (0, 0)) ∧ Below W0.heap.size W0 W) ⟨opAt_new _ _, heap_al HB.out.1 _, heap_al HB.out.2.1 _, below_next HB.out.2.2 (below_al _ _)⟩ ?_
        rintro W1 ⟨g1, g2, g3, g4⟩
        have c0 := g1.c0
        have c1 := g1.c1
        have HG := hid (And.intro g1 (And.intro g2 (And.intro g3 g4)))
        clear g1 g2 g4
        by_cases h8 : o.r < 8
        · have c2 := cellV g3 h8
          have c3 := freeV g3 o.r
          clear g3
          rw [if_pos h8] at HST
          have h8' : decide ((o.r : Int) < 8) = true := decide_eq_true (by omega)
          have h9 : (o.r : Int) < 8 := by omega
          have h9' : o.r < 8 := h8
          have hmx : max (knownM (l.take k) o.r : Int) (o.n : Int) = ((max (knownM (l.take k) o.r) o.n : Nat) : Int) := by omega
          go_wp2
          go_region
          go_wp2
          go_roundw
          case rel =>
            refine ⟨k + 1, by omega, by go_num, heap_n HG.out.2.1 (by omega), ?_, (Below.setCell (p := ⟨W0.heap.size + 1, o.r, none⟩) HG.out.2.2.2 (by show W0.heap.size ≤ W0.heap.size + 1; omega) _).drew⟩
            rw [HST.out]
            exact heap_set HG.out.2.2.1 h8 _
          case measure => exact meas1 hlt
        · have h8' : decide ((o.r : Int) < 8) = false := decide_eq_false (by omega)
          rw [if_neg h8] at HST
          clear g3
          go_wp2
          go_roundw
          case rel => exact ⟨k + 1, by omega, by go_num, HG.out.2.1, by rw [HST.out]; exact HG.out.2.2.1, HG.out.2.2.2⟩
          case measure => exact meas1 hlt
    · obtain rfl : k = n := by omega
      have HV := hid (And.intro hz (And.intro hv hB))
      clear hz hv hB
      have ht : l.take k = l := List.take_of_length_le (by have := HN.out; omega)
      rw [ht] at HV
      clear ht
      go_wp2_with (first
        | (refine wpList_load_row rfl _ _ rfl (W0.heap.size + 1) rfl _ _ _ _ HV.out.2.1 Tryd.underlying25 rfl (sizeV _) ?_)
        | (refine wpList_store_row rfl _ _ _ rfl W0.heap.size (vc (knownM l)) rfl rfl 25 (vc zeroV) HV.out.1 (sizeV _) rfl (oneVc _) ?_))
      (try simp only [Exit.inBlock, Exit.then])
      refine bodyPost_ret (results_cell_row rfl _ _ _ _ _ _ _ rfl (setRow_heap _ _ _ _ _ _ HV.out.1) Tryd.underlying25 rfl (sizeV _)) rfl ?_
      exact ⟨rfl, Below.setRow HV.out.2.2 (Nat.le_refl _) _⟩
end Go.Proofs.YtagdapmnghnphaaDoor.V

namespace Go.Proofs.YtagdapmnghnphaaDoor.V
set_option linter.unusedVariables false
set_option linter.unusedSimpArgs false
set_option maxRecDepth 100000
open Go Go.RowKit Go.Maps Wire
theorem upd_self (v : Vec) (r : Nat) : upd v r (v r) = v := by funext i; unfold upd; split <;> simp_all
set_option maxHeartbeats 400000 in
theorem ref_Known (v : Value) (l : List OC) (W0 : World) (hv : OpsV W0 v l) :
    Calls Tryd.prog 24 #[v] W0 fun e w' => e = .returned (.agg (vc (knownM l))) ∧ Below W0.heap.size W0 w' := by
  obtain ⟨a, n, cp, rfl, hI⟩ := hv
  have HN := hid (show n = l.length from hI.1.symm)
  have hm : n ≤ 9223372036854775807 := Nat.le_trans hI.2.1 hI.2.2.1
  have HI := hid hI
  clear hI
  go_enter Tryd.func24, Tryd.ntmps24
  go_upto_region 2 with (fail)
  refine gen_code (fun W => W.heap[W0.heap.size]? = some (.cells (vc zeroV) 25 (0, 0)) ∧ W.heap[W0.heap.size + 1]? = some (.cells (vc zeroV) 25 (0, 0)) ∧ Below W0.heap.size W0 W) ⟨heap_al (heap_alloc_last' _ _) _, last2 W0 _ _, below_al2 W0 _ _⟩ ?_
  rintro W ⟨h1, h2, hB⟩
  have HW := hid (And.intro h1 (And.intro h2 hB))
  clear h1 h2 hB
  go_wp2
  go_loopw [4] (fun i wr => ∃ k : Nat, k ≤ n ∧ i = .int .i64 k ∧ wr.heap[W0.heap.size]? = some (.cells (vc zeroV) 25 (0, 0)) ∧ wr.heap[W0.heap.size + 1]? = some (.cells (vc (knownM (l.take k))) 25 (0, 0)) ∧ Below W0.heap.size W0 wr) (fun i _ => n - (intOf i).toNat)
  case atStart => exact ⟨0, by omega, rfl, HW.out.1, by rw [List.take_zero, known_nil]; exact HW.out.2.1, HW.out.2.2⟩
  case round =>
    obtain ⟨k, hk, rfl, hz, hv, hB⟩ := hrel
    by_cases hlt : k < n
    · cases a with
      | none => have := HI.out.none_len; omega
      | some ad =>
        obtain ⟨x, B, O, sp, hx, hok, hcl, hA, hC⟩ := OpsV.at (HI.out.keep hB) hlt
        have HX := hid (And.intro hx (And.intro hC.all hok))
        have HG := hid (And.intro hz (And.intro hv hB))
        have h1 : (k : Int) < (n : Int) := by omega
        have HST := hid (known_step hx)
        have c0 := hC.c0
        have c1 := hC.c1
        clear hx hcl hB hz hC hok
        by_cases h8 : x.1.r < 8
        · have c2 := cellV hv h8
          have c3 := freeV hv x.1.r
          clear hv
          rw [if_pos h8] at HST
          have h8' : decide ((x.1.r : Int) < 8) = true := decide_eq_true (by omega)
          have h9 : (x.1.r : Int) < 8 := by omega
          by_cases hg : knownM (l.take k) x.1.r < x.1.n
          · have hg' : decide ((knownM (l.take k) x.1.r : Int) < (x.1.n : Int)) = true := decide_eq_true (by omega)
            have HM := hid (show max (knownM (l.take k) x.1.r) x.1.n = x.1.n by omega)
            go_wp2
            go_quiet (fail)
            go_wp2
            go_region
            go_wp2
            go_roundw
            case rel =>
              refine ⟨k + 1, by omega, by go_num, heap_n HG.out.1 (by omega), ?_, (Below.setCell (p := ⟨W0.heap.size + 1, x.1.r, none⟩) (HG.out.2.2.trans (below_drewN _ _ _)) (by show W0.heap.size ≤ W0.heap.size + 1; omega) _)⟩
              rw [HST.out, HM.out]
              exact heap_set HG.out.2.1 h8 _
            case measure => exact meas1 hlt
          · have hg' : decide ((knownM (l.take k) x.1.r : Int) < (x.1.n : Int)) = false := decide_eq_false (by omega)
            have HM := hid (show max (knownM (l.take k) x.1.r) x.1.n = knownM (l.take k) x.1.r by omega)
            go_wp2
            go_quiet (fail)
            go_wp2
            go_roundw
            case rel =>
              refine ⟨k + 1, by omega, by go_num, HG.out.1, ?_, HG.out.2.2.trans (below_drewN _ _ _)⟩
              rw [HST.out, HM.out, upd_self]
              exact HG.out.2.1
            case measure => exact meas1 hlt
        · have h8' : decide ((x.1.r : Int) < 8) = false := decide_eq_false (by omega)
          rw [if_neg h8] at HST
          clear hv
          go_wp2
          go_quiet (fail)
          go_wp2
          go_roundw
          case rel => exact ⟨k + 1, by omega, by go_num, HG.out.1, by rw [HST.out]; exact HG.out.2.1, HG.out.2.2.trans (below_drewN _ _ _)⟩
          case measure => exact meas1 hlt
    · obtain rfl : k = n := by omega
      have HV := hid (And.intro hz (And.intro hv hB))
      clear hz hv hB
      have ht : l.take k = l := List.take_of_length_le (by have := HN.out; omega)
      rw [ht] at HV
      clear ht
      go_wp2_with (first
        | (refine wpList_load_row rfl _ _ rfl (W0.heap.size + 1) rfl _ _ _ _ HV.out.2.1 Tryd.underlying25 rfl (sizeV _) ?_)
        | (refine wpList_store_row rfl _ _ _ rfl W0.heap.size (vc (knownM l)) rfl rfl 25 (vc zeroV) HV.out.1 (sizeV _) rfl (oneVc _) ?_))
      (try simp only [Exit.inBlock, Exit.then])
      refine bodyPost_ret (results_cell_row rfl _ _ _ _ _ _ _ rfl (setRow_heap _ _ _ _ _ _ HV.out.1) Tryd.underlying25 rfl (sizeV _)) rfl ?_
      exact ⟨rfl, Below.setRow HV.out.2.2 (Nat.le_refl _) _⟩
end Go.Proofs.YtagdapmnghnphaaDoor.V

namespace Go.Proofs.YtagdapmnghnphaaDoor.V
set_option linter.unusedVariables false
set_option linter.unusedSimpArgs false
set_option maxRecDepth 100000
open Go Go.RowKit Go.Maps Wire

/-- What an append to a row of one's own leaves. -/
structure Pushed (B : Nat) (w w' : World) (v' : Value) (l : List OC) : Prop where
  own : OwnO B w' v' l
  rest : ∀ (b : Nat) (cs : Array Value) (t : TypeId) (fr : Nat × Nat), t ≠ 34 → w.heap[b]? = some (.cells cs t fr) → w'.heap[b]? = some (.cells cs t fr)
  low : ∀ b, b < B → w'.heap[b]? = w.heap[b]?
  below : ∀ w0, Below B w0 w → Below B w0 w'
  size : w.heap.size ≤ w'.heap.size
theorem OpsV.ClaimsV_one {w : World} {q : OC} {B : Nat} (h : ClaimsB B w q.1.lv q.2) : q.1.lv.oneCell' = true := h.1.oneCell
theorem wpList_push {ops : Array Oper} {rest : List Oper} {o : Oper} {a : Act} {w : World} {Q : Exit → Act → World → Prop} (hgd : o.guard = none) (s x : Operand)
    (ho : o.op = .call { callee := .builtin .append, args := #[s, x], argTypes := #[22, 22] }) (B : Nat) (w0 : World) (v : Value) (l : List OC) (hs : a.eval s = v) (hown : OwnO B w0 v l) (hB : B ≤ w0.heap.size) (hb : Below w0.heap.size w0 w)
    (g : Nat) (q : OC) (hx : a.eval x = .slice (some ⟨g, 0, none⟩) 1 1) (hg : w.heap[g]? = some (.cells (oc q.1) 34 (0, 0))) (hq : okO q.1) (hc : ClaimsB B w q.1.lv q.2) (hlen : l.length ≤ 1000000)
    (h : ∀ p c w', Pushed B w w' (.slice p (l.length + 1) c) (l ++ [q]) → wpList Tryd.prog ops Q rest (a.put o.dst (.slice p (l.length + 1) c)) w') : wpList Tryd.prog ops Q (o :: rest) a w := by
  obtain ⟨i0, hi, hz0, hz1, hz2⟩ := info_parts infoOp
  have hBw : B ≤ w.heap.size := Nat.le_trans hB hb.size
  refine wpList_append_own _ hgd s x 22 ho B 34 i0 (.agg (oc zeroO)) 29 144 Tryd.underlying22 hi hz0 hz1 hz2 rfl (by decide) v _ _ hs (hown.keep hB hb).1 ⟨g, 0, none⟩ 1 1 (oc q.1).toList hx rfl
    (fun j u hj => by rw [add8, cell_of_heap hg, ← hj, Array.getElem?_toList]) (one_op q.1 hc.1.oneCell) (by unfold maxLen; omega) (by omega) hBw ?_
  intro v3 w3 hown3 hgr _
  have hP := OwnO.push hown hB hb hgr hown3 hq hc
  obtain ⟨p3, q3, hv3⟩ := (show ∃ p c, v3 = .slice p (l.length + 1) c from by rcases hown3.2 with ⟨_, e⟩ | ⟨_, _, _, rfl, _⟩ <;> first | omega | exact ⟨_, _, rfl⟩)
  subst hv3
  refine h p3 q3 w3 ⟨hP, fun b cs t fr ht hc => hown.rest hb hgr ht hc, fun b hlt => ?_, fun w00 h0 => hown.below h0 hBw hgr, hgr.size⟩
  refine hgr.block b (by omega) (fun e => ?_)
  rcases hown.1.2 with ⟨rfl, _⟩ | ⟨g', cap, cur, rfl, hB', hgg, _⟩
  · cases e
  · obtain rfl : b = g' := Option.some.inj e
    omega
def cutM (l : List OC) (v : Vec) : List OC := l.filter fun x => covB v (dt x)
theorem cut_step {l : List OC} {k : Nat} {x : OC} (hx : l[k]? = some x) (v : Vec) : cutM (l.take (k + 1)) v = if covB v (dt x) = true then cutM (l.take k) v ++ [x] else cutM (l.take k) v := by
  unfold cutM
  rw [take_snocO hx, List.filter_append]
  by_cases h : covB v (dt x) = true
  · rw [if_pos h]; simp [h]
  · rw [if_neg h]; simp [h]
theorem cut_length (l : List OC) (v : Vec) (k : Nat) : (cutM (l.take k) v).length ≤ l.length := Nat.le_trans (List.length_filter_le _ _) (by rw [List.length_take]; omega)
theorem core_setL (x : OC) (u : Value) : core (setL x.1 u, x.2) = core x := rfl

set_option maxHeartbeats 400000 in
theorem order_Cut (v : Value) (l : List OC) (vv : Vec) (W0 : World) (hv : OpsV W0 v l) (hs : ∀ x ∈ l, x.2.length ≤ 1000) (hl : l.length ≤ 100000) :
    Calls Tryd.prog 21 #[v, .agg (vc vv)] W0 fun e w' => ∃ u l', e = .returned u ∧ OwnO W0.heap.size w' u l' ∧ l'.map core = (cutM l vv).map core ∧ Below W0.heap.size W0 w' := by
  obtain ⟨a, n, cp, rfl, hI⟩ := hv
  have HN := hid (show n = l.length from hI.1.symm)
  have hm : n ≤ 9223372036854775807 := Nat.le_trans hI.2.1 hI.2.2.1
  have HI := hid hI
  have HS := hid (And.intro hs hl)
  clear hI hs hl
  go_enter Tryd.func21, Tryd.ntmps21
  go_upto_region 2 with (fail)
  refine gen_code (fun W => W.heap[W0.heap.size]? = some (.cells (vc vv) 25 (0, 0)) ∧ Below W0.heap.size W0 W) ⟨heap_alloc_last' _ _, below_al W0 _⟩ ?_
  rintro W ⟨h1, hB⟩
  have HW := hid (And.intro h1 hB)
  clear h1 hB
  go_wp2
  go_loopw [5, 10] (fun u i wr => ∃ (k : Nat) (l' : List OC), k ≤ n ∧ i = .int .i64 k ∧ wr.heap[W0.heap.size]? = some (.cells (vc vv) 25 (0, 0)) ∧ OwnO W0.heap.size wr u l' ∧ Hid (l'.map core = (cutM (l.take k) vv).map core) ∧ Below W0.heap.size W0 wr) (fun _ i _ => n - (intOf i).toNat)
  case atStart => exact ⟨0, [], by omega, rfl, HW.out.1, OwnO.nil _ _, rfl, HW.out.2⟩
  case round =>
    obtain ⟨k, l', hk, rfl, hz, ho, hcore, hB⟩ := hrel
    have hBr : W0.heap.size ≤ wr.heap.size := hB.size
    by_cases hlt : k < n
    · cases a with
      | none => have := HI.out.none_len; omega
      | some ad =>
        obtain ⟨o, cl', hx, hok, hcl, hin⟩ := (HI.out.keep hB).at k hlt
        obtain ⟨x, hxe⟩ : ∃ x : OC, x = (o, cl') := ⟨_, rfl⟩
        obtain ⟨pa, pc, hform⟩ := ho.form
        have HX := hid (And.intro hx (And.intro hin (And.intro hok (HS.out.1 _ (List.mem_of_getElem? hx)))))
        have HB := hid (And.intro hz (And.intro ho hB))
        have HCL := hid hcl
        have hone := hcl.oneCell
        have h1 : (k : Int) < (n : Int) := by omega
        have HST := hid (cut_step hx vv)
        have HLL := hid (show l'.length ≤ 100000 by
          have h1 := congrArg List.length hcore.out
          rw [List.length_map, List.length_map] at h1
          have := cut_length l vv k
          have := HS.out.2
          omega)
        subst hform
        clear hx hcl hin hB hz ho hok hxe
        go_upto_region 5 with (first
          | (refine load_opIn _ rfl rfl (ad.add (k * 29)) rfl o HX.out.2.1 ?_)
          | (refine wpList_store_row rfl _ _ _ rfl wr.heap.size (oc o) rfl rfl 34 (oc zeroO) ?_ (opSize _) rfl (oneO _ hone) ?_; (focus exact heap_alloc_last' _ _); rw [World.setRow_alloc_new]))
        refine gen_code (fun W => OpAt W wr.heap.size o ∧ W.heap[W0.heap.size]? = some (.cells (vc vv) 25 (0, 0)) ∧ Below wr.heap.size wr W) ⟨opAt_new _ _, heap_al HB.out.1 _, below_al _ _⟩ ?_
        rintro W1 ⟨g1, g2, g4⟩
        have c0 := g1.c0
        have c1 := g1.c1
        have hcov := fun W => vec_Covers vv (o.r, o.n) W
        have HG := hid (And.intro g1 (And.intro g2 g4))
        have hld := fun (W : World) (hb : Below W1.heap.size W1 W) => heap_keep g2 hb
        clear g1 g2 g4
        cases hq : covB vv (o.r, o.n)
        · have hst := HST.out
          rw [show covB vv (dt (o, cl')) = false from hq, if_neg (by simp)] at hst
          have HST := hid hst
          rw [hq] at hcov
          clear hst hq
          go_wp2_with (first
            | (refine wpList_load_row rfl _ _ rfl W0.heap.size rfl _ _ _ _ HG.out.2.1 Tryd.underlying25 rfl (sizeV _) ?_)
            | (go_at_call 33; refine (hcov _).mono ?_; rintro e w1 ⟨rfl, hB1⟩; have hB2 := below_next HG.out.2.2 hB1))
          go_roundw
          case rel =>
            exact ⟨k + 1, l', by omega, by go_num, heap_keep HB.out.1 hB2, HB.out.2.1.keep hBr hB2, hid (by rw [HST.out]; exact hcore.out), below_next HB.out.2.2 hB2⟩
          case measure => exact meas1 hlt
        · have hst := HST.out
          rw [show covB vv (dt (o, cl')) = true from hq, if_pos rfl] at hst
          have HST := hid hst
          rw [hq] at hcov
          clear hst hq
          have hcp := fun W (hb : Below wr.heap.size wr W) => order_copyOf (o, cl') W (HCL.out.keep hb) HX.out.2.2.2
          go_wp2_with (first
            | (refine wpList_load_row rfl _ _ rfl W0.heap.size rfl _ _ _ _ HG.out.2.1 Tryd.underlying25 rfl (sizeV _) ?_)
            | (go_at_call 33; refine (hcov _).mono ?_; rintro e w1 ⟨rfl, hB1⟩; have hB2 := hid (below_next HG.out.2.2 hB1); have hop1 := hid (HG.out.1.keep hB1); have hcp1 := hcp _ hB2.out; clear hcp hB1)
            | (refine load_op rfl _ rfl wr.heap.size rfl _ hop1.out ?_)
            | (go_at_call 37; refine hcp1.mono ?_; rintro e w2 ⟨u, rfl, hu, huB, hB3⟩; have hB4 := hid (below_next hB2.out hB3); have HU := hid (And.intro hu huB); have hone2 := hu.oneCell; clear hu huB hB3)
            | (refine build_op rfl _ rfl (setL o u) rfl ?_)
            | (refine wpList_push rfl _ _ rfl W0.heap.size wr _ l' rfl HB.out.2.1 hBr (below_next hB4.out (below_al _ _)) w2.heap.size (setL o u, cl') rfl (heap_alloc_last' _ _) (ok_setL HX.out.2.2.1 u) ((HU.out.2 _).keep (Nat.le_trans hBr hB4.out.size) (below_al _ _)) (Nat.le_trans HLL.out (by omega)) ?_; intro p3 c3 w3 hP; have HP := hid hP; clear hP))
          go_roundw
          case rel =>
            refine ⟨k + 1, l' ++ [(setL o u, cl')], by omega, by go_num, HP.out.rest _ _ _ _ (by decide) (heap_keep HB.out.1 (below_next hB4.out (below_al _ _))), ?_, hid ?_, HP.out.below _ (below_next HB.out.2.2 (below_next hB4.out (below_al _ _)))⟩
            · exact HP.out.own
            · rw [HST.out, List.map_append, List.map_append, hcore.out]
              rfl
          case measure => exact meas1 hlt
    · obtain rfl : k = n := by omega
      have HV := hid (And.intro ho hB)
      clear hz ho hB
      have ht : l.take k = l := List.take_of_length_le (by have := HN.out; omega)
      rw [ht] at hcore
      clear ht
      go_wp2
      go_ret
      exact ⟨_, l', rfl, HV.out.1, hcore.out, HV.out.2⟩
end Go.Proofs.YtagdapmnghnphaaDoor.V
