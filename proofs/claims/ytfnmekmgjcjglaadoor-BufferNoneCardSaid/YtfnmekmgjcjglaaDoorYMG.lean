/-
  What a row knows: order.Known, the document's.
-/
import Derived.Test.YtfnmekmgjcjglaaDoorYMF
namespace Go.Proofs.YtfnmekmgjcjglaaDoor.V
set_option linter.unusedVariables false
set_option linter.unusedSimpArgs false
set_option maxRecDepth 100000
open Go Go.RowKit Go.Maps Wire
set_option maxRecDepth 100000
set_option linter.unusedVariables false
set_option linter.unusedSimpArgs false
theorem known_snoc (l : List OC) (x : OC) : knownM (l ++ [x]) = if x.1.r < 8 then upd (knownM l) x.1.r (max (knownM l x.1.r) x.1.n) else knownM l := by
  funext r
  by_cases h8 : x.1.r < 8
  · rw [if_pos h8]
    unfold knownM upd
    by_cases hr : r < 8
    · rw [if_pos hr, List.foldl_append]
      show topN r (l.foldl (topN r) 0) x = _
      by_cases e : x.1.r = r
      · subst e
        show (if x.1.r = x.1.r then max _ x.1.n else _) = _
        rw [if_pos rfl, if_pos rfl]
        show _ = max (if x.1.r < 8 then l.foldl (topN x.1.r) 0 else 0) x.1.n
        rw [if_pos h8]
      · show (if x.1.r = r then _ else l.foldl (topN r) 0) = _
        rw [if_neg e, if_neg (fun h => e h.symm)]
        show _ = if r < 8 then l.foldl (topN r) 0 else 0
        rw [if_pos hr]
    · rw [if_neg hr, if_neg (fun e => by omega)]
      show _ = if r < 8 then l.foldl (topN r) 0 else 0
      rw [if_neg hr]
  · rw [if_neg h8]
    unfold knownM
    by_cases hr : r < 8
    · rw [if_pos hr, if_pos hr, List.foldl_append]
      show topN r (l.foldl (topN r) 0) x = _
      show (if x.1.r = r then _ else l.foldl (topN r) 0) = _
      rw [if_neg (fun e => by omega)]
    · rw [if_neg hr, if_neg hr]
theorem known_nil : knownM [] = zeroV := by funext r; unfold knownM zeroV; split <;> rfl
theorem take_snocO {l : List OC} {k : Nat} {x : OC} (hx : l[k]? = some x) : l.take (k + 1) = l.take k ++ [x] := (take_snocC hx).symm
theorem known_step {l : List OC} {k : Nat} {x : OC} (hx : l[k]? = some x) : knownM (l.take (k + 1)) = if x.1.r < 8 then upd (knownM (l.take k)) x.1.r (max (knownM (l.take k) x.1.r) x.1.n) else knownM (l.take k) := by rw [take_snocO hx, known_snoc]
theorem oneVc (v : Vec) : (vc v).all (·.oneCell') = true := by simp [vc, Value.oneCell']
set_option maxHeartbeats 400000 in
theorem order_Known (v : Value) (l : List OC) (W0 : World) (hv : OpsV W0 v l) :
    Calls Tryd.prog 22 #[v] W0 fun e w' => e = .returned (.agg (vc (knownM l))) ∧ Below W0.heap.size W0 w' := by
  obtain ⟨a, n, cp, rfl, hI⟩ := hv
  have HN := hid (show n = l.length from hI.1.symm)
  have hm : n ≤ 9223372036854775807 := Nat.le_trans hI.2.1 hI.2.2.1
  have HI := hid hI
  clear hI
  go_enter Tryd.func22, Tryd.ntmps22
  go_upto_region 2 with (fail)
  refine gen_code (fun W => W.heap[W0.heap.size]? = some (.cells (vc zeroV) 30 (0, 0)) ∧ W.heap[W0.heap.size + 1]? = some (.cells (vc zeroV) 30 (0, 0)) ∧ Below W0.heap.size W0 W) ⟨heap_al (heap_alloc_last' _ _) _, last2 W0 _ _, below_al2 W0 _ _⟩ ?_
  rintro W ⟨h1, h2, hB⟩
  have HW := hid (And.intro h1 (And.intro h2 hB))
  clear h1 h2 hB
  go_wp2
  go_loopw [8] (fun i wr => ∃ k : Nat, k ≤ n ∧ i = .int .i64 k ∧ wr.heap[W0.heap.size]? = some (.cells (vc zeroV) 30 (0, 0)) ∧ wr.heap[W0.heap.size + 1]? = some (.cells (vc (knownM (l.take k))) 30 (0, 0)) ∧ Below W0.heap.size W0 wr) (fun i _ => n - (intOf i).toNat)
  case atStart => exact ⟨0, by omega, rfl, HW.out.1, by rw [List.take_zero, known_nil]; exact HW.out.2.1, HW.out.2.2⟩
  case round =>
    obtain ⟨k, hk, rfl, hz, hv, hB⟩ := hrel
    by_cases hlt : k < n
    · cases a with
      | none => have := HI.out.none_len; omega
      | some ad =>
        obtain ⟨o, cl', hx, hok, hcl, hin⟩ := (HI.out.keep hB).at k hlt
        have HX := hid (And.intro hx (And.intro hin hok))
        have HB := hid (And.intro hz (And.intro hv hB))
        have hone := hcl.oneCell
        have h1 : (k : Int) < (n : Int) := by omega
        have hst := known_step hx
        have HST := hid hst
        clear hx hcl hin hB hz hv hst
        go_upto_region 5 with (first
          | (refine load_opIn _ rfl rfl (ad.add (k * 29)) rfl o HX.out.2.1 ?_)
          | (refine wpList_store_row rfl _ _ _ rfl wr.heap.size (oc o) rfl rfl 50 (oc zeroO) ?_ (opSize _) rfl (oneO _ hone) ?_; (focus exact heap_alloc_last' _ _); rw [World.setRow_alloc_new]))
        refine gen_code (fun W => OpAt W wr.heap.size o ∧ W.heap[W0.heap.size]? = some (.cells (vc zeroV) 30 (0, 0)) ∧ W.heap[W0.heap.size + 1]? = some (.cells (vc (knownM (l.take k))) 30 (0, 0)) ∧ Below W0.heap.size W0 W) ⟨opAt_new _ _, heap_al HB.out.1 _, heap_al HB.out.2.1 _, below_next HB.out.2.2 (below_al _ _)⟩ ?_
        rintro W1 ⟨g1, g2, g3, g4⟩
        have c0 := g1.c0
        have c1 := g1.c1
        have HG := hid (And.intro g1 (And.intro g2 (And.intro g3 g4)))
        clear g1 g2 g4
        by_cases h8 : o.r < 8
        · have c2 := cellV g3 h8
          have c3 := freeV g3 o.r
          clear g3
          rw [if_pos h8] at HST
          have h8' : decide ((o.r : Int) < 8) = true := decide_eq_true (by omega)
          have h9 : (o.r : Int) < 8 := by omega
          have h9' : o.r < 8 := h8
          have hmx : max (knownM (l.take k) o.r : Int) (o.n : Int) = ((max (knownM (l.take k) o.r) o.n : Nat) : Int) := by omega
          go_wp2
          go_region
          go_wp2
          go_roundw
          case rel =>
            refine ⟨k + 1, by omega, by go_num, heap_n HG.out.2.1 (by omega), ?_, (Below.setCell (p := ⟨W0.heap.size + 1, o.r, none⟩) HG.out.2.2.2 (by show W0.heap.size ≤ W0.heap.size + 1; omega) _).drew⟩
            rw [HST.out]
            exact heap_set HG.out.2.2.1 h8 _
          case measure => exact meas1 hlt
        · have h8' : decide ((o.r : Int) < 8) = false := decide_eq_false (by omega)
          rw [if_neg h8] at HST
          clear g3
          go_wp2
          go_roundw
          case rel => exact ⟨k + 1, by omega, by go_num, HG.out.2.1, by rw [HST.out]; exact HG.out.2.2.1, HG.out.2.2.2⟩
          case measure => exact meas1 hlt
    · obtain rfl : k = n := by omega
      have HV := hid (And.intro hz (And.intro hv hB))
      clear hz hv hB
      have ht : l.take k = l := List.take_of_length_le (by have := HN.out; omega)
      rw [ht] at HV
      clear ht
      go_wp2_with (first
        | (refine wpList_load_row rfl _ _ rfl (W0.heap.size + 1) rfl _ _ _ _ HV.out.2.1 Tryd.underlying30 rfl (sizeV _) ?_)
        | (refine wpList_store_row rfl _ _ _ rfl W0.heap.size (vc (knownM l)) rfl rfl 30 (vc zeroV) HV.out.1 (sizeV _) rfl (oneVc _) ?_))
      (try simp only [Exit.inBlock, Exit.then])
      refine bodyPost_ret (results_cell_row rfl _ _ _ _ _ _ _ rfl (setRow_heap _ _ _ _ _ _ HV.out.1) Tryd.underlying30 rfl (sizeV _)) rfl ?_
      exact ⟨rfl, Below.setRow HV.out.2.2 (Nat.le_refl _) _⟩
end Go.Proofs.YtfnmekmgjcjglaaDoor.V
namespace Go.Proofs.YtfnmekmgjcjglaaDoor.V
set_option linter.unusedVariables false
set_option linter.unusedSimpArgs false
set_option maxRecDepth 100000
open Go Go.RowKit Go.Maps Wire
set_option maxRecDepth 100000
set_option linter.unusedVariables false
set_option linter.unusedSimpArgs false
end Go.Proofs.YtfnmekmgjcjglaaDoor.V
namespace Go.Proofs.YtfnmekmgjcjglaaDoor.V
set_option linter.unusedVariables false
set_option linter.unusedSimpArgs false
set_option maxRecDepth 100000
open Go Go.RowKit Go.Maps Wire
set_option maxRecDepth 100000
set_option linter.unusedVariables false
set_option linter.unusedSimpArgs false
/-- What an append to a row of one's own leaves. -/
structure Pushed (B : Nat) (w w' : World) (v' : Value) (l : List OC) : Prop where
  own : OwnO B w' v' l
  rest : ∀ (b : Nat) (cs : Array Value) (t : TypeId) (fr : Nat × Nat), t ≠ 50 → w.heap[b]? = some (.cells cs t fr) → w'.heap[b]? = some (.cells cs t fr)
  low : ∀ b, b < B → w'.heap[b]? = w.heap[b]?
  below : ∀ w0, Below B w0 w → Below B w0 w'
  size : w.heap.size ≤ w'.heap.size
def cutM (l : List OC) (v : Vec) : List OC := l.filter fun x => covB v (dt x)
end Go.Proofs.YtfnmekmgjcjglaaDoor.V
