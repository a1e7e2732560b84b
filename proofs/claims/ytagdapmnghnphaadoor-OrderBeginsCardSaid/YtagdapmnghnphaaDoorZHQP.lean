/-
  A row appended to a row of one's own; what is true of the parts and the beginnings of a history.
-/
import Derived.Test.YtagdapmnghnphaaDoorZHQ1
import Derived.Test.YtagdapmnghnphaaDoorMM
import Derived.Laws.AppendOwnNone
namespace Go.Proofs.YtagdapmnghnphaaDoor.V
set_option linter.unusedVariables false
set_option linter.unusedSimpArgs false
set_option maxRecDepth 100000
open Go Go.RowKit Go.Maps Wire

theorem flatO_size (l : List OC) : (flatO l).length = l.length * 29 := by
  induction l with
  | nil => rfl
  | cons x r ih =>
    rw [show x :: r = [x] ++ r from rfl, flatO_append, flatO_one, List.length_append, List.length_append, ih, Array.length_toList, oc_size]
    simp only [List.length_cons, List.length_nil]
    omega
theorem OwnO.pushAll {B : Nat} {w w1 w2 : World} {v v2 : Value} {l m : List OC} (h : OwnO B w v l) (hBw : B ≤ w.heap.size) (hb : Below w.heap.size w w1) (hgr : w1.grownBy w2 v.ownBlock) (ho : w2.ownsRow B 34 29 v2 (l.length + m.length) (flatO l ++ flatO m)) (hm : ∀ x ∈ m, okO x.1 ∧ ClaimsB B w1 x.1.lv x.2) : OwnO B w2 v2 (l ++ m) := by
  have hne : ∀ (b : Nat) (cs : Array Value), w1.heap[b]? = some (.cells cs 62 (0, 0)) → w2.heap[b]? = some (.cells cs 62 (0, 0)) := fun b cs hcs => by
    refine (hgr.block b (lt_of_heap hcs) (fun e => ?_)).trans hcs
    rcases h.1.2 with ⟨rfl, _⟩ | ⟨g', cap, cur, rfl, hB, hgg, _⟩
    · cases e
    · obtain rfl : b = g' := Option.some.inj e
      rw [heap_keep hgg hb] at hcs
      cases hcs
  have h0 : ∀ b, b < B → w2.heap[b]? = w1.heap[b]? := fun b hlt => by
    refine hgr.block b (by have := hb.size; omega) (fun e => ?_)
    rcases h.1.2 with ⟨rfl, _⟩ | ⟨g', cap, cur, rfl, hB, hgg, _⟩
    · cases e
    · obtain rfl : b = g' := Option.some.inj e
      omega
  refine ⟨by rw [flatO_append, List.length_append]; exact ho, fun y hy => ?_⟩
  rcases List.mem_append.1 hy with hy | hy
  · exact ⟨(h.2 y hy).1, ((h.2 y hy).2.keep hBw hb).typ h0 hne⟩
  · exact ⟨(hm y hy).1, (hm y hy).2.typ h0 hne⟩
theorem IsOps.flat {w : World} {ad : Addr} {n cp : Nat} {m : List OC} (h : IsOps w (some ad) n cp m) : ∀ j u, (flatO m)[j]? = some u → w.cell? (ad.add j) = some u := by
  intro j u hj
  have hlt : j < (flatO m).length := (List.getElem?_eq_some_iff.1 hj).1
  rw [flatO_size] at hlt
  obtain ⟨x, hx⟩ : ∃ x, m[j / 29]? = some x := ⟨_, List.getElem?_eq_getElem (by omega)⟩
  have h1 := h.2.2.2.2 (j / 29) x hx (j % 29) (by omega)
  rw [add_add2, show j / 29 * 29 + j % 29 = j by omega] at h1
  have h2 := flatO_get m (j / 29) x hx (j % 29) (by omega)
  rw [show j / 29 * 29 + j % 29 = j by omega] at h2
  rw [h1, ← h2, hj]
theorem flatO_cells1 {m : List OC} {w : World} (h : ∀ x ∈ m, ClaimsV w x.1.lv x.2) : ∀ u ∈ flatO m, u.oneCell' = true := by
  induction m with
  | nil => intro u hu; cases hu
  | cons x r ih =>
    intro u hu
    rw [show x :: r = [x] ++ r from rfl, flatO_append, flatO_one] at hu
    rcases List.mem_append.1 hu with hu | hu
    · exact one_op x.1 (h x (List.mem_cons_self ..)).oneCell u hu
    · exact ih (fun y hy => h y (List.mem_cons_of_mem _ hy)) u hu
theorem Pushed.of {B : Nat} {w0 w w3 : World} {v v3 : Value} {l k : List OC} (hown : OwnO B w0 v l) (hB : B ≤ w0.heap.size) (hb : Below w0.heap.size w0 w) (hgr : w.grownBy w3 v.ownBlock) (hP : OwnO B w3 v3 k) : Pushed B w w3 v3 k := by
  have hBw : B ≤ w.heap.size := Nat.le_trans hB hb.size
  refine ⟨hP, fun b cs t fr ht hc => hown.rest hb hgr ht hc, fun b hlt => ?_, fun w00 h0 => hown.below h0 hBw hgr, hgr.size⟩
  refine hgr.block b (by omega) (fun e => ?_)
  rcases hown.1.2 with ⟨rfl, _⟩ | ⟨g', cap, cur, rfl, hB', hgg, _⟩
  · cases e
  · obtain rfl : b = g' := Option.some.inj e
    omega
theorem wpList_pushAll {ops : Array Oper} {rest : List Oper} {o : Oper} {a : Act} {w : World} {Q : Exit → Act → World → Prop} (hgd : o.guard = none) (s x : Operand)
    (ho : o.op = .call { callee := .builtin .append, args := #[s, x], argTypes := #[22, 22] }) (B : Nat) (w0 : World) (v : Value) (l : List OC) (hs : a.eval s = v) (hown : OwnO B w0 v l) (hB : B ≤ w0.heap.size) (hb : Below w0.heap.size w0 w)
    (u : Value) (m : List OC) (hx : a.eval x = u) (hu : OpsV w u m) (hc : ∀ y ∈ m, ClaimsB B w y.1.lv y.2) (hlen : l.length + m.length ≤ 900000)
    (h : ∀ v3 w', Pushed B w w' v3 (l ++ m) → wpList Tryd.prog ops Q rest (a.put o.dst v3) w') : wpList Tryd.prog ops Q (o :: rest) a w := by
  obtain ⟨i0, hi, hz0, hz1, hz2⟩ := info_parts infoOp
  have hBw : B ≤ w.heap.size := Nat.le_trans hB hb.size
  obtain ⟨ad, n, cp, rfl, hI⟩ := hu
  cases ad with
  | none =>
    obtain ⟨rfl, rfl⟩ := hI.2.2.2.2
    obtain rfl : m = [] := List.length_eq_zero_iff.1 hI.1
    refine wpList_append_own_none hgd s x 22 ho B 34 i0 29 Tryd.underlying22 hi v _ _ hs (hown.keep hB hb).1 hx ?_
    rw [List.append_nil] at h
    exact h v w ⟨hown.keep hB hb, fun _ _ _ _ _ hc => hc, fun _ _ => rfl, fun _ h => h, Nat.le_refl _⟩
  | some ad =>
    refine wpList_append_own _ hgd s x 22 ho B 34 i0 (.agg (oc zeroO)) 29 144 Tryd.underlying22 hi hz0 hz1 hz2 rfl (by decide) v _ _ hs (hown.keep hB hb).1 ad n cp (flatO m) hx (by rw [flatO_size, hI.1])
      hI.flat (flatO_cells1 fun y hy => (hI.2.2.2.1 y hy).2) (by rw [← hI.1]; unfold maxLen; omega) (by rw [← hI.1]; omega) hBw ?_
    intro v3 w3 hown3 hgr _
    rw [← hI.1] at hown3
    exact h v3 w3 (Pushed.of hown hB hb hgr (OwnO.pushAll hown hB hb hgr hown3 (fun y hy => ⟨(hI.2.2.2.1 y hy).1, hc y hy⟩)))
/-- An empty row, made anew. -/
theorem OwnO.fresh (w : World) (B : Nat) (hB : B ≤ w.heap.size) : OwnO B (w.alloc (.cells #[] 34)) (.slice (some ⟨w.heap.size, 0, none⟩) 0 0) [] :=
  ⟨⟨rfl, .inr ⟨_, 0, #[], rfl, hB, heap_alloc_last' _ _, Nat.le_refl _, Nat.zero_le _, rfl, rfl⟩⟩, fun x hx => by cases hx⟩
theorem v_movd {ops : Array Oper} {Q : Exit → Act → World → Prop} {tgt : Nat → Option Nat} {F : Nat → Fa} {a0 : Act} {w0 : World} {k : Nat} {op : Oper} {x : Operand} {p : Value → World → Prop}
    (ho : op.op = .move x ∨ op.op = .assign x) (hF : F k = .dep p) (hd : op.dst.isSome = true) (hg : guardOK ops F op) (h1 : EvD ops F a0 w0 op x p) : StepOK Tryd.prog ops Q tgt F a0 w0 k op :=
  flow_depv _ hF hd hg (fun o a w hb hB hn => ⟨a.eval x, w, run_move _ ho a w, Below.refl _ _, h1 o a w hb hB hn⟩)
/-! ### parts -/
theorem parts_math {nr : Int} {l la lb s s' : List OC} {x y : Vec} (h : HistP nr l) (ha : la.map core = (cutM l x).map core) (hb : lb.map core = (cutM l y).map core) (h1 : histM nr la = 0) (h2 : histM nr lb = 0)
    (hs : SortOf (la ++ lb) s) (hc : s'.map core = s.map core) : histM nr s' = 0 ∧ histM nr (bothM la lb) = 0 ∧ s'.length + (bothM la lb).length = la.length + lb.length := by
  have h0 : HistP nr (l.map core) := histM_zero.1 (by rw [hist_map]; exact histM_zero.2 h)
  have ka : HistP nr (la.map core) := histM_zero.1 (by rw [hist_map]; exact h1)
  have kb : HistP nr (lb.map core) := histM_zero.1 (by rw [hist_map]; exact h2)
  have sa : ∀ z ∈ la.map core, z ∈ l.map core := fun z hz => by
    rw [ha] at hz
    obtain ⟨q, hq, rfl⟩ := List.mem_map.1 hz
    exact List.mem_map_of_mem (cut_sub l x q hq)
  have sb : ∀ z ∈ lb.map core, z ∈ l.map core := fun z hz => by
    rw [hb] at hz
    obtain ⟨q, hq, rfl⟩ := List.mem_map.1 hz
    exact List.mem_map_of_mem (cut_sub l y q hq)
  have hs2 : SortOf (la.map core ++ lb.map core) (s.map core) := by
    have := hs.map
    rw [List.map_append] at this
    exact this
  refine ⟨?_, ?_, ?_⟩
  · rw [hist_core hc, ← hist_map]
    exact histM_zero.2 (h0.union ka kb sa sb hs2)
  · rw [← hist_map, ← both_map]
    exact histM_zero.2 (h0.both ka kb sa sb)
  · have := two_count h0 (nodup_of_dt ka.is.1) (nodup_of_dt kb.is.1) sa sb hs2
    rw [both_map, List.length_map, List.length_map, List.length_map, List.length_map] at this
    rw [len_core hc]
    exact this
/-! ### beginnings -/
theorem begins_math {nr : Int} {l s s' t t' : List OC} (h : HistP nr l) (hs : SortOf l s) (hc : s'.map core = s.map core) (ht : SortOf l.reverse t) (hct : t'.map core = t.map core) :
    s'.length = l.length ∧ t'.map core = s'.map core ∧ histM nr l.reverse = 0 ∧ knownM l.reverse = knownM l ∧ (∀ k, histM nr (s'.take k) = 0) ∧ ∀ k, (cutM s' (knownM (s'.take k))).map core = (s'.take k).map core := by
  have hnr : (l.reverse.map dt).Nodup := by rw [List.map_reverse]; exact (List.reverse_perm _).nodup_iff.2 h.is.1
  have hst : t = s := inc_ext ht.inc hs.inc fun x => (ht.of_nodup hnr x).trans (List.mem_reverse.trans (hs.of_nodup h.is.1 x).symm)
  have hS := h.sorted hs
  refine ⟨by rw [len_core hc, hs.length h.is.1], by rw [hct, hc, hst], histM_zero.2 (h.perm hnr fun x => List.mem_reverse), known_of_mem fun x => List.mem_reverse, fun k => ?_, fun k => ?_⟩
  · have e : (s'.take k).map core = (s.take k).map core := by rw [List.map_take, List.map_take, hc]
    rw [hist_core e]
    exact histM_zero.2 (hS.begin hs.inc k)
  · have e : (s'.take k).map core = (s.take k).map core := by rw [List.map_take, List.map_take, hc]
    rw [known_core e, cut_core hc, e]
    congr 1
    exact hS.cut_begin hs.inc k
end Go.Proofs.YtagdapmnghnphaaDoor.V
