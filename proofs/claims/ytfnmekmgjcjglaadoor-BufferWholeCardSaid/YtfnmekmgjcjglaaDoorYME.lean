/-
  Rows of operations in memory: those of arguments, and those that a call owns.
-/
import Derived.Test.YtfnmekmgjcjglaaDoorYOG
import Derived.Test.YtfnmekmgjcjglaaDoorYJV
import Derived.Test.YtfnmekmgjcjglaaDoorYMC
import Derived.Test.YtfnmekmgjcjglaaDoorYJU
import Derived.Great.BuildSlice
import Derived.BigCall
namespace Go.Proofs.YtfnmekmgjcjglaaDoor.V
set_option linter.unusedVariables false
set_option linter.unusedSimpArgs false
set_option maxRecDepth 100000
open Go Go.RowKit Go.Maps Wire
set_option maxRecDepth 100000
set_option linter.unusedVariables false
set_option linter.unusedSimpArgs false
theorem oneO (o : OpM) (h : o.lv.oneCell' = true) : (oc o).all (·.oneCell') = true := by
  unfold oc
  simp only [Value.oneCell'] at h ⊢
  simp [h]
def zeroO : OpM := ⟨0, 0, fun _ => 0, 0, 0, 0, 0, 0, 0, 0, 0, 0, 0, 0, 0, 0, 0, 0, 0, 0, 0, .slice none 0 0⟩
theorem row_ne {w : World} {g k : Nat} {cs : Array Value} {o : Option Obj} (h : w.heap[k]? = o) (hne : g ≠ k) : (w.setRow g cs).heap[k]? = o := by
  rw [← h]
  unfold World.setRow
  simp [Array.getElem?_modify, hne]
theorem heap_s {w : World} {b k : Nat} {cs : Array Value} {t : TypeId} {v : Value} (h : w.heap[b]? = some (.cells cs t (0, 0))) : (w.setCell ⟨b, k, none⟩ v).heap[b]? = some (.cells (cs.setIfInBounds k v) t (0, 0)) := heap_setCell_same _ _ _ _ _ _ h
theorem heap_n {w : World} {b b' k : Nat} {o : Option Obj} {v : Value} (h : w.heap[b]? = o) (hne : b' ≠ b) : (w.setCell ⟨b', k, none⟩ v).heap[b]? = o := by
  rw [← h]; simp [World.setCell, Array.getElem?_modify, hne]
def flatC (l : List Claim) : List Value := l.flatMap fun x => (cl x).toList
theorem flatC_append (l m : List Claim) : flatC (l ++ m) = flatC l ++ flatC m := by simp [flatC]
theorem flatC_one (x : Claim) : flatC [x] = (cl x).toList := by simp [flatC]
theorem flatC_length (l : List Claim) : (flatC l).length = l.length * 4 := by
  induction l with
  | nil => rfl
  | cons x r ih => rw [show x :: r = [x] ++ r from rfl, flatC_append, List.length_append, flatC_one, ih, List.length_append]; simp [cl]; omega
theorem infoClaim : (Tryd.prog.info? 94).map (fun i => (i.zero, i.size, i.bytes)) = some (some (.agg #[.int .u8 0, .int .u32 0, .int .u8 0, .int .u32 0]), 4, 16) := by kernel_rfl
theorem one_claim (x : Claim) : ∀ u ∈ (cl x).toList, u.oneCell' = true := by intro u hu; simp [cl] at hu; rcases hu with rfl | rfl | rfl | rfl <;> rfl
def setL (o : OpM) (v : Value) : OpM := { o with lv := v }
theorem setL_setL (o : OpM) (u v : Value) : setL (setL o u) v = setL o v := rfl
theorem block_add (a : Addr) (k : Nat) : (a.add k).block = a.block := by unfold Addr.add; split <;> rfl
/-! ### Rows of operations -/
abbrev OC := OpM × List Claim
def flatO (l : List OC) : List Value := l.flatMap fun x => (oc x.1).toList
theorem flatO_append (l m : List OC) : flatO (l ++ m) = flatO l ++ flatO m := by simp [flatO]
theorem flatO_one (x : OC) : flatO [x] = (oc x.1).toList := by simp [flatO]
theorem flatO_length (l : List OC) : (flatO l).length = l.length * 29 := by
  induction l with
  | nil => rfl
  | cons x r ih => rw [show x :: r = [x] ++ r from rfl, flatO_append, List.length_append, flatO_one, ih, List.length_append, Array.length_toList, oc_size]; simp; omega
theorem flatO_get : ∀ (l : List OC) (i : Nat) (x : OC), l[i]? = some x → ∀ k, k < 29 → (flatO l)[i * 29 + k]? = (oc x.1)[k]?
  | [], i, x, h, _, _ => by simp at h
  | y :: r, 0, x, h, k, hk => by
    simp at h; subst h
    rw [show y :: r = [y] ++ r from rfl, flatO_append, flatO_one, List.getElem?_append_left (by rw [Array.length_toList, oc_size]; omega)]
    simp
  | y :: r, i + 1, x, h, k, hk => by
    simp at h
    rw [show y :: r = [y] ++ r from rfl, flatO_append, flatO_one, List.getElem?_append_right (by rw [Array.length_toList, oc_size]; omega)]
    rw [show (i + 1) * 29 + k - (oc y.1).toList.length = i * 29 + k by rw [Array.length_toList, oc_size]; omega]
    exact flatO_get r i x h k hk
theorem oc_get (o : OpM) {k : Nat} (hk : k < 29) : ∃ v, (oc o)[k]? = some v := ⟨_, Array.getElem?_eq_getElem (by rw [oc_size]; exact hk)⟩
/-- A slice that reads as these operations. -/
def IsOps (w : World) (a : Option Addr) (len cap : Nat) (xs : List OC) : Prop :=
  xs.length = len ∧ len ≤ cap ∧ cap ≤ maxLen ∧ (∀ x ∈ xs, okO x.1 ∧ ClaimsV w x.1.lv x.2) ∧
    match a with
    | none => len = 0 ∧ cap = 0
    | some ad => ∀ i x, xs[i]? = some x → ∀ k, k < 29 → w.cell? ((ad.add (i * 29)).add k) = (oc x.1)[k]?
theorem IsOps.keep {w w' : World} {a : Option Addr} {len cap : Nat} {xs : List OC} (h : IsOps w a len cap xs) (hb : Below w.heap.size w w') : IsOps w' a len cap xs := by
  obtain ⟨h1, h2, h3, h4, h5⟩ := h
  refine ⟨h1, h2, h3, fun x hx => ⟨(h4 x hx).1, (h4 x hx).2.keep hb⟩, ?_⟩
  cases a with
  | none => exact h5
  | some ad =>
    intro i x hx k hk
    obtain ⟨v, hv⟩ := oc_get x.1 hk
    have h := h5 i x hx k hk
    rw [hv] at h ⊢
    exact cell_keep hb h
/-- An operation that lies somewhere in memory. -/
def OpIn (w : World) (p : Addr) (o : OpM) : Prop := ∀ k, k < 29 → w.cell? (p.add k) = (oc o)[k]?
theorem OpIn.keep {w w' : World} {p : Addr} {o : OpM} (h : OpIn w p o) (hb : Below w.heap.size w w') : OpIn w' p o := by
  intro k hk
  obtain ⟨v, hv⟩ := oc_get o hk
  have := h k hk
  rw [hv] at this ⊢
  exact cell_keep hb this
theorem IsOps.at {w : World} {ad : Addr} {len cap : Nat} {xs : List OC} (h : IsOps w (some ad) len cap xs) (i : Nat) (hi : i < len) :
    ∃ (o : OpM) (l : List Claim), xs[i]? = some (o, l) ∧ okO o ∧ ClaimsV w o.lv l ∧ OpIn w (ad.add (i * 29)) o := by
  obtain ⟨h1, h2, h3, h4, h5⟩ := h
  have hx : xs[i]? = some (xs[i]'(by omega)) := List.getElem?_eq_getElem (by omega)
  have hc := h5 i _ hx
  have hok := h4 _ (List.mem_of_getElem? hx)
  generalize xs[i]'(by omega) = x at hx hc hok
  obtain ⟨o, l⟩ := x
  exact ⟨o, l, hx, hok.1, hok.2, hc⟩
theorem IsOps.none_len {w : World} {len cap : Nat} {xs : List OC} (h : IsOps w none len cap xs) : len = 0 := h.2.2.2.2.1
def OpsV (w : World) (v : Value) (l : List OC) : Prop := ∃ a len cap, v = .slice a len cap ∧ IsOps w a len cap l
theorem OpsV.keep {w w' : World} {v : Value} {l : List OC} (h : OpsV w v l) (hb : Below w.heap.size w w') : OpsV w' v l := by
  obtain ⟨a, len, cap, e, h⟩ := h
  exact ⟨a, len, cap, e, h.keep hb⟩
theorem OpsV.nil (w : World) : OpsV w (.slice none 0 0) [] := ⟨none, 0, 0, rfl, rfl, Nat.le_refl _, by unfold maxLen; omega, by simp, rfl, rfl⟩
theorem OpsV.one {w : World} {v : Value} {l : List OC} (h : OpsV w v l) : v.oneCell' = true := by obtain ⟨a, n, c, rfl, _⟩ := h; rfl
theorem OpsV.all {w : World} {v : Value} {l : List OC} (h : OpsV w v l) : ∀ x ∈ l, okO x.1 ∧ ClaimsV w x.1.lv x.2 := by obtain ⟨a, n, c, rfl, h⟩ := h; exact h.2.2.2.1
theorem ClaimsV.all {w : World} {v : Value} {l : List Claim} (h : ClaimsV w v l) : ∀ x ∈ l, Claim.ok x := by obtain ⟨a, n, c, rfl, h⟩ := h; exact h.2.2.2.1
/-- The slice of an operation's lines. -/
theorem OpIn.lines {w : World} {p : Addr} {o : OpM} (h : OpIn w p o) : w.cell? (p.add 28) = some o.lv := (h 28 (by omega)).trans rfl
theorem run_loadVar_op {w : World} {p : Addr} {o : OpM} (h : OpIn w p o) : (loadVar 50 p).run Tryd.prog w = .ok (.agg (oc o)) w := by
  have hl : (loadCells p (oc o).toList.length).run Tryd.prog w = .ok (oc o).toList.toArray w :=
    run_loadCells_list (P := Tryd.prog) w p (oc o).toList (fun j v hv => by
      have hj := (List.getElem?_eq_some_iff.1 hv).1
      rw [Array.length_toList, oc_size] at hj
      rw [h j hj, ← hv, Array.getElem?_toList])
  have hu := Tryd.underlying50
  have hi := opSize o
  cases hq : Tryd.prog.info? 50 with
  | none => simp [hq] at hi
  | some i =>
    have hs : i.size = (oc o).size := by simpa [hq] using hi
    have hagg : (isAgg 50).run Tryd.prog w = .ok true w := by
      unfold isAgg
      rw [Sem.run_bind, run_underlying hu w]
      rfl
    simp only [Array.length_toList, Array.toArray_toList] at hl
    simp [loadVar, Sem.run_bind, hagg, sizeOf, typeInfo, hq, hs, hl]
theorem run_load_opIn {c : Oper} {a : Act} {w : World} (x : Operand) (ho : c.op = .load 50 x) (p : Addr) (hx : a.eval x = .pointer (some p)) (o : OpM) (hg : OpIn w p o) :
    (execOp a.eval c).run Tryd.prog w = .ok (.value (.agg (oc o))) w := by
  unfold execOp
  simp only [ho, hx, Instr.loadAt, Instr.sureAddr, Sem.run_bind, Sem.run_pure, Result.andThen_ok, run_loadVar_op hg]
theorem load_opIn {ops : Array Oper} {rest : List Oper} {c : Oper} {a : Act} {w : World} {Q : Exit → Act → World → Prop} (x : Operand) (ho : c.op = .load 50 x) (hw : Region.wanted c (yielded ops a.tmps) = true)
    (p : Addr) (hx : a.eval x = .pointer (some p)) (o : OpM) (hg : OpIn w p o)
    (h : wpList Tryd.prog ops Q rest (a.put c.dst (.agg (oc o))) w) : wpList Tryd.prog ops Q (c :: rest) a w :=
  BigFrame.wpList_want hw fun K hK => by
    unfold Oper.wp
    rw [run_load_opIn x ho p hx o hg]
    exact hK _ _ h
theorem flatC_get : ∀ (l : List Claim) (i : Nat) (x : Claim), l[i]? = some x → ∀ k, k < 4 → (flatC l)[i * 4 + k]? = (cl x)[k]?
  | [], i, x, h, _, _ => by simp at h
  | y :: r, 0, x, h, k, hk => by
    simp at h; subst h
    rw [show y :: r = [y] ++ r from rfl, flatC_append, flatC_one, List.getElem?_append_left (by rw [Array.length_toList, cl_size]; omega)]
    simp
  | y :: r, i + 1, x, h, k, hk => by
    simp at h
    rw [show y :: r = [y] ++ r from rfl, flatC_append, flatC_one, List.getElem?_append_right (by rw [Array.length_toList, cl_size]; omega)]
    rw [show (i + 1) * 4 + k - (cl y).toList.length = i * 4 + k by rw [Array.length_toList, cl_size]; omega]
    exact flatC_get r i x h k hk
def core (x : OC) : OC := (setL x.1 (.slice none 0 0), x.2)
/-- Lines that lie below a block, or in a block of lines. -/
def ClaimsB (B : Nat) (w : World) (v : Value) (l : List Claim) : Prop := ClaimsV w v l ∧ ∀ a n c, v = .slice (some a) n c → l = [] ∨ a.block < B ∨ ∃ cs : Array Value, w.heap[a.block]? = some (.cells cs 94 (0, 0))
/-- A row of operations that this call owns. -/
def OwnO (B : Nat) (w : World) (v : Value) (l : List OC) : Prop := w.ownsRow B 50 29 v l.length (flatO l) ∧ ∀ x ∈ l, okO x.1 ∧ ClaimsB B w x.1.lv x.2
theorem ClaimsB.typ {B : Nat} {w w' : World} {v : Value} {l : List Claim} (h : ClaimsB B w v l) (h0 : ∀ b, b < B → w'.heap[b]? = w.heap[b]?)
    (hs : ∀ (b : Nat) (cs : Array Value), w.heap[b]? = some (.cells cs 94 (0, 0)) → w'.heap[b]? = some (.cells cs 94 (0, 0))) : ClaimsB B w' v l := by
  obtain ⟨⟨a, n, c, rfl, h1, h2, h3, h4, h5⟩, ht⟩ := h
  refine ⟨⟨a, n, c, rfl, h1, h2, h3, h4, ?_⟩, fun a n c e => (ht a n c e).imp_right (fun h => h.imp_right (fun ⟨cs, hc⟩ => ⟨cs, hs _ _ hc⟩))⟩
  cases a with
  | none => exact h5
  | some ad =>
    intro i x hx k hk
    have e : w'.heap[ad.block]? = w.heap[ad.block]? := by
      rcases ht ad n c rfl with hn | hb | ⟨cs, hc⟩
      · subst hn; simp at hx
      · exact h0 _ hb
      · exact (hs _ _ hc).trans hc.symm
    rw [← h5 i x hx k hk]
    refine World.cell?_of_block ?_
    have hb : ((ad.add (i * 4)).add k).block = ad.block := by
      unfold Addr.add; split <;> split <;> rfl
    rw [hb]; exact e
theorem ClaimsB.keep {B : Nat} {w w' : World} {v : Value} {l : List Claim} (h : ClaimsB B w v l) (hB : B ≤ w.heap.size) (hb : Below w.heap.size w w') : ClaimsB B w' v l :=
  h.typ (fun b hlt => hb.block b (Nat.lt_of_lt_of_le hlt hB)) (fun b cs hc => heap_keep hc hb)
theorem ClaimsV.below {w : World} {v : Value} {l : List Claim} (h : ClaimsV w v l) {B : Nat} (hB : w.heap.size ≤ B) : ClaimsB B w v l := by
  refine ⟨h, fun a' n' c' e => ?_⟩
  obtain ⟨a, n, c, rfl, h1, h2, h3, h4, h5⟩ := h
  cases l with
  | nil => exact .inl rfl
  | cons x r =>
    refine .inr (.inl ?_)
    cases e
    have := h5 0 x rfl 0 (by omega)
    obtain ⟨v, hv⟩ := cl_get x (k := 0) (by omega)
    rw [hv] at this
    have := cell_lt this
    rw [block_add, block_add] at this
    omega
theorem ClaimsB.any {w : World} {v : Value} {l : List Claim} (h : ClaimsB 0 w v l) (B : Nat) : ClaimsB B w v l := ⟨h.1, fun a n c e => by
  rcases h.2 a n c e with h | h | h
  · exact .inl h
  · exact absurd h (by omega)
  · exact .inr (.inr h)⟩
theorem ClaimsB.nil (B : Nat) (w : World) : ClaimsB B w (.slice none 0 0) [] := ⟨ClaimsV.nil w, fun a n c e => by cases e⟩
theorem OwnO.nil (B : Nat) (w : World) : OwnO B w (.slice none 0 0) [] := ⟨⟨rfl, .inl ⟨rfl, rfl⟩⟩, by simp⟩
theorem OwnO.form {B : Nat} {w : World} {v : Value} {l : List OC} (h : OwnO B w v l) : ∃ p c, v = .slice p l.length c := by
  rcases h.1.2 with ⟨rfl, e⟩ | ⟨g', cap, cur, rfl, _⟩
  · exact ⟨none, 0, by rw [e]⟩
  · exact ⟨_, _, rfl⟩
theorem OwnO.same {B : Nat} {w w' : World} {v : Value} {l : List OC} (h : OwnO B w v l) (h0 : ∀ b, b < B → w'.heap[b]? = w.heap[b]?) (hs : ∀ (b : Nat) (cs : Array Value) t, t = 50 ∨ t = 94 → w.heap[b]? = some (.cells cs t (0, 0)) → w'.heap[b]? = some (.cells cs t (0, 0))) : OwnO B w' v l := by
  refine ⟨⟨h.1.1, ?_⟩, fun x hx => ⟨(h.2 x hx).1, (h.2 x hx).2.typ h0 (fun b cs hc => hs b cs _ (.inr rfl) hc)⟩⟩
  rcases h.1.2 with hn | ⟨g, cap, cur, hv, hbg, hg, rest⟩
  · exact .inl hn
  · exact .inr ⟨g, cap, cur, hv, hbg, hs g cur _ (.inl rfl) hg, rest⟩
theorem OwnO.keep {B : Nat} {w w' : World} {v : Value} {l : List OC} (h : OwnO B w v l) (hB : B ≤ w.heap.size) (hb : Below w.heap.size w w') : OwnO B w' v l := h.same (fun b hlt => hb.block b (Nat.lt_of_lt_of_le hlt hB)) (fun b cs t _ hc => heap_keep hc hb)
theorem OwnO.opsV {B : Nat} {w : World} {v : Value} {l : List OC} (h : OwnO B w v l) : OpsV w v l := by
  have hall : ∀ x ∈ l, okO x.1 ∧ ClaimsV w x.1.lv x.2 := fun x hx => ⟨(h.2 x hx).1, (h.2 x hx).2.1⟩
  rcases h.1.2 with ⟨rfl, hn⟩ | ⟨g', cap, cur, rfl, hB, hgg, hc, hm, hs, ht⟩
  · obtain rfl : l = [] := List.length_eq_zero_iff.1 hn
    exact OpsV.nil w
  · refine ⟨_, _, _, rfl, rfl, hc, hm, hall, ?_⟩
    intro i x hx k hk
    have hi := (List.getElem?_eq_some_iff.1 hx).1
    have e1 : ((⟨g', 0, none⟩ : Addr).add (i * 29)).add k = ⟨g', i * 29 + k, none⟩ := by
      unfold Addr.add
      split <;> split <;> simp_all
    rw [e1, cell_of_heap hgg, ← flatO_get l i x hx k hk, ← ht, List.getElem?_take, if_pos (by omega)]
    simp
/-- Behind an append. -/
theorem OwnO.push {B : Nat} {w w1 w2 : World} {v v2 : Value} {l : List OC} {x : OC} (h : OwnO B w v l) (hBw : B ≤ w.heap.size) (hb : Below w.heap.size w w1) (hgr : w1.grownBy w2 v.ownBlock) (ho : w2.ownsRow B 50 29 v2 (l.length + 1) (flatO l ++ (oc x.1).toList)) (hx : okO x.1) (hc : ClaimsB B w1 x.1.lv x.2) : OwnO B w2 v2 (l ++ [x]) := by
  have hne : ∀ (b : Nat) (cs : Array Value), w1.heap[b]? = some (.cells cs 94 (0, 0)) → w2.heap[b]? = some (.cells cs 94 (0, 0)) := fun b cs hcs => by
    refine (hgr.block b (lt_of_heap hcs) (fun e => ?_)).trans hcs
    rcases h.1.2 with ⟨rfl, _⟩ | ⟨g', cap, cur, rfl, hB, hgg, _⟩
    · cases e
    · obtain rfl : b = g' := Option.some.inj e
      rw [heap_keep hgg hb] at hcs
      cases hcs
  have h0 : ∀ b, b < B → w2.heap[b]? = w1.heap[b]? := fun b hlt => by
    refine hgr.block b (by have := hb.size; omega) (fun e => ?_)
    rcases h.1.2 with ⟨rfl, _⟩ | ⟨g', cap, cur, rfl, hB, hgg, _⟩
    · cases e
    · obtain rfl : b = g' := Option.some.inj e
      omega
  refine ⟨by rw [flatO_append, flatO_one, List.length_append]; exact ho, fun y hy => ?_⟩
  rcases List.mem_append.1 hy with hy | hy
  · exact ⟨(h.2 y hy).1, ((h.2 y hy).2.keep hBw hb).typ h0 hne⟩
  · rw [List.mem_singleton] at hy
    subst hy
    exact ⟨hx, hc.typ h0 hne⟩
/-- What the append leaves as it was. -/
theorem OwnO.rest {B : Nat} {w w1 w2 : World} {v : Value} {l : List OC} (h : OwnO B w v l) (hb : Below w.heap.size w w1) (hgr : w1.grownBy w2 v.ownBlock) {b : Nat} {cs : Array Value} {t : TypeId} {fr : Nat × Nat} (ht : t ≠ 50) (hc : w1.heap[b]? = some (.cells cs t fr)) : w2.heap[b]? = some (.cells cs t fr) := by
  refine (hgr.block b (lt_of_heap hc) (fun e => ?_)).trans hc
  rcases h.1.2 with ⟨rfl, _⟩ | ⟨g', cap, cur, rfl, hB, hgg, _⟩
  · cases e
  · obtain rfl : b = g' := Option.some.inj e
    rw [heap_keep hgg hb] at hc
    cases hc
    exact ht rfl
theorem OwnO.below {B : Nat} {w0 w w1 w2 : World} {v : Value} {l : List OC} (h : OwnO B w v l) (hb0 : Below B w0 w1) (hB : B ≤ w1.heap.size) (hgr : w1.grownBy w2 v.ownBlock) : Below B w0 w2 :=
  hb0.grown hgr hB (fun k e => by
    rcases h.1.2 with ⟨rfl, _⟩ | ⟨g', cap, cur, rfl, hB, hgg, _⟩
    · cases e
    · obtain rfl : k = g' := (Option.some.inj e).symm
      exact hB)
theorem owns_claimsB {W : World} {base B : Nat} {v : Value} {l : List Claim} (h : W.ownsRow base 94 4 v l.length (flatC l)) (hok : ∀ x ∈ l, Claim.ok x) : ClaimsB B W v l := by
  rcases h.2 with ⟨rfl, hn⟩ | ⟨g', cap, cur, rfl, hB, hgg, hc, hm, hs, ht⟩
  · obtain rfl : l = [] := List.length_eq_zero_iff.1 hn
    exact ⟨ClaimsV.nil W, fun a n c e => by cases e⟩
  · refine ⟨⟨_, _, _, rfl, rfl, hc, hm, hok, ?_⟩, fun a n c e => ?_⟩
    · intro i x hx k hk
      have hi := (List.getElem?_eq_some_iff.1 hx).1
      have e1 : ((⟨g', 0, none⟩ : Addr).add (i * 4)).add k = ⟨g', i * 4 + k, none⟩ := by
        unfold Addr.add
        split <;> split <;> simp_all
      rw [e1, cell_of_heap hgg, ← flatC_get l i x hx k hk, ← ht, List.getElem?_take, if_pos (by omega)]
      simp
    · obtain ⟨rfl, _, _⟩ := (by simpa using e : (⟨g', 0, none⟩ : Addr) = a ∧ _ ∧ _)
      exact .inr (.inr ⟨cur, hgg⟩)
/-- An operation of a row, its cells by their addresses. -/
structure OpC (w : World) (B O : Nat) (sp : Option Nat) (o : OpM) : Prop where
  all : OpIn w ⟨B, O, sp⟩ o
  c0 : w.cell? ⟨B, O, sp⟩ = some (.int .u8 (o.r : Int))
  c1 : w.cell? ⟨B, O + 1, none⟩ = some (.int .u32 (o.n : Int))
  dep : ∀ k, k < 8 → w.cell? ⟨B, O + (2 + k), none⟩ = some (.int .u32 (o.dep k : Int))
  c10 : w.cell? ⟨B, O + 10, none⟩ = some (.int .u64 (o.tm : Int))
  c28 : w.cell? ⟨B, O + 28, none⟩ = some o.lv
theorem oc_dep (o : OpM) {k : Nat} (hk : k < 8) : (oc o)[2 + k]? = some (.int .u32 (o.dep k : Int)) := by
  match k, hk with
  | 0, _ => rfl
  | 1, _ => rfl
  | 2, _ => rfl
  | 3, _ => rfl
  | 4, _ => rfl
  | 5, _ => rfl
  | 6, _ => rfl
  | 7, _ => rfl
theorem OpIn.c {w : World} {B O : Nat} {sp : Option Nat} {o : OpM} (h : OpIn w ⟨B, O, sp⟩ o) : OpC w B O sp o := by
  have e : ∀ k, 0 < k → k < 29 → w.cell? ⟨B, O + k, none⟩ = (oc o)[k]? := fun k h0 hk => by
    have h := h k hk
    unfold Addr.add at h
    rw [if_neg (by omega)] at h
    exact h
  exact ⟨h, (h 0 (by omega)).trans rfl, (e 1 (by omega) (by omega)).trans rfl, fun k hk => (e (2 + k) (by omega) (by omega)).trans (oc_dep o hk), (e 10 (by omega) (by omega)).trans rfl, (e 28 (by omega) (by omega)).trans rfl⟩
theorem OpC.keep {w w' : World} {B O : Nat} {sp : Option Nat} {o : OpM} (h : OpC w B O sp o) (hb : Below w.heap.size w w') : OpC w' B O sp o := (h.all.keep hb).c
theorem OpsV.at {w : World} {ad : Addr} {len cap : Nat} {l : List OC} (h : IsOps w (some ad) len cap l) {i : Nat} (hi : i < len) :
    ∃ (x : OC) (B O : Nat) (sp : Option Nat), l[i]? = some x ∧ okO x.1 ∧ ClaimsV w x.1.lv x.2 ∧ ad.add (i * 29) = ⟨B, O, sp⟩ ∧ OpC w B O sp x.1 := by
  obtain ⟨o, c, hx, hok, hc, hin⟩ := h.at i hi
  obtain ⟨A, hA⟩ : ∃ A, A = ad.add (i * 29) := ⟨_, rfl⟩
  rw [← hA] at hin
  obtain ⟨B, O, sp⟩ := A
  exact ⟨(o, c), B, O, sp, hx, hok, hc, hA.symm, hin.c⟩
theorem OpsV.take {w : World} {a : Option Addr} {len cap : Nat} {l : List OC} (h : IsOps w a len cap l) {k : Nat} (hk : k ≤ len) (hc : k ≤ cap) : IsOps w a k cap (l.take k) := by
  obtain ⟨h1, h2, h3, h4, h5⟩ := h
  refine ⟨by rw [List.length_take]; omega, hc, h3, fun x hx => h4 x (List.mem_of_mem_take hx), ?_⟩
  cases a with
  | none => exact ⟨by have := h5.1; omega, h5.2⟩
  | some ad =>
    intro i x hx j hj
    rw [List.getElem?_take] at hx
    split at hx
    · exact h5 i x hx j hj
    · cases hx
theorem infoOp : (Tryd.prog.info? 50).map (fun i => (i.zero, i.size, i.bytes)) = some (some (.agg (oc zeroO)), 29, 144) := by kernel_rfl
theorem one_op (o : OpM) (h : o.lv.oneCell' = true) : ∀ u ∈ (oc o).toList, u.oneCell' = true := fun u hu => by
  have := oneO o h
  rw [Array.all_eq_true_iff_forall_mem] at this
  exact this u (by simpa using hu)
theorem cells_newO (n : Nat) (W : World) (o : OpM) (hn : n = W.heap.size) : ∀ j z, (oc o).toList[j]? = some z → (W.alloc (.cells (oc o) 50)).cell? ((⟨n, 0, none⟩ : Addr).add j) = some z := by
  intro j z h
  subst hn
  rw [add8, cell_of_heap (heap_alloc_last' W (.cells (oc o) 50)), ← h, Array.getElem?_toList]
theorem fill_op (o : OpM) : Instr.fill (fun i => some (i * 29, 29)) ((Array.range (1 * 29)).map ((Value.agg (oc zeroO)).cells[· % (Value.agg (oc zeroO)).cells.size]!)) [(0, .agg (oc o))] = some (oc o) := by kernel_rfl
theorem build_op {ops : Array Oper} {rest : List Oper} {c : Oper} {a : Act} {w : World} {Q : Exit → Act → World → Prop} (hg : c.guard = none) (x : Operand) (ho : c.op = .buildSlice 22 1 #[(0, x)])
    (o : OpM) (hx : a.eval x = .agg (oc o)) (h : wpList Tryd.prog ops Q rest (a.put c.dst (.slice (some ⟨w.heap.size, 0, none⟩) 1 1)) (w.alloc (.cells (oc o) 50))) : wpList Tryd.prog ops Q (c :: rest) a w := by
  obtain ⟨i0, hi, hz0, hz1, hz2⟩ := info_parts infoOp
  refine wpList_buildSlice hg 22 50 1 _ ho (oc o) i0 _ Tryd.underlying22 hi hz0 (by rw [hz1]; omega) (by rw [hz1]; omega) ?_ h
  rw [hz1]
  simpa [hx] using fill_op o
end Go.Proofs.YtfnmekmgjcjglaaDoor.V
namespace Go.Proofs.YtfnmekmgjcjglaaDoor.V
set_option linter.unusedVariables false
set_option linter.unusedSimpArgs false
set_option maxRecDepth 100000
open Go Go.RowKit Go.Maps
set_option maxRecDepth 100000
set_option linter.unusedVariables false
set_option linter.unusedSimpArgs false
/-! ### Rows of operations, as they read -/
/-- The dot of an operation. -/
def dt (x : OC) : Dot := (x.1.r, x.1.n)
/-- Is the first before the second? -/
def befB (a b : OC) : Bool := covB b.1.dep (dt a)
/-- Does the first come before the second in the order? -/
def ltO (a b : OC) : Prop := a.1.tm < b.1.tm ∨ a.1.tm = b.1.tm ∧ (a.1.r < b.1.r ∨ a.1.r = b.1.r ∧ a.1.n < b.1.n)
instance (a b : OC) : Decidable (ltO a b) := by unfold ltO; infer_instance
def cmpM (a b : OC) : Int := if ltO a b then -1 else if ltO b a then 1 else 0
theorem ltO_irr (a : OC) : ¬ ltO a a := by unfold ltO; omega
theorem ltO_trans {a b c : OC} (h : ltO a b) (k : ltO b c) : ltO a c := by unfold ltO at *; omega
theorem ltO_asym {a b : OC} (h : ltO a b) : ¬ ltO b a := by unfold ltO at *; omega
theorem ltO_total {a b : OC} (h : dt a ≠ dt b) : ltO a b ∨ ltO b a := by
  unfold ltO dt at *
  simp only [ne_eq, Prod.mk.injEq, not_and] at h
  by_cases h1 : a.1.tm = b.1.tm <;> by_cases h2 : a.1.r = b.1.r <;> by_cases h3 : a.1.n = b.1.n <;> simp_all <;> omega
theorem cmpM_neg {a b : OC} : cmpM a b < 0 ↔ ltO a b := by
  unfold cmpM
  by_cases h : ltO a b
  · simp [h]
  · by_cases h' : ltO b a <;> simp [h, h']
/-- The greatest number of a replica, up to here. -/
def topN (r : Nat) (m : Nat) (x : OC) : Nat := if x.1.r = r then max m x.1.n else m
/-- What a row knows. -/
def knownM (l : List OC) : Vec := fun r => if r < 8 then l.foldl (topN r) 0 else 0
theorem foldl_top_ge (r : Nat) : ∀ (l : List OC) (m : Nat), m ≤ l.foldl (topN r) m
  | [], m => Nat.le_refl m
  | x :: l, m => by
    refine Nat.le_trans ?_ (foldl_top_ge r l _)
    unfold topN; split <;> omega
theorem foldl_top_mem (r : Nat) : ∀ (l : List OC) (m : Nat) (x : OC), x ∈ l → x.1.r = r → x.1.n ≤ l.foldl (topN r) m
  | y :: l, m, x, hx, hr => by
    rcases List.mem_cons.1 hx with rfl | hx
    · refine Nat.le_trans ?_ (foldl_top_ge r l _)
      unfold topN; rw [if_pos hr]; omega
    · exact foldl_top_mem r l _ x hx hr
theorem foldl_top_or (r : Nat) : ∀ (l : List OC) (m : Nat), l.foldl (topN r) m = m ∨ ∃ x ∈ l, x.1.r = r ∧ x.1.n = l.foldl (topN r) m
  | [], m => Or.inl rfl
  | y :: l, m => by
    rcases foldl_top_or r l (topN r m y) with h | ⟨x, hx, h1, h2⟩
    · show l.foldl (topN r) (topN r m y) = m ∨ _
      by_cases hy : y.1.r = r
      · by_cases hm : y.1.n ≤ m
        · left; rw [h]; unfold topN; rw [if_pos hy]; omega
        · right
          refine ⟨y, List.mem_cons_self .., hy, ?_⟩
          show y.1.n = l.foldl (topN r) (topN r m y)
          rw [h]; unfold topN; rw [if_pos hy]; omega
      · left; rw [h]; unfold topN; rw [if_neg hy]
    · exact Or.inr ⟨x, List.mem_cons_of_mem _ hx, h1, h2⟩
theorem known_ge {l : List OC} {x : OC} (hx : x ∈ l) (hr : x.1.r < 8) : x.1.n ≤ knownM l x.1.r := by
  unfold knownM; rw [if_pos hr]; exact foldl_top_mem _ l 0 x hx rfl
theorem known_or (l : List OC) (r : Nat) : knownM l r = 0 ∨ ∃ x ∈ l, x.1.r = r ∧ x.1.n = knownM l r := by
  unfold knownM
  by_cases hr : r < 8
  · rw [if_pos hr]; exact foldl_top_or r l 0
  · exact Or.inl (if_neg hr)
theorem known_out (l : List OC) {r : Nat} (h : ¬ r < 8) : knownM l r = 0 := if_neg h
theorem known_of_mem {l k : List OC} (h : ∀ x, x ∈ l ↔ x ∈ k) : knownM l = knownM k := by
  have key : ∀ (l k : List OC), (∀ x, x ∈ l → x ∈ k) → ∀ r, knownM l r ≤ knownM k r := by
    intro l k h r
    rcases known_or l r with e | ⟨x, hx, hr, hn⟩
    · omega
    · by_cases h8 : r < 8
      · rw [← hn, ← hr]; exact known_ge (h x hx) (by omega)
      · rw [known_out l h8]; omega
  exact funext fun r => Nat.le_antisymm (key l k (fun x => (h x).1) r) (key k l (fun x => (h x).2) r)
/-- What is first with each dot, in the order. -/
structure SortOf (l s : List OC) : Prop where
  inc : s.Pairwise ltO
  mem : ∀ x, x ∈ s ↔ l.find? (fun y => dt y == dt x) = some x
theorem inc_nodup {s : List OC} (h : s.Pairwise ltO) : s.Nodup := by
  refine List.Pairwise.imp ?_ h
  intro a b hab e
  subst e
  exact ltO_irr _ hab
theorem inc_ext : ∀ {s t : List OC}, s.Pairwise ltO → t.Pairwise ltO → (∀ x, x ∈ s ↔ x ∈ t) → s = t
  | [], [], _, _, _ => rfl
  | [], y :: t, _, _, h => by have := (h y).2 (List.mem_cons_self ..); simp at this
  | x :: s, [], _, _, h => by have := (h x).1 (List.mem_cons_self ..); simp at this
  | x :: s, y :: t, hs, ht, h => by
    obtain ⟨h1, h2⟩ := List.pairwise_cons.1 hs
    obtain ⟨k1, k2⟩ := List.pairwise_cons.1 ht
    have e : x = y := by
      rcases List.mem_cons.1 ((h x).1 (List.mem_cons_self ..)) with e | hx
      · exact e
      · rcases List.mem_cons.1 ((h y).2 (List.mem_cons_self ..)) with e | hy
        · exact e.symm
        · exact absurd (h1 y hy) (ltO_asym (k1 x hx))
    subst e
    congr 1
    refine inc_ext h2 k2 fun z => ⟨fun hz => ?_, fun hz => ?_⟩
    · rcases List.mem_cons.1 ((h z).1 (List.mem_cons_of_mem _ hz)) with rfl | hz'
      · exact absurd (h1 z hz) (ltO_irr z)
      · exact hz'
    · rcases List.mem_cons.1 ((h z).2 (List.mem_cons_of_mem _ hz)) with rfl | hz'
      · exact absurd (k1 z hz) (ltO_irr z)
      · exact hz'
theorem find_first {l : List OC} {x : OC} (h : l.find? (fun y => dt y == dt x) = some x) : x ∈ l := List.mem_of_find?_eq_some h
theorem nodup_find : ∀ {l : List OC}, (l.map dt).Nodup → ∀ {x : OC}, x ∈ l → l.find? (fun y => dt y == dt x) = some x
  | y :: l, h, x, hx => by
    rw [List.map_cons, List.nodup_cons] at h
    rcases List.mem_cons.1 hx with rfl | hx
    · simp
    · have : dt y ≠ dt x := fun e => h.1 (e ▸ List.mem_map_of_mem hx)
      rw [List.find?_cons_of_neg (by simpa using this)]
      exact nodup_find h.2 hx
theorem nodup_inj {l : List OC} (h : (l.map dt).Nodup) {x y : OC} (hx : x ∈ l) (hy : y ∈ l) (e : dt x = dt y) : x = y := by
  have h1 := nodup_find h hx
  have h2 := nodup_find h hy
  rw [e] at h1
  exact Option.some.inj (h1.symm.trans h2)
theorem SortOf.of_nodup {l s : List OC} (hn : (l.map dt).Nodup) (h : SortOf l s) (x : OC) : x ∈ s ↔ x ∈ l :=
  (h.mem x).trans ⟨find_first, nodup_find hn⟩
theorem perm_nodup {s l : List OC} (hs : s.Nodup) (hl : l.Nodup) (h : ∀ x, x ∈ s ↔ x ∈ l) : s.Perm l := (List.perm_ext_iff_of_nodup hs hl).2 h
theorem nodup_of_dt {l : List OC} (h : (l.map dt).Nodup) : l.Nodup := (List.pairwise_map.1 h).imp fun h e => h (congrArg dt e)
theorem SortOf.length {l s : List OC} (hn : (l.map dt).Nodup) (h : SortOf l s) : s.length = l.length :=
  (perm_nodup (inc_nodup h.inc) (nodup_of_dt hn) (h.of_nodup hn)).length_eq
/-! ### Histories -/
def Follows (l : List OC) (x : OC) : Prop := ∀ r, r < 8 → x.1.dep r ≠ 0 → ∃ y ∈ l, dt y = (r, x.1.dep r) ∧ aboveB x.1.dep y.1.dep = true ∧ y.1.tm < x.1.tm
instance (l : List OC) (x : OC) : Decidable (Follows l x) := by unfold Follows; infer_instance
def IsHist (l : List OC) : Prop := (l.map dt).Nodup ∧ ∀ x ∈ l, Follows l x
instance (l : List OC) : Decidable (IsHist l) := by unfold IsHist; infer_instance
def okAll (n : Int) (l : List OC) : Prop := ∀ x ∈ l, checkM x.1 x.2 n = 0
instance (n : Int) (l : List OC) : Decidable (okAll n l) := by unfold okAll; infer_instance
def histM (n : Int) (l : List OC) : Int := if n < 1 ∨ 8 < n then 2 else if okAll n l then (if IsHist l then 0 else 9) else 5
structure HistP (n : Int) (l : List OC) : Prop where
  n1 : 1 ≤ n
  n8 : n ≤ 8
  ok : okAll n l
  is : IsHist l
theorem histM_zero {n : Int} {l : List OC} : histM n l = 0 ↔ HistP n l := by
  unfold histM
  by_cases h : n < 1 ∨ 8 < n
  · rw [if_pos h]; exact ⟨fun e => by simp at e, fun k => by have := k.n1; have := k.n8; omega⟩
  · rw [if_neg h]
    by_cases h2 : okAll n l
    · rw [if_pos h2]
      by_cases h3 : IsHist l
      · rw [if_pos h3]; exact ⟨fun _ => ⟨by omega, by omega, h2, h3⟩, fun _ => rfl⟩
      · rw [if_neg h3]; exact ⟨fun e => by simp at e, fun k => absurd k.is h3⟩
    · rw [if_neg h2]; exact ⟨fun e => by simp at e, fun k => absurd k.ok h2⟩
theorem name_of {o : OpM} {l : List Claim} {n : Int} (h1 : 1 ≤ n) (h8 : n ≤ 8) (h : checkM o l n = 0) : o.r < 8 ∧ o.n ≠ 0 ∧ o.dep o.r = o.n - 1 := by
  unfold checkM at h
  rw [if_neg (by omega), if_neg (by omega)] at h
  by_cases hn : nameM o n.toNat = true
  · unfold nameM at hn
    simp only [Bool.and_eq_true, decide_eq_true_eq] at hn
    exact ⟨by omega, hn.2.1, hn.2.2.1⟩
  · rw [if_neg hn] at h; omega
theorem HistP.name {n : Int} {l : List OC} (h : HistP n l) {x : OC} (hx : x ∈ l) : x.1.r < 8 ∧ x.1.n ≠ 0 ∧ x.1.dep x.1.r = x.1.n - 1 := name_of h.n1 h.n8 (h.ok x hx)
theorem covB_iff {v : Vec} {d : Dot} : covB v d = true ↔ d.1 < 8 ∧ d.2 ≠ 0 ∧ d.2 ≤ v d.1 := by
  unfold covB mayD
  simp only [Bool.and_eq_true, decide_eq_true_eq, and_assoc]
theorem aboveB_iff {a b : Vec} : aboveB a b = true ↔ ∀ i, i < 8 → b i ≤ a i := by
  unfold aboveB
  rw [decide_eq_true_eq]
  constructor
  · rintro ⟨h0, h1, h2, h3, h4, h5, h6, h7⟩ i hi
    match i, hi with
    | 0, _ => exact h0
    | 1, _ => exact h1
    | 2, _ => exact h2
    | 3, _ => exact h3
    | 4, _ => exact h4
    | 5, _ => exact h5
    | 6, _ => exact h6
    | 7, _ => exact h7
  · intro h
    exact ⟨h 0 (by omega), h 1 (by omega), h 2 (by omega), h 3 (by omega), h 4 (by omega), h 5 (by omega), h 6 (by omega), h 7 (by omega)⟩
/-- What an operation of a history covers is there, below it. -/
theorem hist_cov {n : Int} {l : List OC} (h1 : 1 ≤ n) (h8 : n ≤ 8) (hok : okAll n l) (hf : ∀ x ∈ l, Follows l x) (d : Dot) : ∀ (k : Nat) (x : OC), x.1.dep d.1 = k → x ∈ l → covB x.1.dep d = true →
    ∃ y ∈ l, dt y = d ∧ aboveB x.1.dep y.1.dep = true ∧ y.1.tm < x.1.tm := by
  intro k
  induction k using Nat.strongRecOn with
  | _ k ih =>
    intro x hk hx hc
    obtain ⟨c1, c2, c3⟩ := covB_iff.1 hc
    obtain ⟨y, hy, hd, ha, ht⟩ := hf x hx d.1 c1 (by omega)
    have e1 : y.1.r = d.1 := congrArg Prod.fst hd
    have e2 : y.1.n = x.1.dep d.1 := congrArg Prod.snd hd
    by_cases he : d.2 = x.1.dep d.1
    · exact ⟨y, hy, by rw [hd, ← he], ha, ht⟩
    · obtain ⟨_, n2, n3⟩ := name_of h1 h8 (hok y hy)
      rw [e1] at n3
      obtain ⟨z, hz, hzd, hza, hzt⟩ := ih (y.1.dep d.1) (by omega) y rfl hy (covB_iff.2 ⟨c1, c2, by omega⟩)
      exact ⟨z, hz, hzd, aboveB_iff.2 fun i hi => Nat.le_trans (aboveB_iff.1 hza i hi) (aboveB_iff.1 ha i hi), by omega⟩
theorem HistP.cov {n : Int} {l : List OC} (h : HistP n l) {x : OC} (hx : x ∈ l) {d : Dot} (hc : covB x.1.dep d = true) :
    ∃ y ∈ l, dt y = d ∧ aboveB x.1.dep y.1.dep = true ∧ y.1.tm < x.1.tm := hist_cov h.n1 h.n8 h.ok h.is.2 d _ x rfl hx hc
theorem HistP.bef {n : Int} {l : List OC} (h : HistP n l) {x y : OC} (hx : x ∈ l) (hy : y ∈ l) (hb : befB y x = true) : aboveB x.1.dep y.1.dep = true ∧ y.1.tm < x.1.tm := by
  obtain ⟨z, hz, hd, ha, ht⟩ := h.cov hx hb
  obtain rfl := nodup_inj h.is.1 hz hy hd
  exact ⟨ha, ht⟩
theorem HistP.lt {n : Int} {l : List OC} (h : HistP n l) {x y : OC} (hx : x ∈ l) (hy : y ∈ l) (hb : befB y x = true) : ltO y x := Or.inl (h.bef hx hy hb).2
theorem HistP.trans {n : Int} {l : List OC} (h : HistP n l) {x y z : OC} (hx : x ∈ l) (hy : y ∈ l) (hz : z ∈ l) (h1 : befB x y = true) (h2 : befB y z = true) : befB x z = true := by
  have ha := aboveB_iff.1 (h.bef hz hy h2).1
  obtain ⟨c1, c2, c3⟩ := covB_iff.1 h1
  exact covB_iff.2 ⟨c1, c2, Nat.le_trans c3 (ha _ c1)⟩
/-- A part with, for each, what is before it. -/
theorem HistP.part {n : Int} {l p : List OC} (h : HistP n l) (hn : (p.map dt).Nodup) (hs : ∀ x ∈ p, x ∈ l) (hc : ∀ x ∈ p, ∀ y ∈ l, befB y x = true → y ∈ p) : HistP n p := by
  refine ⟨h.n1, h.n8, fun x hx => h.ok x (hs x hx), hn, fun x hx r hr h0 => ?_⟩
  obtain ⟨y, hy, hd, ha, ht⟩ := h.is.2 x (hs x hx) r hr h0
  refine ⟨y, hc x hx y hy ?_, hd, ha, ht⟩
  unfold befB
  rw [hd]
  exact covB_iff.2 ⟨hr, h0, Nat.le_refl _⟩
theorem HistP.closed {n : Int} {l p : List OC} (h : HistP n l) (hp : HistP n p) (hs : ∀ x ∈ p, x ∈ l) {x y : OC} (hx : x ∈ p) (hy : y ∈ l) (hb : befB y x = true) : y ∈ p := by
  obtain ⟨z, hz, hd, _, _⟩ := hp.cov hx hb
  exact nodup_inj h.is.1 (hs z hz) hy hd ▸ hz
theorem HistP.perm {n : Int} {l k : List OC} (h : HistP n l) (hn : (k.map dt).Nodup) (he : ∀ x, x ∈ k ↔ x ∈ l) : HistP n k :=
  h.part hn (fun x hx => (he x).1 hx) fun x hx y hy _ => (he y).2 hy
/-- How many a history has. -/
def allD (v : Vec) : List Dot := (List.range 8).flatMap fun r => (List.range (v r)).map fun i => (r, i + 1)
theorem mem_allD {v : Vec} {d : Dot} : d ∈ allD v ↔ covB v d = true := by
  rw [covB_iff]
  unfold allD
  simp only [List.mem_flatMap, List.mem_range, List.mem_map]
  constructor
  · rintro ⟨r, hr, i, hi, rfl⟩
    exact ⟨hr, by simp, hi⟩
  · rintro ⟨h1, h2, h3⟩
    exact ⟨d.1, h1, d.2 - 1, by omega, by cases d; simp at *; omega⟩
theorem nodup_allD (v : Vec) : (allD v).Nodup := by
  unfold allD List.Nodup
  rw [List.pairwise_flatMap]
  refine ⟨fun r _ => ?_, ?_⟩
  · rw [List.pairwise_map]
    refine List.nodup_range.imp fun {a b} h e => h ?_
    have := congrArg Prod.snd e
    simp at this
    exact this
  · refine (List.nodup_range (n := 8)).imp fun {a b} h x hx y hy e => ?_
    simp only [List.mem_map] at hx hy
    obtain ⟨i, _, rfl⟩ := hx
    obtain ⟨j, _, rfl⟩ := hy
    exact h (congrArg Prod.fst e)
theorem length_allD (v : Vec) : (allD v).length = v 0 + v 1 + v 2 + v 3 + v 4 + v 5 + v 6 + v 7 := by
  unfold allD
  rw [show List.range 8 = [0, 1, 2, 3, 4, 5, 6, 7] from rfl]
  simp only [List.flatMap_cons, List.flatMap_nil, List.length_append, List.length_map, List.length_range, List.length_nil]
  omega
theorem HistP.known_iff {n : Int} {l : List OC} (h : HistP n l) (d : Dot) : d ∈ l.map dt ↔ covB (knownM l) d = true := by
  rw [covB_iff]
  constructor
  · intro hd
    obtain ⟨x, hx, rfl⟩ := List.mem_map.1 hd
    obtain ⟨h1, h2, _⟩ := h.name hx
    exact ⟨h1, h2, known_ge hx h1⟩
  · rintro ⟨h1, h2, h3⟩
    rcases known_or l d.1 with e | ⟨x, hx, hr, hn⟩
    · omega
    · by_cases he : d.2 = x.1.n
      · exact List.mem_map.2 ⟨x, hx, by unfold dt; cases d; simp at *; omega⟩
      · obtain ⟨n1, n2, n3⟩ := h.name hx
        obtain ⟨y, hy, hd, _⟩ := h.cov hx (covB_iff.2 ⟨h1, h2, by rw [← hr, n3]; omega⟩)
        exact List.mem_map.2 ⟨y, hy, hd⟩
theorem HistP.count {n : Int} {l : List OC} (h : HistP n l) : knownM l 0 + knownM l 1 + knownM l 2 + knownM l 3 + knownM l 4 + knownM l 5 + knownM l 6 + knownM l 7 = l.length := by
  rw [← length_allD, ← List.length_map (f := dt)]
  exact ((List.perm_ext_iff_of_nodup (nodup_allD _) h.is.1).2 fun d => by rw [mem_allD, h.known_iff]).length_eq
/-- Two parts, and what both have. -/
def bothM (a b : List OC) : List OC := a.filter fun x => (b.find? fun y => dt y == dt x).isSome
theorem mem_both {n : Int} {l a b : List OC} (h : HistP n l) (ha : ∀ x ∈ a, x ∈ l) (hb : ∀ x ∈ b, x ∈ l) (x : OC) : x ∈ bothM a b ↔ x ∈ a ∧ x ∈ b := by
  unfold bothM
  rw [List.mem_filter, List.find?_isSome]
  refine and_congr_right fun hx => ⟨?_, fun hb' => ⟨x, hb', by simp⟩⟩
  rintro ⟨y, hy, e⟩
  exact nodup_inj h.is.1 (hb y hy) (ha x hx) (by simpa using e) ▸ hy
theorem HistP.both {n : Int} {l a b : List OC} (h : HistP n l) (ha : HistP n a) (hb : HistP n b) (sa : ∀ x ∈ a, x ∈ l) (sb : ∀ x ∈ b, x ∈ l) : HistP n (bothM a b) := by
  have hm := mem_both h sa sb
  refine h.part ((ha.is.1).sublist ((List.filter_sublist).map dt)) (fun x hx => sa x ((hm x).1 hx).1) fun x hx y hy hb' => ?_
  obtain ⟨h1, h2⟩ := (hm x).1 hx
  exact (hm y).2 ⟨h.closed ha sa h1 hy hb', h.closed hb sb h2 hy hb'⟩
end Go.Proofs.YtfnmekmgjcjglaaDoor.V
namespace Go.Proofs.YtfnmekmgjcjglaaDoor.V
set_option linter.unusedVariables false
set_option linter.unusedSimpArgs false
set_option maxRecDepth 100000
open Go Go.RowKit Go.Maps Wire
set_option maxRecDepth 100000
set_option linter.unusedVariables false
set_option linter.unusedSimpArgs false
/-- A value that is there if the guard holds. -/
def gd (g : Bool) (v : Value) : Value := bif g then v else undef
theorem gd_t {g : Bool} {v : Value} (h : g = true) : gd g v = v := by rw [h]; rfl
theorem gd_f {g : Bool} {v : Value} (h : g = false) : gd g v = undef := by rw [h]; rfl
theorem and_tt {p q : Bool} (h : p = true) (k : q = true) : (p && q) = true := by rw [h, k]; rfl
theorem not_t {p : Bool} (h : p = false) : (!p) = true := by rw [h]; rfl
theorem fe {f : Fa} {u v : Value} (h : f = .eq u) (e : u = v) : f = .eq v := by rw [h, e]
theorem gu_t {p : Bool} : (Value.bool p = .bool true) ↔ p = true := by simp
theorem gu_f {p : Bool} : (Value.bool p = .bool false) ↔ (!p) = true := by simp
theorem gu_gf {g p : Bool} : (gd g (.bool p) = .bool false) ↔ (g && !p) = true := by cases g <;> simp [gd, undef]
section
variable {ops : Array Oper} {Q : Exit → Act → World → Prop} {tgt : Nat → Option Nat} {F : Nat → Fa} {a0 : Act} {w0 : World} {k : Nat} {op : Oper}
theorem writes_ne {s : Nat} (h : writes ops s = false) (i : Nat) : dstAt ops i ≠ some s := by
  intro e
  unfold dstAt at e
  cases ho : ops[i]? with
  | none => rw [ho] at e; cases e
  | some o =>
    rw [ho] at e
    have e2 : o.dst = some s := e
    have hm : o ∈ ops.toList := by
      rw [← Array.getElem?_toList] at ho
      exact List.mem_of_getElem? ho
    have := List.any_eq_false.1 h o hm
    rw [e2] at this
    simp at this
theorem eval_base {a : Act} (hb : BaseA ops a0 a) {s : Nat} {v : Value} (hs : writes ops s = false) (h0 : a0.tmps.getD s undef = v) : a.eval (.tmp s) = v := by
  show a.tmps.getD s undef = _
  rw [← h0, Array.getD_eq_getD_getElem?, Array.getD_eq_getD_getElem?, hb.rest s (writes_ne hs)]
theorem eval_at {a : Act} {i s : Nat} (h : dstAt ops i = some s) : a.eval (.tmp s) = valAt ops a i := by
  show a.tmps.getD s undef = _
  unfold valAt; rw [h]
theorem eval_eq {a : Act} {i s : Nat} {o : Nat → Nat} {w : World} {B : Nat} {c : Value} (h : dstAt ops i = some s) (n : (needOf op).testBit i = true) (f : F i = .eq c)
    (hn : ∀ i, (needOf op).testBit i = true → (F i).holds B i o (valAt ops a i) w) : a.eval (.tmp s) = c := by
  have := hn i n
  rw [f] at this
  exact (eval_at h).trans this
/-- What an operand yields when its inputs have come up. -/
def Ev (ops : Array Oper) (F : Nat → Fa) (a0 : Act) (w0 : World) (op : Oper) (x : Operand) (v : Value) : Prop :=
  ∀ (o : Nat → Nat) (a : Act) (w : World), BaseA ops a0 a → (∀ i, (needOf op).testBit i = true → (F i).holds w0.heap.size i o (valAt ops a i) w) → a.eval x = v
theorem Ev.const {v : Value} : Ev ops F a0 w0 op (.const v) v := fun _ _ _ _ _ => rfl
theorem Ev.fn {f : Nat} : Ev ops F a0 w0 op (.func f) (.func (.func f) #[] #[]) := fun _ _ _ _ _ => rfl
theorem Ev.out {s : Nat} {v : Value} (hs : writes ops s = false) (h0 : a0.tmps.getD s undef = v) : Ev ops F a0 w0 op (.tmp s) v := fun _ _ _ hb _ => eval_base hb hs h0
theorem Ev.at {i s : Nat} {v : Value} (h : dstAt ops i = some s) (n : (needOf op).testBit i = true) (f : F i = .eq v) : Ev ops F a0 w0 op (.tmp s) v := fun _ _ _ _ hn => eval_eq h n f hn
theorem ev2 {x y : Operand} {u v : Value} (h : Ev ops F a0 w0 op x u) (h2 : Ev ops F a0 w0 op y v) : ∀ (o : Nat → Nat) (a : Act) (w : World), BaseA ops a0 a → (∀ i, (needOf op).testBit i = true → (F i).holds w0.heap.size i o (valAt ops a i) w) → (#[x, y] : Array Operand).map a.eval = #[u, v] := fun o a w hb hn => by simp [h o a w hb hn, h2 o a w hb hn]
theorem flow_gd (g : Bool) (c : Value) (j : Nat) (b : Bool) (u : Value) (hgd : op.guard = some (j, b)) (hj : (needOf op).testBit j = true) (hFj : F j = .eq u) (hu : (u = .bool b) ↔ g = true) (hF : F k = .eq (gd g c))
    (h : g = true → F k = .eq c → F j = .eq (.bool b) → StepOK Tryd.prog ops Q tgt F a0 w0 k op) : StepOK Tryd.prog ops Q tgt F a0 w0 k op := by
  cases hg : g with
  | true => exact h hg (fe hF (gd_t hg)) (fe hFj (hu.2 hg))
  | false =>
    refine flow_skip j b u hgd (fe hF (gd_f hg)) hj hFj (fun e => ?_)
    rw [hu.1 e] at hg
    cases hg
theorem guard_of {j : Nat} {b : Bool} (hgd : op.guard = some (j, b)) (hj : (needOf op).testBit j = true) (hd : (dstAt ops j).isSome = true) (hFj : F j = .eq (.bool b)) : guardOK ops F op := by
  unfold guardOK
  rw [hgd]
  exact ⟨hFj, hj, hd⟩
theorem v_move {x : Operand} {c : Value} (ho : op.op = .move x ∨ op.op = .assign x) (hF : F k = .eq c) (hd : op.dst.isSome = true) (hg : guardOK ops F op) (h1 : Ev ops F a0 w0 op x c) : StepOK Tryd.prog ops Q tgt F a0 w0 k op :=
  flow_val _ hF hd hg (fun o a w hb hB hn => by rw [run_move _ ho, h1 o a w hb hn])
theorem v_faddr {x : Operand} {t f : Nat} {u c : Value} (ho : op.op = .fieldAddr t x f) (hr : ∀ w, (Instr.fieldAt t u f).run Tryd.prog w = .ok c w) (hF : F k = .eq c) (hd : op.dst.isSome = true) (hg : guardOK ops F op) (h1 : Ev ops F a0 w0 op x u) : StepOK Tryd.prog ops Q tgt F a0 w0 k op :=
  flow_val _ hF hd hg (fun o a w hb hB hn => by
    unfold execOp
    simp only [ho, h1 o a w hb hn, Sem.run_bind, hr, Result.andThen_ok, Sem.run_pure])
theorem v_load {x : Operand} {t : Nat} {u c : Value} (ho : op.op = .load t x) (hr : ∀ w, Below w0.heap.size w0 w → (Instr.loadAt t u).run Tryd.prog w = .ok c w) (hF : F k = .eq c) (hd : op.dst.isSome = true) (hg : guardOK ops F op) (h1 : Ev ops F a0 w0 op x u) : StepOK Tryd.prog ops Q tgt F a0 w0 k op :=
  flow_val _ hF hd hg (fun o a w hb hB hn => by
    unfold execOp
    simp only [ho, h1 o a w hb hn, Sem.run_bind, hr w hB, Result.andThen_ok, Sem.run_pure])
theorem v_iaddr {x y : Operand} {t : Nat} {u v c : Value} (ho : op.op = .indexAddr t x y) (hr : ∀ w, (Instr.indexAt t u v).run Tryd.prog w = .ok c w) (hF : F k = .eq c) (hd : op.dst.isSome = true) (hg : guardOK ops F op) (h1 : Ev ops F a0 w0 op x u) (h2 : Ev ops F a0 w0 op y v) : StepOK Tryd.prog ops Q tgt F a0 w0 k op :=
  flow_val _ hF hd hg (fun o a w hb hB hn => by
    unfold execOp
    simp only [ho, h1 o a w hb hn, h2 o a w hb hn, Sem.run_bind, hr, Result.andThen_ok, Sem.run_pure])
theorem v_bin {x y : Operand} {b : BinOp} {t tx : Nat} {u v c : Value} (ho : op.op = .binOp b t x y tx) (hr : ∀ w, (do eqGuard b t x y u v; binOp b t u v : Sem Value).run Tryd.prog w = .ok c w) (hF : F k = .eq c) (hd : op.dst.isSome = true) (hg : guardOK ops F op)
    (h1 : Ev ops F a0 w0 op x u) (h2 : Ev ops F a0 w0 op y v) : StepOK Tryd.prog ops Q tgt F a0 w0 k op :=
  flow_val _ hF hd hg (fun o a w hb hB hn => by
    unfold execOp
    have := hr w
    rw [Sem.run_bind] at this
    simp only [ho, h1 o a w hb hn, h2 o a w hb hn, Sem.run_bind, this, Result.andThen_ok, Sem.run_pure])
theorem v_un {x : Operand} {b : UnOp} {t : Nat} {u c : Value} (ho : op.op = .unOp b t x) (hr : ∀ w, (Op.unary b u).run Tryd.prog w = .ok c w) (hF : F k = .eq c) (hd : op.dst.isSome = true) (hg : guardOK ops F op) (h1 : Ev ops F a0 w0 op x u) : StepOK Tryd.prog ops Q tgt F a0 w0 k op :=
  flow_val _ hF hd hg (fun o a w hb hB hn => by
    unfold execOp
    simp only [ho, h1 o a w hb hn, Sem.run_bind, hr, Result.andThen_ok, Sem.run_pure])
theorem v_not {x : Operand} {t : Nat} {b : Bool} (ho : op.op = .unOp .not t x) (hF : F k = .eq (.bool (!b))) (hd : op.dst.isSome = true) (hg : guardOK ops F op) (h1 : Ev ops F a0 w0 op x (.bool b)) : StepOK Tryd.prog ops Q tgt F a0 w0 k op :=
  v_un ho (fun w => by simp [Op.unary, asBool]) hF hd hg h1
/-- 'or': its second side is there if the first is false. -/
theorem v_or {x y : Operand} {p q : Bool} (ho : op.op = .pick x (.const (.bool true)) y) (hF : F k = .eq (.bool (p || q))) (hd : op.dst.isSome = true) (hg : guardOK ops F op)
    (h1 : Ev ops F a0 w0 op x (.bool p)) (h2 : p = false → Ev ops F a0 w0 op y (.bool q)) : StepOK Tryd.prog ops Q tgt F a0 w0 k op :=
  flow_val _ hF hd hg (fun o a w hb hB hn => by
    rw [run_pick _ _ _ ho a w (h1 o a w hb hn)]
    cases hp : p with
    | true => rfl
    | false => rw [h2 hp o a w hb hn]; rfl)
theorem v_and {x y : Operand} {p q : Bool} (ho : op.op = .pick x y (.const (.bool false))) (hF : F k = .eq (.bool (p && q))) (hd : op.dst.isSome = true) (hg : guardOK ops F op)
    (h1 : Ev ops F a0 w0 op x (.bool p)) (h2 : p = true → Ev ops F a0 w0 op y (.bool q)) : StepOK Tryd.prog ops Q tgt F a0 w0 k op :=
  flow_val _ hF hd hg (fun o a w hb hB hn => by
    rw [run_pick _ _ _ ho a w (h1 o a w hb hn)]
    cases hp : p with
    | true => rw [h2 hp o a w hb hn]; rfl
    | false => rfl)
/-- A call of a function; its arguments are handed over evaluated. -/
theorem v_call {f : Nat} {xs : Array Operand} {ats : Array Nat} {vs : Array Value} {c : Value} (ho : op.op = .call { callee := .value (.func f), args := xs, argTypes := ats })
    (hfn : ∀ (args : Array Value) (w : World), (callFunc f args).run Tryd.prog w = .ok (.enter f args) w)
    (hc : ∀ w, Below w0.heap.size w0 w → Calls Tryd.prog f vs w fun e w' => e = .returned c ∧ Below w.heap.size w w') (hF : F k = .eq c) (hd : op.dst.isSome = true) (hg : guardOK ops F op)
    (h1 : ∀ (o : Nat → Nat) (a : Act) (w : World), BaseA ops a0 a → (∀ i, (needOf op).testBit i = true → (F i).holds w0.heap.size i o (valAt ops a i) w) → xs.map a.eval = vs) : StepOK Tryd.prog ops Q tgt F a0 w0 k op :=
  flow_call _ hF hd hg (fun o a w hb hB hn => by
    refine ⟨f, vs, ?_, hc w hB⟩
    rw [show execOp a.eval op = callFunc f (#[] ++ xs.map a.eval ++ #[]) from by unfold execOp; rw [ho]; rfl, h1 o a w hb hn]
    simp only [Array.empty_append, Array.append_empty]
    exact hfn _ w)
end
/-! ### Parts of an operation, wherever it lies -/
theorem OpAt.in {w : World} {b : Nat} {o : OpM} (h : OpAt w b o) : OpIn w ⟨b, 0, none⟩ o := fun k hk => by rw [add8]; exact h.cell k
theorem OpIn.dr {w : World} {p : Addr} {o : OpM} (h : OpIn w p o) : OpIn w.drew p o := h
theorem OpIn.al {w : World} {p : Addr} {o : OpM} (h : OpIn w p o) (x : Obj) : OpIn (w.alloc x) p o := h.keep (below_al _ _)
theorem OpIn.block {w : World} {p : Addr} {o : OpM} (h : OpIn w p o) : p.block < w.heap.size := by
  have := h 0 (by omega)
  obtain ⟨v, hv⟩ := oc_get o (k := 0) (by omega)
  rw [hv] at this
  have := cell_lt this
  rwa [block_add] at this
theorem add_0 (p : Addr) : p.add 0 = p := by unfold Addr.add; simp
theorem OpIn.r {w : World} {p : Addr} {o : OpM} (h : OpIn w p o) : w.cell? p = some (.int .u8 (o.r : Int)) := by have := h 0 (by omega); rw [add_0] at this; exact this.trans rfl
theorem OpIn.n {w : World} {p : Addr} {o : OpM} (h : OpIn w p o) : w.cell? (p.add 1) = some (.int .u32 (o.n : Int)) := (h 1 (by omega)).trans rfl
theorem OpIn.tm {w : World} {p : Addr} {o : OpM} (h : OpIn w p o) : w.cell? (p.add 10) = some (.int .u64 (o.tm : Int)) := (h 10 (by omega)).trans rfl
theorem OpIn.lv {w : World} {p : Addr} {o : OpM} (h : OpIn w p o) : w.cell? (p.add 28) = some o.lv := (h 28 (by omega)).trans rfl
theorem OpIn.dep {w : World} {p : Addr} {o : OpM} (h : OpIn w p o) {k : Nat} (hk : k < 8) : w.cell? (p.add (2 + k)) = some (.int .u32 (o.dep k : Int)) := (h (2 + k) (by omega)).trans (oc_dep o hk)
theorem add_pos (p : Addr) {k : Nat} (h : k ≠ 0) : p.add k = ⟨p.block, p.off + k, none⟩ := by unfold Addr.add; rw [if_neg h]
theorem vc_at (v : Vec) {k : Nat} {u : Value} (h : (vc v)[k]? = some u) : k < 8 ∧ u = .int .u32 (v k : Int) := by
  have hk : k < 8 := (Array.getElem?_eq_some_iff.1 h).1
  refine ⟨hk, ?_⟩
  match k, hk with
  | 0, _ => exact (Option.some.inj h).symm
  | 1, _ => exact (Option.some.inj h).symm
  | 2, _ => exact (Option.some.inj h).symm
  | 3, _ => exact (Option.some.inj h).symm
  | 4, _ => exact (Option.some.inj h).symm
  | 5, _ => exact (Option.some.inj h).symm
  | 6, _ => exact (Option.some.inj h).symm
  | 7, _ => exact (Option.some.inj h).symm
theorem sizeV (v : Vec) : (Tryd.prog.info? 30).map (·.size) = some (vc v).size := by rw [show (vc v).size = 8 from rfl]; kernel_rfl
theorem add_add2 (p : Addr) (i k : Nat) : (p.add i).add k = p.add (i + k) := by
  unfold Addr.add
  by_cases hi : i = 0
  · subst hi; simp
  · by_cases hk : k = 0
    · subst hk; simp [hi]
    · rw [if_neg hi, if_neg hk, if_neg (by omega)]; simp [Nat.add_assoc]
theorem run_loadVar_dep {w : World} {p : Addr} {v : Vec} (h : ∀ k, k < 8 → w.cell? (p.add k) = some (.int .u32 (v k : Int))) : (loadVar 30 p).run Tryd.prog w = .ok (.agg (vc v)) w := by
  have hl : (loadCells p (vc v).toList.length).run Tryd.prog w = .ok (vc v).toList.toArray w :=
    run_loadCells_list (P := Tryd.prog) w p (vc v).toList (fun j u hu => by
      rw [Array.getElem?_toList] at hu
      obtain ⟨hj, rfl⟩ := vc_at v hu
      exact h j hj)
  have hu := Tryd.underlying30
  have hi := sizeV v
  cases hq : Tryd.prog.info? 30 with
  | none => simp [hq] at hi
  | some i =>
    have hs : i.size = (vc v).size := by simpa [hq] using hi
    have hagg : (isAgg 30).run Tryd.prog w = .ok true w := by
      unfold isAgg
      rw [Sem.run_bind, run_underlying hu w]
      rfl
    simp only [Array.length_toList, Array.toArray_toList] at hl
    simp [loadVar, Sem.run_bind, hagg, sizeOf, typeInfo, hq, hs, hl]
theorem ldp_op {w : World} {p : Addr} {o : OpM} (h : OpIn w p o) : (Instr.loadAt 50 (.pointer (some p))).run Tryd.prog w = .ok (.agg (oc o)) w := by
  simp only [Instr.loadAt, Instr.sureAddr, Sem.run_bind, Sem.run_pure, Result.andThen_ok, run_loadVar_op h]
theorem ldp_vec {w : World} {p : Addr} {o : OpM} (h : OpIn w p o) : (Instr.loadAt 30 (.pointer (some (p.add 2)))).run Tryd.prog w = .ok (.agg (vc o.dep)) w := by
  simp only [Instr.loadAt, Instr.sureAddr, Sem.run_bind, Sem.run_pure, Result.andThen_ok, run_loadVar_dep (v := o.dep) (fun k hk => by rw [add_add2]; exact h.dep hk)]
theorem ldp_dot {w : World} {p : Addr} {o : OpM} (h : OpIn w p o) : (Instr.loadAt 46 (.pointer (some p))).run Tryd.prog w = .ok (.agg #[.int .u8 (o.r : Int), .int .u32 (o.n : Int)]) w := by
  have h0 := h.r
  have h1 := h.n
  rw [add_pos p (by decide)] at h1
  go_simp
theorem ldp_tm {w : World} {p : Addr} {o : OpM} (h : OpIn w p o) : (Instr.loadAt 47 (.pointer (some (p.add 10)))).run Tryd.prog w = .ok (.int .u64 (o.tm : Int)) w := by
  have h0 := h.tm
  rw [add_pos p (by decide)] at h0
  go_simp
theorem fld_op (p : Addr) (w : World) : (Instr.fieldAt 50 (.pointer (some p)) 0).run Tryd.prog w = .ok (.pointer (some p)) w ∧ (Instr.fieldAt 50 (.pointer (some p)) 1).run Tryd.prog w = .ok (.pointer (some (p.add 2))) w ∧
    (Instr.fieldAt 50 (.pointer (some p)) 2).run Tryd.prog w = .ok (.pointer (some (p.add 10))) w ∧ (Instr.fieldAt 50 (.pointer (some p)) 16).run Tryd.prog w = .ok (.pointer (some (p.add 28))) w := by
  refine ⟨?_, ?_, ?_, ?_⟩ <;> go_simp
/-- A place in a row of operations. -/
theorem idx_op (p : Addr) (len cap i : Nat) (h : i < len) (w : World) : (Instr.indexAt 22 (.slice (some p) len cap) (.int .i64 (i : Int))).run Tryd.prog w = .ok (.pointer (some (p.add (i * 29)))) w := by
  have h1 : (i : Int) < (len : Int) := by omega
  go_simp
end Go.Proofs.YtfnmekmgjcjglaaDoor.V
