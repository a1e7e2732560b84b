/-
  A region that draws its order, whose calls, stores and new blocks come in one order all the same: what looks at memory may come between them wherever it can.
-/
import Derived.Test.YtfnmekmgjcjglaaDoorYLater
import Derived.OrdersHeld
import Derived.Deep.RegionHeld
import Derived.Deep.RegionHeld3
import Derived.RegionTactic
namespace Go.Proofs.YtfnmekmgjcjglaaDoor.R
set_option linter.unusedVariables false
set_option linter.unusedSimpArgs false
open Go Go.RowKit
/-- Masks: which numbers are set. -/
def bitN (d j : Nat) : Bool := Nat.beq (Nat.land (Nat.shiftRight d j) 1) 1
def subN (m d : Nat) : Bool := Nat.beq (Nat.land m d) m
def allN (f : Nat → Nat → Bool) : List (Nat × Nat) → Bool
  | [] => true
  | (j, m) :: r => f j m && allN f r
def needOf (o : Oper) : Nat := (o.after.toList.filter (Region.binds .any)).foldl (fun s e => Nat.lor s (Nat.shiftLeft 1 e.on)) 0
def needTab (ops : Array Oper) : List (Nat × Nat) := ops.toList.zipIdx.map fun p => (p.2, needOf p.1)
theorem bitN_eq (d j : Nat) : bitN d j = d.testBit j := by
  have h : bitN d j = Nat.beq ((d >>> j) &&& 1) 1 := rfl
  rw [h, Nat.testBit, Nat.and_comm 1, Nat.and_one_is_mod]
  rcases Nat.mod_two_eq_zero_or_one (d >>> j) with h | h <;> rw [h] <;> rfl
theorem subN_iff {m d : Nat} : subN m d = true ↔ ∀ i, m.testBit i = true → d.testBit i = true := by
  have h : (subN m d = true) ↔ m &&& d = m := by
    unfold subN; rw [Nat.beq_eq]; exact Iff.rfl
  rw [h]
  constructor
  · intro e i hi
    rw [← e, Nat.testBit_and, Bool.and_eq_true] at hi
    exact hi.2
  · intro e
    refine Nat.eq_of_testBit_eq (fun i => ?_)
    rw [Nat.testBit_and]
    cases hm : m.testBit i
    · rfl
    · rw [e i hm]; rfl
theorem or_bit (s k i : Nat) : (Nat.lor s (Nat.shiftLeft 1 k)).testBit i = (s.testBit i || decide (k = i)) := by
  have h : Nat.lor s (Nat.shiftLeft 1 k) = s ||| (1 <<< k) := rfl
  rw [h, Nat.testBit_or, Nat.shiftLeft_eq, Nat.one_mul, Nat.testBit_two_pow]
theorem fold_bit (l : List Edge) : ∀ (s i : Nat), (l.foldl (fun s e => Nat.lor s (Nat.shiftLeft 1 e.on)) s).testBit i = (s.testBit i || l.any (fun e => e.on == i)) := by
  induction l with
  | nil => intro s i; simp
  | cons e r ih =>
    intro s i
    rw [List.foldl_cons, ih, or_bit, List.any_cons, Bool.or_assoc]
    congr 2
theorem need_bit (o : Oper) (i : Nat) : (needOf o).testBit i = true ↔ ∃ e ∈ o.after, Region.binds .any e = true ∧ e.on = i := by
  rw [needOf, fold_bit]
  simp only [Nat.zero_testBit, Bool.false_or, List.any_eq_true, List.mem_filter, Array.mem_toList_iff, beq_iff_eq]
  constructor
  · rintro ⟨e, ⟨h1, h2⟩, h3⟩; exact ⟨e, h1, h2, h3⟩
  · rintro ⟨e, h1, h2, h3⟩; exact ⟨e, ⟨h1, h2⟩, h3⟩
theorem tab_mem {ops : Array Oper} {j : Nat} {o : Oper} (h : ops[j]? = some o) : (j, needOf o) ∈ needTab ops := by
  refine List.mem_map.2 ⟨(o, j), ?_, rfl⟩
  rw [List.mk_mem_zipIdx_iff_getElem?, Array.getElem?_toList]
  exact h
/-- What has come up, as a mask. -/
structure Same (n d : Nat) (l : Array Bool) : Prop where
  size : l.size = n
  bit : ∀ i, l.getD i false = d.testBit i
theorem Same.in {n d : Nat} {l : Array Bool} (h : Same n d l) {i : Nat} (hi : i < n) : l.getD i true = d.testBit i := by
  rw [← h.bit i]
  simp [Array.getD, h.size, hi]
theorem Same.zero (n : Nat) : Same n 0 (Array.replicate n false) := ⟨by simp, fun i => by
  rw [Nat.zero_testBit]
  simp only [Array.getD, Array.size_replicate]
  split <;> simp⟩
theorem Same.set {n d k : Nat} {l : Array Bool} (h : Same n d l) (hk : k < n) : Same n (Nat.lor d (Nat.shiftLeft 1 k)) (l.setIfInBounds k true) := ⟨by simp [h.size], fun i => by
  rw [or_bit, ← h.bit i, Array.getD_eq_getD_getElem?, Array.getD_eq_getD_getElem?, Array.getElem?_setIfInBounds]
  by_cases e : k = i
  · subst e; simp [h.size, hk]
  · simp [e]⟩
theorem ready_iff {ops : Array Oper} {d i : Nat} {l : Array Bool} {o : Oper} (h : Same ops.size d l) (ho : ops[i]? = some o) :
    i ∈ Region.ready .any ops l ↔ d.testBit i = false ∧ subN (needOf o) d = true := by
  have hi : i < ops.size := (Array.getElem?_eq_some_iff.1 ho).1
  unfold Region.ready
  rw [List.mem_filter, List.mem_range, h.in hi, ho]
  simp only [hi, true_and, Bool.and_eq_true, Bool.not_eq_true', Option.map_some, Option.getD_some]
  refine and_congr_right (fun _ => ?_)
  rw [subN_iff, Array.all_eq_true_iff_forall_mem]
  constructor
  · intro H x hx
    obtain ⟨e, he, hb, rfl⟩ := (need_bit o x).1 hx
    have := H e he
    rw [hb, h.bit] at this
    simpa using this
  · intro H e he
    cases hb : Region.binds .any e
    · rfl
    · rw [h.bit, H e.on ((need_bit o _).2 ⟨e, he, hb, rfl⟩)]; rfl
/-- Each operation waits for earlier ones alone. -/
def lexN : List (Nat × Nat) → Bool
  | [] => true
  | (j, m) :: r => Nat.blt m (Nat.shiftLeft 1 j) && lexN r
theorem lexN_mem : ∀ {t : List (Nat × Nat)}, lexN t = true → ∀ p ∈ t, p.2 < 2 ^ p.1
  | [], _, p, hp => by cases hp
  | (j, m) :: r, h, p, hp => by
    simp only [lexN, Bool.and_eq_true] at h
    rcases List.mem_cons.1 hp with rfl | hp
    · have h1 := h.1
      rw [Nat.blt_eq] at h1
      have e : Nat.shiftLeft 1 j = 2 ^ j := by
        show 1 <<< j = 2 ^ j
        rw [Nat.shiftLeft_eq, Nat.one_mul]
      rw [e] at h1
      exact h1
    · exact lexN_mem h.2 p hp
section
variable {P : Program} {ops : Array Oper} {Q : Exit → Act → World → Prop}
theorem all_up {d : Nat} {l : Array Bool} (hl : Same ops.size d l) (hx : lexN (needTab ops) = true) (hr : Region.ready .any ops l = []) : ∀ j, j < ops.size → d.testBit j = true := by
  intro j
  induction j using Nat.strongRecOn with
  | ind j ih =>
    intro hj
    have ho : ops[j]? = some ops[j] := Array.getElem?_eq_getElem hj
    cases hd : d.testBit j with
    | true => rfl
    | false =>
      have hs : subN (needOf ops[j]) d = true := subN_iff.2 fun i hi => by
        have hlt := lexN_mem hx _ (tab_mem ho)
        have hij : i < j := by
          have := Nat.ge_two_pow_of_testBit hi
          have h2 : 2 ^ i < 2 ^ j := Nat.lt_of_le_of_lt this hlt
          exact (Nat.pow_lt_pow_iff_right (by omega)).1 h2
        exact ih i hij (by omega)
      have := (ready_iff hl ho).2 ⟨hd, hs⟩
      rw [hr] at this
      cases this
end
section
variable {P : Program} {ops : Array Oper} {Q : Exit → Act → World → Prop}
theorem wpAny_inv {Inv : Nat → Act → World → Prop} (hx : lexN (needTab ops) = true)
    (hstep : ∀ d k o a w, ops[k]? = some o → d.testBit k = false → (∀ i, (needOf o).testBit i = true → d.testBit i = true) → Inv d a w → wpOp P ops Q k (fun a' w' => Inv (Nat.lor d (Nat.shiftLeft 1 k)) a' w') a w)
    (hend : ∀ d a w, (∀ i, i < ops.size → d.testBit i = true) → Inv d a w → Q .normal a w) :
    ∀ (n d : Nat) (l : Array Bool) (a : Act) (w : World), Same ops.size d l → (l.toList.filter (fun b => !b)).length = n → Inv d a w → wpAny P .any ops Q n l a w
  | 0, d, l, a, w, hl, hn, hK => by
    have hall : ∀ b ∈ l.toList, b = true := by
      intro b hb
      cases b with
      | true => rfl
      | false =>
        have : false ∈ l.toList.filter (fun b => !b) := List.mem_filter.2 ⟨hb, rfl⟩
        rw [List.length_eq_zero_iff.1 hn] at this
        cases this
    have hup : ∀ j, j < ops.size → d.testBit j = true := fun j hj => by
      rw [← hl.in hj]
      have hj' : j < l.size := by rw [hl.size]; exact hj
      simp only [Array.getD, hj', dite_true]
      exact hall _ (Array.getElem_mem_toList hj')
    refine ⟨?_, hend d a w hup hK⟩
    rw [List.eq_nil_iff_forall_not_mem]
    intro i hi
    have hi' : i < ops.size := by
      unfold Region.ready at hi
      exact List.mem_range.1 (List.mem_filter.1 hi).1
    have h1 := ((ready_iff hl (Array.getElem?_eq_getElem hi')).1 hi).1
    rw [hup i hi'] at h1
    cases h1
  | n + 1, d, l, a, w, hl, hn, hK => by
    refine ⟨fun hr => hend d a w (all_up hl hx hr) hK, fun k hk => ?_⟩
    have hk' : k < ops.size := by
      unfold Region.ready at hk
      exact List.mem_range.1 (List.mem_filter.1 hk).1
    have ho : ops[k]? = some ops[k] := Array.getElem?_eq_getElem hk'
    obtain ⟨h1, h2⟩ := (ready_iff hl ho).1 hk
    refine wpOp_mono (fun a' w' h' => ?_) (hstep d k _ a w ho h1 (subN_iff.1 h2) hK)
    refine wpAny_inv hx hstep hend n _ _ a' w' (hl.set hk') ?_ h'
    have hkl : k < l.size := by rw [hl.size]; exact hk'
    have hlk : l[k] = false := by
      have := hl.in hk'
      rw [h1] at this
      simpa [Array.getD, hkl] using this
    have e : (l.setIfInBounds k true).toList = l.toList.set k true := by simp
    rw [e]
    have hs : l.toList = l.toList.take k ++ false :: l.toList.drop (k + 1) := by
      have hk2 : k < l.toList.length := by simpa using hkl
      have e2 : l.toList[k] = false := by simpa using hlk
      have e3 := List.drop_eq_getElem_cons hk2
      rw [e2] at e3
      rw [← e3, List.take_append_drop]
    have hs2 : l.toList.set k true = l.toList.take k ++ true :: l.toList.drop (k + 1) := by
      rw [List.set_eq_take_append_cons_drop]
      simp [hkl]
    rw [hs2]
    rw [hs] at hn
    simp only [List.filter_append, List.length_append, List.filter_cons] at hn ⊢
    simp at hn ⊢
    omega
end
def dstAt (ops : Array Oper) (i : Nat) : Option Tmp := (ops[i]?).bind (·.dst)
def valAt (ops : Array Oper) (a : Act) (i : Nat) : Value := match dstAt ops i with | some s => a.tmps.getD s undef | none => undef
def vOf (op : Oper) (v : Value) : Value := match op.dst with | some _ => v | none => undef
/-- The slots that the region writes: none twice. -/
def dstsOK (n : Nat) : List Oper → List Nat → Bool
  | [], _ => true
  | op :: r, seen => match op.dst with
    | some s => Nat.blt s n && (!seen.any (fun x => Nat.beq x s) && dstsOK n r (s :: seen))
    | none => dstsOK n r seen
def writes (ops : Array Oper) (s : Nat) : Bool := ops.toList.any (fun op => match op.dst with | some x => Nat.beq x s | none => false)
theorem dsts_ne : ∀ (l : List Oper) (seen : List Nat) (n : Nat), dstsOK n l seen = true → (∀ (i s : Nat), (l[i]?).bind (fun (x : Oper) => x.dst) = some s → s < n ∧ s ∉ seen) ∧ (∀ (i j s : Nat), (l[i]?).bind (fun (x : Oper) => x.dst) = some s → (l[j]?).bind (fun (x : Oper) => x.dst) = some s → i = j)
  | [], seen, n, _ => ⟨fun i s h => by simp at h, fun i j s h => by simp at h⟩
  | op :: r, seen, n, h => by
    cases hd : op.dst with
    | none =>
      simp only [dstsOK, hd] at h
      obtain ⟨h1, h2⟩ := dsts_ne r seen n h
      refine ⟨fun i s hi => ?_, fun i j s hi hj => ?_⟩
      · cases i with
        | zero => simp [hd] at hi
        | succ i => exact h1 i s (by simpa using hi)
      · cases i with
        | zero => simp [hd] at hi
        | succ i =>
          cases j with
          | zero => simp [hd] at hj
          | succ j => rw [h2 i j s (by simpa using hi) (by simpa using hj)]
    | some t =>
      simp only [dstsOK, hd, Bool.and_eq_true, Bool.not_eq_true', Nat.blt_eq] at h
      obtain ⟨ht, hseen, h⟩ := h
      obtain ⟨h1, h2⟩ := dsts_ne r (t :: seen) n h
      have hns : t ∉ seen := fun hm => by
        have : seen.any (fun x => Nat.beq x t) = true := List.any_eq_true.2 ⟨t, hm, by simp⟩
        rw [this] at hseen; cases hseen
      refine ⟨fun i s hi => ?_, fun i j s hi hj => ?_⟩
      · cases i with
        | zero =>
          have : t = s := by simpa [hd] using hi
          subst this
          exact ⟨ht, hns⟩
        | succ i =>
          obtain ⟨a, b⟩ := h1 i s (by simpa using hi)
          exact ⟨a, fun hm => b (List.mem_cons_of_mem _ hm)⟩
      · cases i with
        | zero =>
          cases j with
          | zero => rfl
          | succ j =>
            have : t = s := by simpa [hd] using hi
            subst this
            exact absurd (List.mem_cons_self ..) (h1 j t (by simpa using hj)).2
        | succ i =>
          cases j with
          | zero =>
            have : t = s := by simpa [hd] using hj
            subst this
            exact absurd (List.mem_cons_self ..) (h1 i t (by simpa using hi)).2
          | succ j => rw [h2 i j s (by simpa using hi) (by simpa using hj)]
/-- The act when some have come up: what the region does not write is as it was. -/
structure BaseA (ops : Array Oper) (a0 a : Act) : Prop where
  defers : a.defers = a0.defers
  size : a.tmps.size = a0.tmps.size
  rest : ∀ s, (∀ i, dstAt ops i ≠ some s) → a.tmps[s]? = a0.tmps[s]?
section
variable {P : Program} {ops : Array Oper} {Q : Exit → Act → World → Prop}
theorem put_base {a0 a : Act} (hb : BaseA ops a0 a) {k : Nat} {op : Oper} (ho : ops[k]? = some op) (v : Value) : BaseA ops a0 (a.put op.dst v) := by
  unfold Act.put
  cases hd : op.dst with
  | none => exact hb
  | some s =>
    refine ⟨hb.defers, by simp [hb.size], fun t ht => ?_⟩
    have hne : s ≠ t := fun e => ht k (by unfold dstAt; rw [ho]; simp [hd, e])
    rw [← hb.rest t ht]
    simp [Array.getElem?_setIfInBounds, hne]
theorem put_val {a : Act} {k : Nat} {op : Oper} (ho : ops[k]? = some op) {n : Nat} (hd : dstsOK n ops.toList [] = true) (hn : a.tmps.size = n) (v : Value) : valAt ops (a.put op.dst v) k = vOf op v := by
  unfold valAt vOf Act.put
  have e : dstAt ops k = op.dst := by unfold dstAt; rw [ho]; rfl
  rw [e]
  cases h : op.dst with
  | none => rfl
  | some s =>
    have hs := ((dsts_ne ops.toList [] n hd).1 k s (by rw [Array.getElem?_toList, ho]; exact h)).1
    simp [Array.getD_eq_getD_getElem?, Array.getElem?_setIfInBounds, hn, hs]
theorem put_other {a : Act} {k i : Nat} {op : Oper} (ho : ops[k]? = some op) {n : Nat} (hd : dstsOK n ops.toList [] = true) (hne : k ≠ i) (v : Value) : valAt ops (a.put op.dst v) i = valAt ops a i := by
  unfold valAt Act.put
  cases h : op.dst with
  | none => rfl
  | some s =>
    cases hi : dstAt ops i with
    | none => rfl
    | some t =>
      have hst : s ≠ t := fun e => hne ((dsts_ne ops.toList [] n hd).2 k i s (by rw [Array.getElem?_toList, ho]; exact h) (by rw [Array.getElem?_toList, e]; exact hi))
      simp [Array.getD_eq_getD_getElem?, Array.getElem?_setIfInBounds, hst]
/-- The act's slots when all have come up. -/
def fill : List Oper → (Nat → Value) → Nat → Array Value → Array Value
  | [], _, _, t => t
  | op :: r, vs, k, t => fill r vs (k + 1) (match op.dst with | some s => t.setIfInBounds s (vs k) | none => t)
theorem fill_none {s : Nat} : ∀ (l : List Oper) (vs : Nat → Value) (k : Nat) (t : Array Value), (∀ (i : Nat), (l[i]?).bind (fun (x : Oper) => x.dst) ≠ some s) → (fill l vs k t)[s]? = t[s]?
  | [], _, _, _, _ => rfl
  | op :: r, vs, k, t, h => by
    rw [fill, fill_none r vs (k + 1) _ (fun i => by simpa using h (i + 1))]
    have h0 := h 0
    cases hd : op.dst with
    | none => rfl
    | some x =>
      have hne : x ≠ s := fun e => h0 (by simp [hd, e])
      simp [Array.getElem?_setIfInBounds, hne]
theorem fill_some {s : Nat} : ∀ (l : List Oper) (vs : Nat → Value) (k : Nat) (t : Array Value) (i : Nat), (l[i]?).bind (fun (x : Oper) => x.dst) = some s → (∀ (j : Nat), (l[j]?).bind (fun (x : Oper) => x.dst) = some s → j = i) → s < t.size → (fill l vs k t)[s]? = some (vs (k + i))
  | [], _, _, _, i, h, _, _ => by simp at h
  | op :: r, vs, k, t, 0, h, hu, hs => by
    have hd : op.dst = some s := by simpa using h
    rw [fill, fill_none r vs (k + 1) _ (fun i hi => by have := hu (i + 1) (by simpa using hi); omega), hd]
    simp [Array.getElem?_setIfInBounds, hs]
  | op :: r, vs, k, t, i + 1, h, hu, hs => by
    rw [fill, fill_some r vs (k + 1) _ i (by simpa using h) (fun j hj => by have := hu (j + 1) (by simpa using hj); omega) (by cases op.dst <;> simp [hs])]
    congr 2; omega
theorem act_fill {a0 a : Act} (hb : BaseA ops a0 a) {n : Nat} (hn : a0.tmps.size = n) (hd : dstsOK n ops.toList [] = true) : a = ⟨fill ops.toList (valAt ops a) 0 a0.tmps, a0.defers⟩ := by
  obtain ⟨t, df⟩ := a
  have h1 := hb.defers
  have h2 := hb.size
  dsimp only at h1 h2
  subst h1
  congr 1
  refine Array.ext_getElem? fun s => ?_
  by_cases h : ∃ i, dstAt ops i = some s
  · obtain ⟨i, hi⟩ := h
    have hi' : (ops.toList[i]?).bind (fun (x : Oper) => x.dst) = some s := by rw [Array.getElem?_toList]; exact hi
    have hs := ((dsts_ne ops.toList [] n hd).1 i s hi').1
    rw [fill_some ops.toList _ 0 _ i hi' (fun j hj => (dsts_ne ops.toList [] n hd).2 j i s hj hi') (by omega), Nat.zero_add]
    unfold valAt
    rw [hi]
    have hst : s < t.size := by omega
    simp [Array.getD_eq_getD_getElem?, hst]
  · rw [fill_none ops.toList _ 0 _ (fun i hi => h ⟨i, by rw [Array.getElem?_toList] at hi; exact hi⟩)]
    exact hb.rest s (fun i hi => h ⟨i, hi⟩)
theorem fill_congr : ∀ (l : List Oper) (vs vs' : Nat → Value) (k : Nat) (t : Array Value), (∀ i, i < l.length → vs (k + i) = vs' (k + i)) → fill l vs k t = fill l vs' k t
  | [], _, _, _, _, _ => rfl
  | op :: r, vs, vs', k, t, h => by
    rw [fill, fill, show vs k = vs' k from h 0 (by simp)]
    refine fill_congr r vs vs' (k + 1) _ (fun i hi => ?_)
    have := h (i + 1) (by simpa using hi)
    rwa [show k + (i + 1) = k + 1 + i by omega] at this
/-! ### operations that come in one order -/
def cloL : List Oper → List Nat → List Nat
  | [], acc => acc
  | op :: r, acc => cloL r (acc ++ [(List.range acc.length).foldl (fun m j => if bitN (needOf op) j then Nat.lor m (acc.getD j 0) else m) (needOf op)])
/-- What operation k waits for, and what that waits for. -/
def clo (ops : Array Oper) (k : Nat) : Nat := (cloL ops.toList []).getD k 0
def Closed (ops : Array Oper) (d : Nat) : Prop := ∀ (i : Nat) (op : Oper), ops[i]? = some op → d.testBit i = true → ∀ j, (needOf op).testBit j = true → d.testBit j = true
theorem fold_clo (acc : List Nat) (nd : Nat) : ∀ (l : List Nat) (m k : Nat), (l.foldl (fun m j => if bitN nd j then Nat.lor m (acc.getD j 0) else m) m).testBit k = true → m.testBit k = true ∨ ∃ j ∈ l, nd.testBit j = true ∧ (acc.getD j 0).testBit k = true
  | [], m, k, h => .inl h
  | x :: r, m, k, h => by
    rw [List.foldl_cons] at h
    rcases fold_clo acc nd r _ k h with h1 | ⟨j, hj, h1⟩
    · by_cases hb : bitN nd x = true
      · rw [if_pos hb] at h1
        have h2 : (m ||| acc.getD x 0).testBit k = true := h1
        rw [Nat.testBit_or, Bool.or_eq_true] at h2
        rcases h2 with h2 | h2
        · exact .inl h2
        · exact .inr ⟨x, List.mem_cons_self .., by rwa [← bitN_eq], h2⟩
      · rw [if_neg hb] at h1
        exact .inl h1
    · exact .inr ⟨j, List.mem_cons_of_mem _ hj, h1⟩
theorem cloL_ok {ops : Array Oper} : ∀ (l : List Oper) (acc : List Nat), ops.toList.drop acc.length = l →
    (∀ j, j < acc.length → ∀ k, (acc.getD j 0).testBit k = true → ∀ d, Closed ops d → d.testBit j = true → d.testBit k = true) →
    ∀ j k, ((cloL l acc).getD j 0).testBit k = true → ∀ d, Closed ops d → d.testBit j = true → d.testBit k = true
  | [], acc, _, ha, j, k, h, d, hd, hj => by
    by_cases hlt : j < acc.length
    · exact ha j hlt k h d hd hj
    · have e : acc.getD j 0 = 0 := by simp [List.getD, List.getElem?_eq_none (by omega : acc.length ≤ j)]
      rw [cloL, e] at h
      simp at h
  | op :: r, acc, hl, ha, j, k, h, d, hd, hj => by
    have ho : ops[acc.length]? = some op := by
      have h1 : (ops.toList.drop acc.length)[0]? = some op := by rw [hl]; rfl
      rw [List.getElem?_drop] at h1
      simpa using h1
    refine cloL_ok r (acc ++ [_]) (by rw [List.length_append, List.length_singleton, ← List.drop_drop, hl]; rfl) (fun i hi k hk d hd hi2 => ?_) j k h d hd hj
    rw [List.length_append, List.length_singleton] at hi
    by_cases hlt : i < acc.length
    · rw [List.getD_eq_getElem?_getD, List.getElem?_append_left hlt, ← List.getD_eq_getElem?_getD] at hk
      exact ha i hlt k hk d hd hi2
    · obtain rfl : i = acc.length := by omega
      rw [List.getD_eq_getElem?_getD, List.getElem?_append_right (Nat.le_refl _), Nat.sub_self] at hk
      rcases fold_clo acc _ _ _ _ hk with h1 | ⟨x, hx, h1, h2⟩
      · exact hd _ op ho hi2 k h1
      · exact ha x (List.mem_range.1 hx) k h2 d hd (hd _ op ho hi2 x h1)
theorem clo_ok {ops : Array Oper} {j k : Nat} (h : (clo ops j).testBit k = true) {d : Nat} (hd : Closed ops d) (hj : d.testBit j = true) : d.testBit k = true :=
  cloL_ok ops.toList [] rfl (fun j hj => absurd hj (Nat.not_lt_zero _)) j k h d hd hj
def needAt (ops : Array Oper) (i j : Nat) : Bool := match ops[i]? with | some op => bitN (needOf op) j | none => false
def chained (ops : Array Oper) : List Nat → Bool
  | [] => true
  | [a] => Nat.blt a ops.size
  | a :: b :: r => Nat.blt a ops.size && (needAt ops b a && chained ops (b :: r))
theorem chained_at {ops : Array Oper} : ∀ {l : List Nat}, chained ops l = true → (∀ j ∈ l, j < ops.size) ∧ ∀ p a b, l[p]? = some a → l[p + 1]? = some b → needAt ops b a = true
  | [], _ => ⟨fun j hj => by simp at hj, fun p a b h => by simp at h⟩
  | [x], h => ⟨fun j hj => by rw [List.mem_singleton] at hj; subst hj; simpa [chained, Nat.blt_eq] using h, fun p a b h1 h2 => by simp at h2⟩
  | x :: y :: r, h => by
    simp only [chained, Bool.and_eq_true, Nat.blt_eq] at h
    obtain ⟨h0, h1, h2⟩ := h
    obtain ⟨i1, i2⟩ := chained_at h2
    refine ⟨fun j hj => ?_, fun p a b ha hb => ?_⟩
    · rcases List.mem_cons.1 hj with rfl | hj
      · exact h0
      · exact i1 j hj
    · cases p with
      | zero =>
        have e1 : x = a := by simpa using ha
        have e2 : y = b := by simpa using hb
        subst e1; subst e2; exact h1
      | succ p => exact i2 p a b (by simpa using ha) (by simpa using hb)
def updU (u : Nat → Value) (p : Nat) (v : Value) : Nat → Value := fun q => if q = p then v else u q
/-- The phases in which operation k may come up. -/
def loN (ops : Array Oper) (turn : List Nat) (k : Nat) : Nat := turn.zipIdx.foldl (fun m x => if needAt ops k x.1 then x.2 + 1 else m) 0
def hiN (ops : Array Oper) (turn : List Nat) (k : Nat) : Nat := (turn.takeWhile (fun j => !bitN (clo ops j) k)).length
/-- May operation i have come up ahead of operation j? -/
def mayB (ops : Array Oper) (j i : Nat) : Bool := !Nat.beq i j && !bitN (clo ops i) j
theorem lo_le {ops : Array Oper} {k q : Nat} : ∀ (l : List (Nat × Nat)) (m : Nat), m ≤ q → (∀ x ∈ l, needAt ops k x.1 = true → x.2 < q) → l.foldl (fun m x => if needAt ops k x.1 then x.2 + 1 else m) m ≤ q
  | [], m, hm, _ => hm
  | x :: r, m, hm, h => by
    rw [List.foldl_cons]
    refine lo_le r _ ?_ (fun y hy => h y (List.mem_cons_of_mem _ hy))
    by_cases hx : needAt ops k x.1 = true
    · rw [if_pos hx]; exact h x (List.mem_cons_self ..) hx
    · rw [if_neg hx]; exact hm
theorem hi_ge {ops : Array Oper} {k : Nat} {turn : List Nat} {p : Nat} (hp : p ≤ turn.length) (h : ∀ i j, turn[i]? = some j → i < p → bitN (clo ops j) k = false) : p ≤ hiN ops turn k := by
  unfold hiN
  induction turn generalizing p with
  | nil => simp at hp ⊢; omega
  | cons x r ih =>
    cases p with
    | zero => exact Nat.zero_le _
    | succ p =>
      rw [List.takeWhile_cons, h 0 x rfl (by omega)]
      simp only [Bool.not_false, if_true, List.length_cons]
      simp only [List.length_cons] at hp
      have := ih (p := p) (by omega) (fun i j hi hlt => h (i + 1) j (by simpa using hi) (by omega))
      omega
variable {turn : List Nat} {Ph : Nat → (Nat → Value) → World → Prop} {V : Nat → (Nat → Value) → Value}
def Quiet (P : Program) (ops : Array Oper) (turn : List Nat) (Ph : Nat → (Nat → Value) → World → Prop) (V : Nat → (Nat → Value) → Value) (a0 : Act) (k : Nat) (op : Oper) : Prop :=
  ∀ p u (a : Act) w, loN ops turn k ≤ p → p ≤ hiN ops turn k → BaseA ops a0 a → Ph p u w → (∀ i, (needOf op).testBit i = true → valAt ops a i = V i u) →
    (Region.wanted op (yielded ops a.tmps) = true ∧ (execOp a.eval op).run P w = .ok (.value (V k u)) w ∧ op.dst.isSome = true) ∨ (Region.wanted op (yielded ops a.tmps) = false ∧ V k u = undef)
def Turns (P : Program) (ops : Array Oper) (Q : Exit → Act → World → Prop) (Ph : Nat → (Nat → Value) → World → Prop) (V : Nat → (Nat → Value) → Value) (a0 : Act) (k : Nat) (op : Oper) (p : Nat) : Prop :=
  ∀ u (a : Act) w, BaseA ops a0 a → Ph p u w → (∀ i, (needOf op).testBit i = true → valAt ops a i = V i u) →
    Region.wanted op (yielded ops a.tmps) = true ∧ ∀ K : Act → World → Prop, (∀ v w', Ph (p + 1) (updU u p v) w' → vOf op v = V k (updU u p v) → K (a.put op.dst v) w') → Oper.wp P op a w K Q
def StepC (P : Program) (ops : Array Oper) (Q : Exit → Act → World → Prop) (turn : List Nat) (Ph : Nat → (Nat → Value) → World → Prop) (V : Nat → (Nat → Value) → Value) (a0 : Act) (k : Nat) (op : Oper) : Prop :=
  match turn.idxOf? k with
  | none => Quiet P ops turn Ph V a0 k op
  | some p => Turns P ops Q Ph V a0 k op p
def StepsC (P : Program) (ops : Array Oper) (Q : Exit → Act → World → Prop) (turn : List Nat) (Ph : Nat → (Nat → Value) → World → Prop) (V : Nat → (Nat → Value) → Value) (a0 : Act) : List Oper → Nat → Prop
  | [], _ => True
  | op :: r, k => StepC P ops Q turn Ph V a0 k op ∧ StepsC P ops Q turn Ph V a0 r (k + 1)
theorem stepsC_at {a0 : Act} : ∀ {l : List Oper} {j : Nat}, StepsC P ops Q turn Ph V a0 l j → ∀ i op, l[i]? = some op → StepC P ops Q turn Ph V a0 (j + i) op
  | [], j, _, i, op, h => by simp at h
  | x :: r, j, hs, i, op, h => by
    cases i with
    | zero => obtain rfl : x = op := by simpa using h
              exact hs.1
    | succ i =>
      have := stepsC_at hs.2 i op (by simpa using h)
      rwa [show j + 1 + i = j + (i + 1) by omega] at this
/-- What is known when the operations of the mask d have come up. -/
def InvC (ops : Array Oper) (turn : List Nat) (Ph : Nat → (Nat → Value) → World → Prop) (V : Nat → (Nat → Value) → Value) (a0 : Act) (d : Nat) (a : Act) (w : World) : Prop :=
  ∃ p u, BaseA ops a0 a ∧ Closed ops d ∧ p ≤ turn.length ∧ (∀ i j, turn[i]? = some j → (d.testBit j = true ↔ i < p)) ∧ Ph p u w ∧ ∀ i, i < ops.size → d.testBit i = true → valAt ops a i = V i u
def HV (ops : Array Oper) (V : Nat → (Nat → Value) → Value) (p j : Nat) : Nat → Prop
  | 0 => True
  | k + 1 => HV ops V p j k ∧ (mayB ops j k = true → ∀ u v, V k (updU u p v) = V k u)
theorem hv_at {p j : Nat} : ∀ {n : Nat}, HV ops V p j n → ∀ i, i < n → mayB ops j i = true → ∀ u v, V i (updU u p v) = V i u
  | 0, _, i, hi, _ => by omega
  | n + 1, h, i, hi, hm => by
    by_cases e : i = n
    · subst e; exact h.2 hm
    · exact hv_at h.1 i (by omega) hm
def HVs (ops : Array Oper) (V : Nat → (Nat → Value) → Value) : List Nat → Nat → Prop
  | [], _ => True
  | j :: r, p => HV ops V p j ops.size ∧ HVs ops V r (p + 1)
theorem hvs_at : ∀ {l : List Nat} {q : Nat}, HVs ops V l q → ∀ p j, l[p]? = some j → HV ops V (q + p) j ops.size
  | [], q, _, p, j, h => by simp at h
  | x :: r, q, hs, p, j, h => by
    cases p with
    | zero => obtain rfl : x = j := by simpa using h
              exact hs.1
    | succ p =>
      have := hvs_at hs.2 p j (by simpa using h)
      rwa [show q + 1 + p = q + (p + 1) by omega] at this
theorem idx_some {l : List Nat} {k p : Nat} (h : l.idxOf? k = some p) : l[p]? = some k := by
  rw [List.idxOf?, List.findIdx?_eq_some_iff_getElem] at h
  obtain ⟨hp, h1, _⟩ := h
  rw [List.getElem?_eq_getElem hp]
  simpa using h1
theorem idx_none {l : List Nat} {k : Nat} (h : l.idxOf? k = none) : k ∉ l := by
  intro hm
  rw [List.idxOf?, List.findIdx?_eq_none_iff] at h
  have := h k hm
  simp at this
theorem wp_chain {id : Nat} {a0 : Act} {w : World} (turn : List Nat) (Ph : Nat → (Nat → Value) → World → Prop) (V : Nat → (Nat → Value) → Value) (u0 : Nat → Value) (n : Nat) (hm : P.follows .mixedOrders = true)
    (hx : lexN (needTab ops) = true) (hn : a0.tmps.size = n) (hd : dstsOK n ops.toList [] = true) (ht : chained ops turn = true) (hV : HVs ops V turn 0)
    (hstep : StepsC P ops Q turn Ph V a0 ops.toList 0) (h0 : Ph 0 u0 w.drew)
    (hend : ∀ u w', Ph turn.length u w' → Q .normal ⟨fill ops.toList (fun i => V i u) 0 a0.tmps, a0.defers⟩ w') : (Code.region id ops true).wp P Q a0 w := by
  obtain ⟨htlt, htc⟩ := chained_at ht
  have hin : ∀ {k op}, ops[k]? = some op → ∀ i, (needOf op).testBit i = true → i < ops.size := fun {k op} ho i hi => by
    have h1 := lexN_mem hx _ (tab_mem ho)
    have hlt := (Array.getElem?_eq_some_iff.1 ho).1
    have h2 := Nat.ge_two_pow_of_testBit hi
    have h3 : 2 ^ i < 2 ^ k := Nat.lt_of_le_of_lt h2 h1
    have h4 : i < k := (Nat.pow_lt_pow_iff_right (by omega)).1 h3
    omega
  refine wp_region_any hm (wpAny_inv (Inv := InvC ops turn Ph V a0) hx ?_ ?_ ops.size 0 _ a0 _ (Same.zero _) (by simp) ?_)
  · intro d k op a w' ho hk hneed hi
    obtain ⟨p, u, hb, hcl, hp, hturn, hPh, hval⟩ := hi
    have hs := stepsC_at hstep k op (by rw [Array.getElem?_toList]; exact ho)
    rw [Nat.zero_add] at hs
    have hlt : k < ops.size := (Array.getElem?_eq_some_iff.1 ho).1
    have hsz : a.tmps.size = n := hb.size.trans hn
    have hnv : ∀ i, (needOf op).testBit i = true → valAt ops a i = V i u := fun i hi => hval i (hin ho i hi) (hneed i hi)
    have hcl2 : Closed ops (Nat.lor d (Nat.shiftLeft 1 k)) := by
      intro i opi hoi hbit j hj
      rw [or_bit] at hbit ⊢
      by_cases e : k = i
      · subst e
        rw [ho] at hoi
        cases hoi
        rw [hneed j hj]; rfl
      · rw [hcl i opi hoi (by simpa [e] using hbit) j hj]; rfl
    refine wpOp_step ho (fun K hK => ?_)
    unfold StepC at hs
    split at hs
    · rename_i hidx
      have hkt := idx_none hidx
      have hlo : loN ops turn k ≤ p := by
        refine lo_le _ 0 (Nat.zero_le _) (fun x hx hnd => ?_)
        have hx1 : turn[x.2]? = some x.1 := List.mk_mem_zipIdx_iff_getElem?.1 hx
        refine (hturn x.2 x.1 hx1).1 (hneed x.1 ?_)
        unfold needAt at hnd
        rw [ho] at hnd
        rwa [← bitN_eq]
      have hhi : p ≤ hiN ops turn k := by
        refine hi_ge hp (fun i j hij hlt2 => ?_)
        cases hb2 : bitN (clo ops j) k with
        | false => rfl
        | true =>
          rw [bitN_eq] at hb2
          have := clo_ok hb2 hcl ((hturn i j hij).2 hlt2)
          rw [hk] at this
          cases this
      have next : ∀ v, vOf op v = V k u → InvC ops turn Ph V a0 (Nat.lor d (Nat.shiftLeft 1 k)) (a.put op.dst v) w' := by
        intro v hv
        refine ⟨p, u, put_base hb ho v, hcl2, hp, fun i j hij => ?_, hPh, fun i hi hbit => ?_⟩
        · rw [or_bit, ← hturn i j hij]
          have hne : k ≠ j := fun e => hkt (e ▸ List.mem_of_getElem? hij)
          simp [hne]
        · by_cases e : k = i
          · subst e
            rw [put_val ho hd hsz]
            exact hv
          · rw [put_other ho hd e]
            rw [or_bit] at hbit
            exact hval i hi (by simpa [e] using hbit)
      rcases hs p u a w' hlo hhi hb hPh hnv with ⟨hw, hr, hds⟩ | ⟨hw, hr⟩
      · rw [if_pos hw]
        unfold Oper.wp
        rw [hr]
        refine hK _ _ (next _ ?_)
        obtain ⟨s, hs2⟩ := Option.isSome_iff_exists.1 hds
        simp [vOf, hs2]
      · rw [if_neg (by rw [hw]; decide)]
        refine hK _ _ (next _ ?_)
        rw [hr]
        unfold vOf
        cases op.dst <;> rfl
    · rename_i q hidx
      have hq := idx_some hidx
      have hpq : q = p := by
        have h1 : ¬ q < p := fun hlt2 => by
          have := (hturn q k hq).2 hlt2
          rw [hk] at this
          cases this
        cases q with
        | zero => omega
        | succ q =>
          obtain ⟨x, hx1⟩ : ∃ x, turn[q]? = some x := by
            have : q < turn.length := by have := (List.getElem?_eq_some_iff.1 hq).1; omega
            exact ⟨_, List.getElem?_eq_getElem this⟩
          have h2 := htc q x k hx1 hq
          unfold needAt at h2
          rw [ho] at h2
          have h3 := (hturn q x hx1).1 (hneed x (by rwa [← bitN_eq]))
          omega
      subst hpq
      have hqlt := (List.getElem?_eq_some_iff.1 hq).1
      obtain ⟨hw, hwp⟩ := hs u a w' hb hPh hnv
      rw [if_pos hw]
      refine hwp K (fun v w2 hPh2 hv => hK _ _ ⟨q + 1, updU u q v, put_base hb ho v, hcl2, hqlt, fun i j hij => ?_, hPh2, fun i hi hbit => ?_⟩)
      · rw [or_bit]
        by_cases e : k = j
        · subst e
          have hiq : ¬ i < q := fun hlt2 => by
            have := (hturn i k hij).2 hlt2
            rw [hk] at this
            cases this
          have hqi : i = q := by
            cases i with
            | zero => omega
            | succ i =>
              obtain ⟨x, hx1⟩ : ∃ x, turn[i]? = some x := by
                have : i < turn.length := by have := (List.getElem?_eq_some_iff.1 hij).1; omega
                exact ⟨_, List.getElem?_eq_getElem this⟩
              have h2 := htc i x k hx1 hij
              unfold needAt at h2
              rw [ho] at h2
              have h3 := (hturn i x hx1).1 (hneed x (by rwa [← bitN_eq]))
              omega
          subst hqi
          simp
        · have := hturn i j hij
          rw [show (d.testBit j || decide (k = j)) = d.testBit j by simp [e], this]
          constructor
          · intro h; omega
          · intro h
            rcases Nat.lt_succ_iff_lt_or_eq.1 h with h | h
            · exact h
            · subst h
              rw [hq] at hij
              exact absurd (by injection hij) e
      · by_cases e : k = i
        · subst e
          rw [put_val ho hd hsz]
          exact hv
        · rw [put_other ho hd e]
          rw [or_bit] at hbit
          have hbi : d.testBit i = true := by simpa [e] using hbit
          rw [hval i hi hbi]
          have h5 := hvs_at hV q k hq
          rw [Nat.zero_add] at h5
          refine (hv_at h5 i hi ?_ u v).symm
          unfold mayB
          rw [Bool.and_eq_true]
          refine ⟨?_, ?_⟩
          · cases hbq : Nat.beq i k with
            | true => exact absurd (Nat.eq_of_beq_eq_true hbq).symm e
            | false => rfl
          · cases hb2 : bitN (clo ops i) k with
            | false => rfl
            | true =>
              rw [bitN_eq] at hb2
              have := clo_ok hb2 hcl hbi
              rw [hk] at this
              cases this
  · rintro d a w' hall ⟨p, u, hb, hcl, hp, hturn, hPh, hval⟩
    have hpe : p = turn.length := by
      by_cases e : p = turn.length
      · exact e
      · have hlt : p < turn.length := by omega
        have h1 : turn[p]? = some turn[p] := List.getElem?_eq_getElem hlt
        have := (hturn p _ h1).1 (hall _ (htlt _ (List.getElem_mem hlt)))
        omega
    subst hpe
    have e2 : a = ⟨fill ops.toList (fun i => V i u) 0 a0.tmps, a0.defers⟩ := by
      rw [act_fill hb hn hd]
      congr 1
      refine fill_congr _ _ _ _ _ (fun i hi => ?_)
      rw [Nat.zero_add]
      exact hval i (by simpa using hi) (hall i (by simpa using hi))
    rw [e2]
    exact hend u w' hPh
  · exact ⟨0, u0, ⟨rfl, rfl, fun _ _ => rfl⟩, fun i op _ hbit => by simp at hbit, Nat.zero_le _, fun i j _ => by simp, h0, fun i hi hbit => by simp at hbit⟩
/-! ### one operation -/
variable {a0 : Act} {k : Nat} {op : Oper}
theorem quiet_of (hi : turn.idxOf? k = none) (h : Quiet P ops turn Ph V a0 k op) : StepC P ops Q turn Ph V a0 k op := by unfold StepC; rw [hi]; exact h
theorem turns_of {p : Nat} (hi : turn.idxOf? k = some p) (h : Turns P ops Q Ph V a0 k op p) : StepC P ops Q turn Ph V a0 k op := by unfold StepC; rw [hi]; exact h
theorem wanted_none {y : Nat → Option Bool} (hg : op.guard = none) : Region.wanted op y = true := by
  unfold Region.wanted
  rw [hg]
theorem writes_ne {s : Nat} (h : writes ops s = false) (i : Nat) : dstAt ops i ≠ some s := by
  intro e
  unfold dstAt at e
  cases ho : ops[i]? with
  | none => rw [ho] at e; cases e
  | some o =>
    rw [ho] at e
    have e2 : o.dst = some s := e
    have hm : o ∈ ops.toList := by
      rw [← Array.getElem?_toList] at ho
      exact List.mem_of_getElem? ho
    have := List.any_eq_false.1 h o hm
    rw [e2] at this
    simp at this
/-- What an operand is when operation k comes up. -/
def Ev (ops : Array Oper) (V : Nat → (Nat → Value) → Value) (a0 : Act) (op : Oper) (x : Operand) (val : (Nat → Value) → Value) : Prop :=
  ∀ u (a : Act), BaseA ops a0 a → (∀ i, (needOf op).testBit i = true → valAt ops a i = V i u) → a.eval x = val u
theorem eval_at {a : Act} {i s : Nat} (h : dstAt ops i = some s) : a.eval (.tmp s) = valAt ops a i := by
  show a.tmps.getD s undef = _
  unfold valAt; rw [h]
theorem ev_base {s : Nat} {v : Value} (hs : writes ops s = false) (h0 : a0.tmps.getD s undef = v) : Ev ops V a0 op (.tmp s) (fun _ => v) := fun u a hb _ => by
  show a.tmps.getD s undef = _
  rw [← h0, Array.getD_eq_getD_getElem?, Array.getD_eq_getD_getElem?, hb.rest s (writes_ne hs)]
theorem ev_at {i s : Nat} (hd : dstAt ops i = some s) (hn : (needOf op).testBit i = true) : Ev ops V a0 op (.tmp s) (V i) := fun u a _ hv => by
  rw [← hv i hn]
  show a.tmps.getD s undef = _
  unfold valAt; rw [hd]
/-- An operation that looks at most at memory. -/
theorem l_read (hi : turn.idxOf? k = none) (hg : op.guard = none) (hd : op.dst.isSome = true)
    (h : ∀ p u (a : Act) w, loN ops turn k ≤ p → p ≤ hiN ops turn k → BaseA ops a0 a → (∀ i, (needOf op).testBit i = true → valAt ops a i = V i u) → Ph p u w → (execOp a.eval op).run P w = .ok (.value (V k u)) w) : StepC P ops Q turn Ph V a0 k op :=
  quiet_of hi fun p u a w hlo hhi hb hP hn => .inl ⟨wanted_none hg, h p u a w hlo hhi hb hn hP, hd⟩
theorem l_move (x : Operand) (ho : op.op = .move x ∨ op.op = .assign x) (hi : turn.idxOf? k = none) (hg : op.guard = none) (hd : op.dst.isSome = true) (hE : Ev ops V a0 op x (V k)) : StepC P ops Q turn Ph V a0 k op :=
  l_read hi hg hd fun p u a w _ _ hb hn _ => by
    unfold execOp
    rcases ho with ho | ho <;> simp [ho, hE u a hb hn]
/-- An operation that turns the world as is known ahead. -/
theorem l_turn {p : Nat} (hi : turn.idxOf? k = some p) (hg : op.guard = none) (v : Value)
    (h : ∀ u (a : Act) w, BaseA ops a0 a → (∀ i, (needOf op).testBit i = true → valAt ops a i = V i u) → Ph p u w → ∃ w', (execOp a.eval op).run P w = .ok (.value v) w' ∧ Ph (p + 1) (updU u p v) w' ∧ vOf op v = V k (updU u p v)) : StepC P ops Q turn Ph V a0 k op :=
  turns_of hi fun u a w hb hP hn => ⟨wanted_none hg, fun K hK => by
    obtain ⟨w', hr, h1, h2⟩ := h u a w hb hn hP
    unfold Oper.wp
    rw [hr]
    exact hK v w' h1 h2⟩
theorem l_skip {p : Nat} (hi : turn.idxOf? k = some p) (hg : op.guard = none)
    (h : ∀ u (a : Act) w, BaseA ops a0 a → (∀ i, (needOf op).testBit i = true → valAt ops a i = V i u) → Ph p u w → ∃ w', (execOp a.eval op).run P w = .ok .skip w' ∧ Ph (p + 1) (updU u p undef) w' ∧ vOf op undef = V k (updU u p undef)) : StepC P ops Q turn Ph V a0 k op :=
  turns_of hi fun u a w hb hP hn => ⟨wanted_none hg, fun K hK => by
    obtain ⟨w', hr, h1, h2⟩ := h u a w hb hn hP
    unfold Oper.wp
    rw [hr]
    exact hK undef w' h1 h2⟩
/-- A call whose contract is at hand. -/
theorem l_call {p : Nat} (hi : turn.idxOf? k = some p) (hg : op.guard = none)
    (h : ∀ u (a : Act) w, BaseA ops a0 a → (∀ i, (needOf op).testBit i = true → valAt ops a i = V i u) → Ph p u w → ∃ f args, (execOp a.eval op).run P w = .ok (.enter f args) w ∧
      Calls P f args w fun e w' => ∃ v, e = .returned v ∧ Ph (p + 1) (updU u p v) w' ∧ vOf op v = V k (updU u p v)) : StepC P ops Q turn Ph V a0 k op :=
  turns_of hi fun u a w hb hP hn => ⟨wanted_none hg, fun K hK => by
    obtain ⟨f, args, hr, hc⟩ := h u a w hb hn hP
    unfold Oper.wp
    rw [hr]
    refine hc.mono ?_
    rintro e w' ⟨v, rfl, h1, h2⟩
    exact hK v w' h1 h2⟩
end
end Go.Proofs.YtfnmekmgjcjglaaDoor.R
