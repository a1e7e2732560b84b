/-
  A region that draws its order, walked once in an order that is handed over: loads and what looks at no world may be taken first; of the rest one alone may come up.
-/
import Derived.Test.YtfnmekmgjcjglaaDoorYMA
import Derived.OrdersHeld
import Derived.Deep.RegionHeld
namespace Go.Proofs.YtfnmekmgjcjglaaDoor
set_option linter.unusedVariables false
set_option linter.unusedSimpArgs false
open Go Go.RowKit
set_option maxRecDepth 100000
set_option linter.unusedVariables false
set_option linter.unusedSimpArgs false
set_option maxRecDepth 100000
set_option linter.unusedVariables false
set_option linter.unusedSimpArgs false
/-- Is it taken first? -/
def takes (o : Oper) : Bool := match o.op with
  | .call _ => false
  | .alloc _ => false
  | .store _ _ _ => false
  | .buildSlice _ _ _ => false
  | _ => true
/-- Masks: which numbers are set. -/
def bitN (d j : Nat) : Bool := Nat.beq (Nat.land (Nat.shiftRight d j) 1) 1
def subN (m d : Nat) : Bool := Nat.beq (Nat.land m d) m
def allN (f : Nat → Nat → Bool) : List (Nat × Nat) → Bool
  | [] => true
  | (j, m) :: r => f j m && allN f r
def needOf (o : Oper) : Nat := (o.after.toList.filter (Region.binds .any)).foldl (fun s e => Nat.lor s (Nat.shiftLeft 1 e.on)) 0
def needTab (ops : Array Oper) : List (Nat × Nat) := ops.toList.zipIdx.map fun p => (p.2, needOf p.1)
def freeN (ops : Array Oper) (o : Oper) (k d j m : Nat) : Bool := Nat.beq j k || (bitN d j || (bitN m k || (match ops[j]? with | some oj => o.apart ops oj | none => true)))
def onlyN (k d j m : Nat) : Bool := Nat.beq j k || (bitN d j || !subN m d)
def ordN (ops : Array Oper) (tab : List (Nat × Nat)) : List (Nat × Nat) → Nat → Bool
  | [], d => allN (fun j _ => bitN d j) tab
  | (k, d') :: r, d => (Nat.beq d d' && (!bitN d' k && (match ops[k]? with
      | some o => subN (needOf o) d' && (match takes o with | true => allN (freeN ops o k d') tab | false => allN (onlyN k d') tab)
      | none => false))) && ordN ops tab r (Nat.lor d' (Nat.shiftLeft 1 k))
theorem bitN_eq (d j : Nat) : bitN d j = d.testBit j := by
  have h : bitN d j = Nat.beq ((d >>> j) &&& 1) 1 := rfl
  rw [h, Nat.testBit, Nat.and_comm 1, Nat.and_one_is_mod]
  rcases Nat.mod_two_eq_zero_or_one (d >>> j) with h | h <;> rw [h] <;> rfl
theorem subN_iff {m d : Nat} : subN m d = true ↔ ∀ i, m.testBit i = true → d.testBit i = true := by
  have h : (subN m d = true) ↔ m &&& d = m := by
    unfold subN; rw [Nat.beq_eq]; exact Iff.rfl
  rw [h]
  constructor
  · intro e i hi
    rw [← e, Nat.testBit_and, Bool.and_eq_true] at hi
    exact hi.2
  · intro e
    refine Nat.eq_of_testBit_eq (fun i => ?_)
    rw [Nat.testBit_and]
    cases hm : m.testBit i
    · rfl
    · rw [e i hm]; rfl
theorem or_bit (s k i : Nat) : (Nat.lor s (Nat.shiftLeft 1 k)).testBit i = (s.testBit i || decide (k = i)) := by
  have h : Nat.lor s (Nat.shiftLeft 1 k) = s ||| (1 <<< k) := rfl
  rw [h, Nat.testBit_or, Nat.shiftLeft_eq, Nat.one_mul, Nat.testBit_two_pow]
theorem fold_bit (l : List Edge) : ∀ (s i : Nat), (l.foldl (fun s e => Nat.lor s (Nat.shiftLeft 1 e.on)) s).testBit i = (s.testBit i || l.any (fun e => e.on == i)) := by
  induction l with
  | nil => intro s i; simp
  | cons e r ih =>
    intro s i
    rw [List.foldl_cons, ih, or_bit, List.any_cons, Bool.or_assoc]
    congr 2
theorem need_bit (o : Oper) (i : Nat) : (needOf o).testBit i = true ↔ ∃ e ∈ o.after, Region.binds .any e = true ∧ e.on = i := by
  rw [needOf, fold_bit]
  simp only [Nat.zero_testBit, Bool.false_or, List.any_eq_true, List.mem_filter, Array.mem_toList_iff, beq_iff_eq]
  constructor
  · rintro ⟨e, ⟨h1, h2⟩, h3⟩; exact ⟨e, h1, h2, h3⟩
  · rintro ⟨e, h1, h2, h3⟩; exact ⟨e, ⟨h1, h2⟩, h3⟩
theorem tab_mem {ops : Array Oper} {j : Nat} {o : Oper} (h : ops[j]? = some o) : (j, needOf o) ∈ needTab ops := by
  refine List.mem_map.2 ⟨(o, j), ?_, rfl⟩
  rw [List.mk_mem_zipIdx_iff_getElem?, Array.getElem?_toList]
  exact h
/-- What has come up, as a mask. -/
structure Same (n d : Nat) (l : Array Bool) : Prop where
  size : l.size = n
  bit : ∀ i, l.getD i false = d.testBit i
theorem Same.in {n d : Nat} {l : Array Bool} (h : Same n d l) {i : Nat} (hi : i < n) : l.getD i true = d.testBit i := by
  rw [← h.bit i]
  simp [Array.getD, h.size, hi]
theorem Same.zero (n : Nat) : Same n 0 (Array.replicate n false) := ⟨by simp, fun i => by
  rw [Nat.zero_testBit]
  simp only [Array.getD, Array.size_replicate]
  split <;> simp⟩
theorem Same.set {n d k : Nat} {l : Array Bool} (h : Same n d l) (hk : k < n) : Same n (Nat.lor d (Nat.shiftLeft 1 k)) (l.setIfInBounds k true) := ⟨by simp [h.size], fun i => by
  rw [or_bit, ← h.bit i, Array.getD_eq_getD_getElem?, Array.getD_eq_getD_getElem?, Array.getElem?_setIfInBounds]
  by_cases e : k = i
  · subst e; simp [h.size, hk]
  · simp [e]⟩
theorem ready_iff {ops : Array Oper} {d i : Nat} {l : Array Bool} {o : Oper} (h : Same ops.size d l) (ho : ops[i]? = some o) :
    i ∈ Region.ready .any ops l ↔ d.testBit i = false ∧ subN (needOf o) d = true := by
  have hi : i < ops.size := (Array.getElem?_eq_some_iff.1 ho).1
  unfold Region.ready
  rw [List.mem_filter, List.mem_range, h.in hi, ho]
  simp only [hi, true_and, Bool.and_eq_true, Bool.not_eq_true', Option.map_some, Option.getD_some]
  refine and_congr_right (fun _ => ?_)
  rw [subN_iff, Array.all_eq_true_iff_forall_mem]
  constructor
  · intro H x hx
    obtain ⟨e, he, hb, rfl⟩ := (need_bit o x).1 hx
    have := H e he
    rw [hb, h.bit] at this
    simpa using this
  · intro H e he
    cases hb : Region.binds .any e
    · rfl
    · rw [h.bit, H e.on ((need_bit o _).2 ⟨e, he, hb, rfl⟩)]; rfl
def wpHeld (P : Program) (ops : Array Oper) (Q : Exit → Act → World → Prop) (S : World → Prop) : List Nat → Act → World → Prop
  | [], a, w => Q .normal a w
  | k :: r, a, w => ∃ o, ops[k]? = some o ∧ if takes o = true then ∃ v, YieldsIf P ops S o v a ∧ wpHeld P ops Q S r (a.put o.dst v) w
      else wpOp P ops Q k (fun a' w' => S w' ∧ (S w' → wpHeld P ops Q S r a' w')) a w
section
variable {P : Program} {ops : Array Oper} {Q : Exit → Act → World → Prop} {S : World → Prop}
end
end Go.Proofs.YtfnmekmgjcjglaaDoor
