/-
  Buffers: mathematics of what waits and what is handed on.
-/
import Derived.Test.YtfnmekmgjcjglaaDoorYME
import Derived.Test.YtfnmekmgjcjglaaDoorYMH
import Derived.Maps.OwnSet
import Derived.Maps.RangeWalk
import Derived.Sort.KeysCollected
import Derived.RangeFuncNested
import Derived.RangeFuncBound
import Derived.RangeFuncLeaves
import Derived.Shelf.Abstract
import Derived.WalkKit
import Derived.OwnWalkIn
import Derived.TacticsInMore
import Derived.LoopNIn
import Derived.LoopIn
import Derived.Maps.AppendAt
import Derived.Sort.MapsRangeIn
namespace Go.Proofs.YtfnmekmgjcjglaaDoor.V
set_option linter.unusedVariables false
set_option linter.unusedSimpArgs false
set_option maxRecDepth 100000
open Go Go.RowKit Go.Maps
/-- May an operation be handed on? -/
def mayB (h : Vec) (x : OC) : Bool := decide (h x.1.r + 1 = x.1.n) && aboveB h x.1.dep
/-- The better of what was found and another one. -/
def winsB (b : Option OC) (x : OC) : Bool := match b with | none => true | some y => decide (ltO x y)
def betterM (h : Vec) (b : Option OC) (x : OC) : Option OC := if mayB h x && winsB b x then some x else b
/-- The first in the order that may be handed on. -/
def nextM (h : Vec) (l : List OC) : Option OC := l.foldl (betterM h) none
/-- Those of other dots. -/
def remM (l : List OC) (d : Dot) : List OC := l.filter fun y => !(dt y == d)
def upX (h : Vec) (x : OC) : Vec := upd h x.1.r x.1.n
/-- What is handed on, what was handed on then, what waits then. -/
def drainM : Nat → Vec → List OC → List OC × Vec × List OC
  | 0, h, l => ([], h, l)
  | k + 1, h, l => match nextM h l with
    | none => ([], h, l)
    | some x => (x :: (drainM k (upX h x) (remM l (dt x))).1, (drainM k (upX h x) (remM l (dt x))).2)
/-- Is a dot known, or does one of it wait? -/
def thereB (h : Vec) (l : List OC) (d : Dot) : Bool := l.any (fun y => dt y == d) || decide (d.2 ≤ h d.1)
def admit1 (h : Vec) (l : List OC) (x : OC) : List OC := if thereB h l (dt x) then l else l ++ [x]
def admitM (h : Vec) (l xs : List OC) : List OC := xs.foldl (admit1 h) l
/-- Operations put. -/
def putM (h : Vec) (l xs : List OC) : List OC × Vec × List OC := drainM (admitM h l xs).length h (admitM h l xs)
/-! ### what is found next -/
theorem better_fold (h : Vec) : ∀ (l : List OC) (b : Option OC), (∀ y, b = some y → mayB h y = true) →
    (l.foldl (betterM h) b = none → b = none ∧ ∀ y ∈ l, mayB h y = false) ∧
    (∀ x, l.foldl (betterM h) b = some x → mayB h x = true ∧ (b = some x ∨ x ∈ l) ∧ (∀ y, b = some y → ¬ ltO y x) ∧ ∀ y ∈ l, mayB h y = true → ¬ ltO y x)
  | [], b, hb => ⟨fun e => ⟨e, fun y hy => by cases hy⟩, fun x e => ⟨hb x e, .inl e, fun y hy => by rw [show b = some x from e] at hy; cases hy; exact ltO_irr x, fun y hy => by cases hy⟩⟩
  | z :: l, b, hb => by
    rw [List.foldl_cons]
    by_cases hz : mayB h z = true
    · by_cases hlt : winsB b z = true
      · have e : betterM h b z = some z := by unfold betterM; rw [hz, hlt]; rfl
        obtain ⟨h1, h2⟩ := better_fold h l (some z) (fun y hy => by cases hy; exact hz)
        rw [e]
        refine ⟨fun e => (by have := (h1 e).1; cases this), fun x e => ?_⟩
        obtain ⟨g1, g2, g3, g4⟩ := h2 x e
        refine ⟨g1, .inr ?_, fun y hy hyx => ?_, fun y hy hm => ?_⟩
        · rcases g2 with g2 | g2
          · cases g2; exact List.mem_cons_self ..
          · exact List.mem_cons_of_mem _ g2
        · subst hy
          have hzy : ltO z y := by simpa [winsB] using hlt
          exact g3 z rfl (ltO_trans hzy hyx)
        · rcases List.mem_cons.1 hy with rfl | hy
          · exact g3 y rfl
          · exact g4 y hy hm
      · have e : betterM h b z = b := by unfold betterM; rw [hz, Bool.true_and, if_neg hlt]
        obtain ⟨h1, h2⟩ := better_fold h l b hb
        rw [e]
        cases b with
        | none => exact absurd rfl hlt
        | some w =>
          refine ⟨fun e => (by have := (h1 e).1; cases this), fun x e => ?_⟩
          obtain ⟨g1, g2, g3, g4⟩ := h2 x e
          refine ⟨g1, g2.imp_right (List.mem_cons_of_mem _), g3, fun y hy hm => ?_⟩
          rcases List.mem_cons.1 hy with rfl | hy
          · intro hyx
            have h3 := g3 w rfl
            have hyw : ¬ ltO y w := by simpa [winsB] using hlt
            unfold ltO at *
            omega
          · exact g4 y hy hm
    · have e : betterM h b z = b := by unfold betterM; simp [hz]
      obtain ⟨h1, h2⟩ := better_fold h l b hb
      rw [e]
      refine ⟨fun e => ⟨(h1 e).1, fun y hy => ?_⟩, fun x e => ?_⟩
      · rcases List.mem_cons.1 hy with rfl | hy
        · simpa using hz
        · exact (h1 e).2 y hy
      · obtain ⟨g1, g2, g3, g4⟩ := h2 x e
        refine ⟨g1, g2.imp_right (List.mem_cons_of_mem _), g3, fun y hy hm => ?_⟩
        rcases List.mem_cons.1 hy with rfl | hy
        · exact absurd hm hz
        · exact g4 y hy hm
theorem next_none {h : Vec} {l : List OC} (e : nextM h l = none) : ∀ y ∈ l, mayB h y = false := ((better_fold h l none (fun _ h => by cases h)).1 e).2
theorem next_some {h : Vec} {l : List OC} {x : OC} (e : nextM h l = some x) : x ∈ l ∧ mayB h x = true ∧ ∀ y ∈ l, mayB h y = true → ¬ ltO y x := by
  obtain ⟨g1, g2, g3, g4⟩ := (better_fold h l none (fun _ h => by cases h)).2 x e
  exact ⟨g2.resolve_left (by simp), g1, g4⟩
/-- What is least is found. -/
theorem next_is {h : Vec} {l : List OC} (hn : (l.map dt).Nodup) {x : OC} (hx : x ∈ l) (hm : mayB h x = true) (hl : ∀ y ∈ l, mayB h y = true → ¬ ltO y x) : nextM h l = some x := by
  cases e : nextM h l with
  | none => rw [next_none e x hx] at hm; cases hm
  | some z =>
    obtain ⟨g1, g2, g3⟩ := next_some e
    by_cases hd : dt z = dt x
    · rw [nodup_inj hn g1 hx hd]
    · rcases ltO_total hd with h | h
      · exact absurd h (hl z g1 g2)
      · exact absurd h (g3 x hx hm)
theorem next_no {h : Vec} {l : List OC} (hl : ∀ y ∈ l, mayB h y = false) : nextM h l = none := by
  cases e : nextM h l with
  | none => rfl
  | some z =>
    obtain ⟨g1, g2, _⟩ := next_some e
    rw [hl z g1] at g2
    cases g2
/-! ### what is left out -/
theorem mem_rem {l : List OC} {d : Dot} {x : OC} : x ∈ remM l d ↔ x ∈ l ∧ dt x ≠ d := by unfold remM; simp
theorem rem_sub (l : List OC) (d : Dot) : (remM l d).Sublist l := List.filter_sublist
theorem rem_nodup {l : List OC} (hn : (l.map dt).Nodup) (d : Dot) : ((remM l d).map dt).Nodup := hn.sublist ((rem_sub l d).map dt)
theorem rem_erase : ∀ {l : List OC} (hn : (l.map dt).Nodup) {k : Nat} {x : OC} (hx : l[k]? = some x), l.take k ++ l.drop (k + 1) = remM l (dt x)
  | [], _, k, x, hx => by simp at hx
  | y :: l, hn, 0, x, hx => by
    rw [List.map_cons, List.nodup_cons] at hn
    simp at hx
    subst hx
    unfold remM
    rw [List.take_zero, List.nil_append, List.filter_cons_of_neg (by simp)]
    refine (List.filter_eq_self.2 fun z hz => ?_).symm
    have : dt z ≠ dt y := fun e => hn.1 (e ▸ List.mem_map_of_mem hz)
    simpa using this
  | y :: l, hn, k + 1, x, hx => by
    rw [List.map_cons, List.nodup_cons] at hn
    simp at hx
    have hne : dt y ≠ dt x := fun e => hn.1 (e ▸ List.mem_map_of_mem (List.mem_of_getElem? hx))
    have ih := rem_erase hn.2 hx
    unfold remM at ih ⊢
    rw [List.filter_cons_of_pos (by simpa using hne), ← ih]
    rfl
theorem rem_length {l : List OC} (hn : (l.map dt).Nodup) {x : OC} (hx : x ∈ l) : (remM l (dt x)).length + 1 = l.length := by
  obtain ⟨k, hk⟩ := List.mem_iff_getElem?.1 hx
  rw [← rem_erase hn hk, List.length_append, List.length_take, List.length_drop]
  have := (List.getElem?_eq_some_iff.1 hk).1
  omega
theorem rem_perm {l : List OC} (hn : (l.map dt).Nodup) {x : OC} (hx : x ∈ l) : (x :: remM l (dt x)).Perm l := by
  obtain ⟨k, hk⟩ := List.mem_iff_getElem?.1 hx
  obtain ⟨hlt, rfl⟩ := List.getElem?_eq_some_iff.1 hk
  rw [← rem_erase hn hk]
  conv => rhs; rw [← List.take_append_drop k l, List.drop_eq_getElem_cons hlt]
  exact List.perm_middle.symm
/-! ### as operations read -/
theorem dtc (x : OC) : dt (core x) = dt x := rfl
theorem may_core (h : Vec) (x : OC) : mayB h (core x) = mayB h x := rfl
theorem map_core_core (l : List OC) : (l.map core).map core = l.map core := by
  rw [List.map_map]; rfl
theorem dts_core {l m : List OC} (h : l.map core = m.map core) : l.map dt = m.map dt := by
  have : ∀ l : List OC, (l.map core).map dt = l.map dt := fun l => by rw [List.map_map]; rfl
  rw [← this l, h, this]
theorem any_core (l : List OC) (d : Dot) : (l.map core).any (fun y => dt y == d) = l.any (fun y => dt y == d) := by
  rw [List.any_map]; rfl
theorem next_map (h : Vec) (l : List OC) : nextM h (l.map core) = (nextM h l).map core := by
  have key : ∀ (l : List OC) (b : Option OC), (l.map core).foldl (betterM h) (b.map core) = (l.foldl (betterM h) b).map core := by
    intro l
    induction l with
    | nil => intro b; rfl
    | cons x l ih =>
      intro b
      rw [List.map_cons, List.foldl_cons, List.foldl_cons, ← ih]
      congr 1
      unfold betterM
      have e : winsB (b.map core) (core x) = winsB b x := by cases b <;> rfl
      rw [may_core, e]
      by_cases hq : (mayB h x && winsB b x) = true
      · rw [if_pos hq, if_pos hq]; rfl
      · rw [if_neg hq, if_neg hq]
  exact key l none
theorem rem_map (l : List OC) (d : Dot) : remM (l.map core) d = (remM l d).map core := by
  unfold remM
  rw [List.filter_map]
  rfl
theorem there_core (h : Vec) (l : List OC) (d : Dot) : thereB h (l.map core) d = thereB h l d := by unfold thereB; rw [any_core]
theorem admit_map (h : Vec) : ∀ (xs l : List OC), admitM h (l.map core) (xs.map core) = (admitM h l xs).map core := by
  intro xs
  induction xs with
  | nil => intro l; rfl
  | cons x xs ih =>
    intro l
    unfold admitM at ih ⊢
    rw [List.map_cons, List.foldl_cons, List.foldl_cons, ← ih]
    congr 1
    unfold admit1
    rw [there_core, dtc]
    split
    · rfl
    · rw [List.map_append]; rfl
/-! ### what is handed on, step by step -/
/-- So much is handed on already. -/
def Going (h0 : Vec) (l0 : List OC) (out : List OC) (h : Vec) (l : List OC) : Prop :=
  out.length + l.length = l0.length ∧ ∀ k, drainM (out.length + k) h0 l0 = (out ++ (drainM k h l).1, (drainM k h l).2)
theorem Going.start (h : Vec) (l : List OC) : Going h l [] h l := ⟨by simp, fun k => by rw [List.length_nil, Nat.zero_add, List.nil_append]⟩
theorem drain_some {h : Vec} {l : List OC} {x : OC} (e : nextM h l = some x) (k : Nat) : drainM (k + 1) h l = (x :: (drainM k (upX h x) (remM l (dt x))).1, (drainM k (upX h x) (remM l (dt x))).2) := by
  show (match nextM h l with | none => _ | some x => _) = _
  rw [e]
theorem drain_none {h : Vec} {l : List OC} (e : nextM h l = none) (k : Nat) : drainM k h l = ([], h, l) := by
  cases k with
  | zero => rfl
  | succ k =>
    show (match nextM h l with | none => _ | some x => _) = _
    rw [e]
theorem Going.step {h0 h : Vec} {l0 out l : List OC} (g : Going h0 l0 out h l) (hn : (l.map dt).Nodup) {x : OC} (e : nextM h l = some x) : Going h0 l0 (out ++ [x]) (upX h x) (remM l (dt x)) := by
  refine ⟨?_, fun k => ?_⟩
  · have := rem_length hn (next_some e).1
    have := g.1
    rw [List.length_append, List.length_singleton]
    omega
  · rw [List.length_append, List.length_singleton, Nat.add_assoc, Nat.add_comm 1 k, g.2 (k + 1), drain_some e k, List.append_assoc]
    rfl
theorem Going.done {h0 h : Vec} {l0 out l : List OC} (g : Going h0 l0 out h l) (e : nextM h l = none) : drainM l0.length h0 l0 = (out, h, l) := by
  rw [← g.1, g.2 l.length, drain_none e, List.append_nil]
/-! ### what holds of a buffer -/
structure BufP (n : Nat) (h : Vec) (l : List OC) : Prop where
  n1 : 1 ≤ n
  n8 : n ≤ 8
  okh : okV h
  nodup : (l.map dt).Nodup
  ok : okAll n l
  new : ∀ x ∈ l, h x.1.r < x.1.n
theorem BufP.name {n : Nat} {h : Vec} {l : List OC} (b : BufP n h l) {x : OC} (hx : x ∈ l) : x.1.r < 8 ∧ x.1.n ≠ 0 ∧ x.1.dep x.1.r = x.1.n - 1 :=
  name_of (by have := b.n1; omega) (by have := b.n8; omega) (b.ok x hx)
theorem thereB_false {h : Vec} {l : List OC} {d : Dot} : thereB h l d = false ↔ (∀ y ∈ l, dt y ≠ d) ∧ h d.1 < d.2 := by
  unfold thereB
  simp
theorem BufP.admit1 {n : Nat} {h : Vec} {l : List OC} (b : BufP n h l) {x : OC} (hx : checkM x.1 x.2 n = 0) : BufP n h (admit1 h l x) := by
  unfold V.admit1
  by_cases ht : thereB h l (dt x) = true
  · rw [if_pos ht]; exact b
  · rw [if_neg ht]
    obtain ⟨h1, h2⟩ := thereB_false.1 (by simpa using ht)
    refine ⟨b.n1, b.n8, b.okh, ?_, fun y hy => ?_, fun y hy => ?_⟩
    · rw [List.map_append]
      refine List.nodup_append.2 ⟨b.nodup, by simp, fun a ha c hc => ?_⟩
      obtain ⟨y, hy, rfl⟩ := List.mem_map.1 ha
      simp at hc
      subst hc
      exact h1 y hy
    · rcases List.mem_append.1 hy with hy | hy
      · exact b.ok y hy
      · rw [List.mem_singleton] at hy; subst hy; exact hx
    · rcases List.mem_append.1 hy with hy | hy
      · exact b.new y hy
      · rw [List.mem_singleton] at hy; subst hy; exact h2
theorem BufP.step {n : Nat} {h : Vec} {l : List OC} (b : BufP n h l) {x : OC} (hx : x ∈ l) (hxn : x.1.n < 4294967296) (hm : mayB h x = true) : BufP n (upX h x) (remM l (dt x)) := by
  obtain ⟨g1, g2, g3⟩ := b.name hx
  refine ⟨b.n1, b.n8, ok_upd b.okh g1 hxn, rem_nodup b.nodup _, fun y hy => b.ok y (mem_rem.1 hy).1, fun y hy => ?_⟩
  obtain ⟨h1, h2⟩ := mem_rem.1 hy
  unfold upX upd
  by_cases e : y.1.r = x.1.r
  · rw [if_pos e]
    have h3 := b.new y h1
    unfold mayB at hm
    simp only [Bool.and_eq_true, decide_eq_true_eq] at hm
    have h4 : y.1.n ≠ x.1.n := fun e2 => h2 (by unfold dt; rw [e, e2])
    rw [e] at h3
    omega
  · rw [if_neg e]
    exact b.new y h1
theorem BufP.perm {n : Nat} {h : Vec} {l m : List OC} (b : BufP n h l) (hp : m.Perm l) : BufP n h m :=
  ⟨b.n1, b.n8, b.okh, ((hp.map dt).nodup_iff).2 b.nodup, fun x hx => b.ok x (hp.mem_iff.1 hx), fun x hx => b.new x (hp.mem_iff.1 hx)⟩
theorem BufP.core {n : Nat} {h : Vec} {l : List OC} (b : BufP n h l) : BufP n h (l.map core) := by
  refine ⟨b.n1, b.n8, b.okh, ?_, fun x hx => ?_, fun x hx => ?_⟩
  · have := b.nodup; rwa [← dts_core (map_core_core l)] at this
  · obtain ⟨y, hy, rfl⟩ := List.mem_map.1 hx; exact b.ok y hy
  · obtain ⟨y, hy, rfl⟩ := List.mem_map.1 hx; exact b.new y hy
end Go.Proofs.YtfnmekmgjcjglaaDoor.V
namespace Go.Proofs.YtfnmekmgjcjglaaDoor.V
set_option linter.unusedVariables false
set_option linter.unusedSimpArgs false
set_option maxRecDepth 100000
open Go Go.RowKit Go.Maps Go.MapKept Go.ChangeMaps Wire
abbrev DV := DataW Value
/-- An element reads as itself. -/
def hv (v : Value) : Option (DataW Value × List MemPlace) := some (.held v, [])
/-- What a map reads as that has these operations, each at its dot. -/
structure MapIs (D : DV) (c : List OC) : Prop where
  has : ∀ d : Dot, d.ok → (Maps.has D (dk d) = true ↔ d ∈ c.map dt)
  at_ : ∀ x ∈ c, ∀ z, D.atKey (dk (dt x)) z = .held (.agg (oc x.1))
  size : Maps.size D = c.length
/-- Block b is such a map. -/
def MapAt (w : World) (b : Nat) (c : List OC) : Prop := (∃ D : DV, w.ownsMap Tryd.prog 46 hv b c.length D ∧ MapIs D c) ∧ (c.map dt).Nodup ∧ ∀ x ∈ c, okO x.1
theorem tight {w : World} {b n : Nat} {D : DV} (h : w.ownsMap Tryd.prog 46 hv b n D) : w.ownsMap Tryd.prog 46 hv b (Maps.size D) D := by
  obtain ⟨es, clock, hb, F, hs, hD⟩ := h
  refine ⟨es, clock, hb, F, ?_, hD⟩
  rw [hD]
  simp [Maps.size, length_sorted]
theorem MapAt.lt {w : World} {b : Nat} {c : List OC} (h : MapAt w b c) : b < w.heap.size := by obtain ⟨⟨D, h, _⟩, _⟩ := h; exact h.lt
theorem MapAt.same {w w' : World} {b : Nat} {c : List OC} (h : MapAt w b c) (hb : w'.heap[b]? = w.heap[b]?) : MapAt w' b c := by
  obtain ⟨⟨D, ⟨es, clock, h1, h2⟩, r⟩, r2⟩ := h
  exact ⟨⟨D, ⟨es, clock, hb.trans h1, h2⟩, r⟩, r2⟩
theorem MapAt.keep {w w' : World} {b : Nat} {c : List OC} (h : MapAt w b c) (hB : Below w.heap.size w w') : MapAt w' b c := h.same (hB.block b h.lt)
theorem MapAt.obj {w : World} {b : Nat} {c : List OC} (h : MapAt w b c) : ∃ es clock, w.heap[b]? = some (.map es clock) := by
  obtain ⟨⟨D, ⟨es, clock, h1, _⟩, _⟩, _⟩ := h
  exact ⟨es, clock, h1⟩
theorem map_made (w : World) : MapAt (w.alloc (.map #[] 0)) w.heap.size [] :=
  ⟨⟨.map [], World.ownsMap_made _ _ _ _, ⟨fun d _ => by simp [Maps.has], fun x hx => (by cases hx), rfl⟩⟩, List.nodup_nil, fun x hx => (by cases hx)⟩
theorem make_map (w : World) : (Instr.makeMap 58 none).run Tryd.prog w = .ok (.map (some w.heap.size)) (w.alloc (.map #[] 0)) := by
  unfold Instr.makeMap
  simp only [Sem.run_bind, run_underlying Tryd.underlying58, Result.andThen_ok]
  rfl
theorem zero_op (w : World) : (zeroValue 50).run Tryd.prog w = .ok (.agg (oc zeroO)) w := Tryd.zeroValue50 w
/-- The operation of a dot; zero if there is none. -/
def atM (c : List OC) (d : Dot) : OC := (c.find? fun y => dt y == d).getD (zeroO, [])
theorem at_of {c : List OC} (hn : (c.map dt).Nodup) {x : OC} (hx : x ∈ c) : atM c (dt x) = x := by
  unfold atM
  rw [nodup_find hn hx]; rfl
theorem at_not {c : List OC} {d : Dot} (h : d ∉ c.map dt) : atM c d = (zeroO, []) := by
  unfold atM
  rw [List.find?_eq_none.2 fun y hy e => h (by simp at e; exact e ▸ List.mem_map_of_mem hy)]
  rfl
theorem MapAt.look {w : World} {b : Nat} {c : List OC} (h : MapAt w b c) {d : Dot} (hd : d.ok) :
    (Instr.lookup 58 (.map (some b)) (dv d) true).run Tryd.prog w = .ok (.tuple #[.agg (oc (atM c d).1), .bool (decide (d ∈ c.map dt))]) w := by
  obtain ⟨⟨D, h1, h2⟩, hn, _⟩ := h
  obtain ⟨v, ps, hr, hv'⟩ := h1.look_ok dotKeyed Tryd.underlying58 (zero_op w) (zd := .held (.agg (oc zeroO))) (zp := []) rfl (keyOf_dot hd)
  rw [hr]
  by_cases hm : d ∈ c.map dt
  · obtain ⟨x, hx, rfl⟩ := List.mem_map.1 hm
    rw [h2.at_ x hx] at hv'
    have e : v = .agg (oc x.1) := (show v = .agg (oc x.1) ∧ ps = [] by simpa [hv] using hv').1
    rw [e, (h2.has _ hd).2 hm, decide_eq_true hm, at_of hn hx]
  · have hf : Maps.has D (dk d) = false := by
      cases h0 : Maps.has D (dk d) with
      | false => rfl
      | true => exact absurd ((h2.has _ hd).1 h0) hm
    rw [atKey_of_not_has hf] at hv'
    have e : v = .agg (oc zeroO) := (show v = .agg (oc zeroO) ∧ ps = [] by simpa [hv] using hv').1
    rw [e, hf, decide_eq_false hm, at_not hm]
theorem MapAt.store {w : World} {b : Nat} {c : List OC} (h : MapAt w b c) {x : OC} (hx : okO x.1) (hnew : dt x ∉ c.map dt) (hl : c.length ≤ 1000000) :
    ∃ w', (Instr.mapUpdate 58 (.map (some b)) (dv (dt x)) (.agg (oc x.1))).run Tryd.prog w = .ok () w' ∧ MapAt w' b (c ++ [x]) ∧ w.mapTurned w' b := by
  obtain ⟨⟨D, h1, h2⟩, hn, ho⟩ := h
  have hd : (dt x).ok := ⟨hx.r, hx.n⟩
  have hT := h1.tidy dotKeyed
  obtain ⟨w', hr, h3, h4⟩ := h1.store (d := .held (.agg (oc x.1))) (ps := []) dotKeyed Tryd.underlying58 (by unfold maxLen; omega) (keyOf_dot hd) rfl
  have hf : Maps.has D (dk (dt x)) = false := by
    cases h0 : Maps.has D (dk (dt x)) with
    | false => rfl
    | true => exact absurd ((h2.has _ hd).1 h0) hnew
  refine ⟨w', hr, ⟨⟨_, by rw [List.length_append]; exact h3, ⟨fun d hd2 => ?_, fun y hy z => ?_, ?_⟩⟩, ?_, fun y hy => ?_⟩, h4⟩
  · by_cases e : d = dt x
    · subst e; simp [has_put_same h1.isMap (dk_key hd)]
    · rw [has_put_other (fun e' => e (dk_inj hd2 hd e')), h2.has d hd2]
      simp [e]
  · rcases List.mem_append.1 hy with hy | hy
    · have e : dt y ≠ dt x := fun e => hnew (e ▸ List.mem_map_of_mem hy)
      rw [atKey_put_other (fun e' => e (dk_inj ⟨(ho y hy).r, (ho y hy).n⟩ hd e')), h2.at_ y hy]
    · rw [List.mem_singleton] at hy; subst hy
      rw [atKey_put_same h1.isMap (dk_key hd)]
  · rw [size_put hT, hf, List.length_append, h2.size]; rfl
  · rw [List.map_append]
    refine List.nodup_append.2 ⟨hn, by simp, fun a ha e he => ?_⟩
    simp at he
    subst he
    exact fun e => hnew (e ▸ ha)
  · rcases List.mem_append.1 hy with hy | hy
    · exact ho y hy
    · rw [List.mem_singleton] at hy; subst hy; exact hx
theorem MapAt.drop {w : World} {b : Nat} {c : List OC} (h : MapAt w b c) {x : OC} (hx : x ∈ c) (ty : TypeId) :
    ∃ w', (Builtin.delete_ #[58, 46] ty #[.map (some b), dv (dt x)]).run Tryd.prog w = .ok (.tuple #[]) w' ∧ MapAt w' b (remM c (dt x)) ∧ w.mapTurned w' b := by
  obtain ⟨⟨D, h1, h2⟩, hn, ho⟩ := h
  have hd : (dt x).ok := ⟨(ho x hx).r, (ho x hx).n⟩
  have hT := h1.tidy dotKeyed
  obtain ⟨w', hr, h3, h4⟩ := h1.drop dotKeyed Tryd.underlying58 (keyOf_dot hd) ty
  have hhas : Maps.has D (dk (dt x)) = true := (h2.has _ hd).2 (List.mem_map_of_mem hx)
  have hsz : Maps.size (D.del (dk (dt x))) = (remM c (dt x)).length := by
    have := rem_length hn hx
    have h9 := size_del (k := dk (dt x)) hT
    rw [hhas, h2.size] at h9
    simp at h9
    omega
  have h5 := tight h3
  rw [hsz] at h5
  refine ⟨w', hr, ⟨⟨_, h5, ⟨fun d hd2 => ?_, fun y hy z => ?_, hsz⟩⟩, rem_nodup hn _, fun y hy => ho y (mem_rem.1 hy).1⟩, h4⟩
  · by_cases e : d = dt x
    · subst e
      rw [has_del_same]
      constructor
      · intro e; cases e
      · intro hm
        obtain ⟨y, hy, e⟩ := List.mem_map.1 hm
        exact absurd e (mem_rem.1 hy).2
    · rw [has_del_other (fun e' => e (dk_inj hd2 hd e')), h2.has d hd2]
      constructor
      · intro hm
        obtain ⟨y, hy, rfl⟩ := List.mem_map.1 hm
        exact List.mem_map_of_mem (mem_rem.2 ⟨hy, e⟩)
      · intro hm
        obtain ⟨y, hy, rfl⟩ := List.mem_map.1 hm
        exact List.mem_map_of_mem (mem_rem.1 hy).1
  · obtain ⟨hy1, hy2⟩ := mem_rem.1 hy
    rw [atKey_del_other (fun e' => hy2 (dk_inj ⟨(ho y hy1).r, (ho y hy1).n⟩ hd e')), h2.at_ y hy1]
end Go.Proofs.YtfnmekmgjcjglaaDoor.V
namespace Go.Proofs.YtfnmekmgjcjglaaDoor.V
set_option linter.unusedVariables false
set_option linter.unusedSimpArgs false
set_option maxRecDepth 100000
open Go Go.RowKit Go.Maps Go.Shelf Wire
attribute [local go_sem] Oper.semAt_some
/-- No operation twice; one is on the list just where the map has it and it is no longer to come. -/
def CollO (c : List OC) (left : Lit → Bool) (ss : List OC) : Prop := (ss.map dt).Nodup ∧ ∀ x : OC, x ∈ ss ↔ (x ∈ c ∧ left (dk (dt x)) = false)
theorem CollO.start {c : List OC} {D : DV} (hM : MapIs D c) (ho : ∀ x ∈ c, okO x.1) : CollO c (Maps.has D) [] := ⟨List.nodup_nil, fun x => ⟨fun h => (by cases h), fun ⟨h1, h2⟩ => by
  rw [(hM.has _ ⟨(ho x h1).r, (ho x h1).n⟩).2 (List.mem_map_of_mem h1)] at h2
  cases h2⟩⟩
theorem CollO.step {c : List OC} {left : Lit → Bool} {ss : List OC} (h : CollO c left ss) (hn : (c.map dt).Nodup) (ho : ∀ x ∈ c, okO x.1) {x : OC} (hx : x ∈ c) (hlk : left (dk (dt x)) = true) : CollO c (fun z => left z && !z.sameKey (dk (dt x))) (ss ++ [x]) := by
  have hd : ∀ y ∈ c, (dt y).ok := fun y hy => ⟨(ho y hy).r, (ho y hy).n⟩
  have hnew : ∀ y ∈ ss, dt y ≠ dt x := fun y hy e => by
    have := ((h.2 y).1 hy).2
    rw [e, hlk] at this
    cases this
  refine ⟨?_, fun y => ?_⟩
  · rw [List.map_append]
    refine List.nodup_append.2 ⟨h.1, by simp, fun a ha b hb => ?_⟩
    simp at hb
    subst hb
    obtain ⟨y, hy, rfl⟩ := List.mem_map.1 ha
    exact hnew y hy
  · rw [List.mem_append, List.mem_singleton]
    constructor
    · rintro (hy | rfl)
      · obtain ⟨h1, h2⟩ := (h.2 y).1 hy
        exact ⟨h1, by show (left (dk (dt y)) && _) = false; rw [h2]; rfl⟩
      · refine ⟨hx, ?_⟩
        simp [WideAt.sameKey_self (dk_key (hd _ hx))]
    · rintro ⟨h1, h2⟩
      by_cases e : dt y = dt x
      · exact .inr (nodup_inj hn h1 hx e)
      · have hne : dk (dt y) ≠ dk (dt x) := fun e' => e (dk_inj (hd y h1) (hd x hx) e')
        refine .inl ((h.2 y).2 ⟨h1, ?_⟩)
        simpa [sameKey_ne hne] using h2
theorem CollO.done {c : List OC} {left : Lit → Bool} {ss : List OC} (h : CollO c left ss) (hl : ∀ kl, left kl = false) (hn : (c.map dt).Nodup) : ss.Perm c :=
  perm_nodup (nodup_of_dt h.1) (nodup_of_dt hn) fun x => by rw [h.2 x, hl]; simp
/-! ### operations inside a fence -/
section
variable {F : Fence} {n : Nat} {ops : Array Oper} {rest : List Oper} {o : Oper} {a : Act} {w : World} {Q : Exit → Act → World → Prop}
theorem listIn_load_op (hg : o.guard = none) (x : Operand) (hop : o.op = .load 50 x) (p : Addr) (hx : a.eval x = .pointer (some p)) (y : OpM) (hin : OpIn w p y)
    (h : wpListIn F n Tryd.prog ops Q rest (a.put o.dst (.agg (oc y))) w) : wpListIn F n Tryd.prog ops Q (o :: rest) a w := by
  refine wpListIn_plain hg fun K hK => ?_
  unfold Oper.wpIn
  refine ⟨?_, ?_⟩
  · simp [Oper.about, hop]
  · rw [Oper.semAt_plain F _ _ (by rw [hop]; intro c hc'; cases hc'), run_load_opIn x hop p hx y hin]
    exact hK _ _ h
theorem run_store_op (x y : Operand) (hop : o.op = .store 50 x y) (g : Nat) (hx : a.eval x = .pointer (some ⟨g, 0, none⟩)) (z : OpM) (hy : a.eval y = .agg (oc z)) (old : OpM) (hgo : w.heap[g]? = some (.cells (oc old) 50 (0, 0))) (h1 : z.lv.oneCell' = true) :
    (execOp a.eval o).run Tryd.prog w = .ok .skip (w.setRow g (oc z)) := by
  unfold execOp
  simp only [hop, hx, hy, Instr.storeAt, Instr.sureAddr, Sem.run_bind, Sem.run_pure, Result.andThen_ok, run_storeVar_row w g 50 50 _ (oc z) hgo (opSize z) rfl (oneO z h1)]
theorem listIn_store_op (hg : o.guard = none) (x y : Operand) (hop : o.op = .store 50 x y) (g : Nat) (hx : a.eval x = .pointer (some ⟨g, 0, none⟩)) (z : OpM) (hy : a.eval y = .agg (oc z)) (old : OpM) (hgo : w.heap[g]? = some (.cells (oc old) 50 (0, 0))) (h1 : z.lv.oneCell' = true)
    (h : wpListIn F n Tryd.prog ops Q rest (a.put o.dst undef) (w.setRow g (oc z))) : wpListIn F n Tryd.prog ops Q (o :: rest) a w := by
  refine wpListIn_plain hg fun K hK => ?_
  unfold Oper.wpIn
  refine ⟨?_, ?_⟩
  · simp [Oper.about, hop]
  · rw [Oper.semAt_plain F _ _ (by rw [hop]; intro c hc'; cases hc'), run_store_op x y hop g hx z hy old hgo h1]
    exact hK _ _ h
theorem listIn_build_op (hg : o.guard = none) (x : Operand) (hop : o.op = .buildSlice 22 1 #[(0, x)]) (y : OpM) (hx : a.eval x = .agg (oc y))
    (h : wpListIn F n Tryd.prog ops Q rest (a.put o.dst (.slice (some ⟨w.heap.size, 0, none⟩) 1 1)) (w.alloc (.cells (oc y) 50))) : wpListIn F n Tryd.prog ops Q (o :: rest) a w := by
  refine wpListIn_plain hg fun K hK => ?_
  obtain ⟨i0, hi, hz0, hz1, hz2⟩ := info_parts infoOp
  have hr := run_buildSlice (P := Tryd.prog) w 22 50 1 #[(0, .agg (oc y))] (oc y) i0 _ Tryd.underlying22 hi hz0 (by rw [hz1]; omega) (by rw [hz1]; omega) (by rw [hz1]; simpa using fill_op y)
  unfold Oper.wpIn
  refine ⟨?_, ?_⟩
  · simp [Oper.about, hop]
  · rw [Oper.semAt_plain F _ _ (by rw [hop]; intro c hc'; cases hc')]
    unfold execOp
    simp only [hop, List.map_toArray, List.map_cons, List.map_nil, hx, Sem.run_bind, Sem.run_pure, Result.andThen_ok, hr]
    exact hK _ _ h
end
/-- An operation whose lines lie in one cell. -/
abbrev OneO := { x : OC // x.1.lv.oneCell' = true }
abbrev outO (ss : List OneO) : List OC := ss.map Subtype.val
set_option maxHeartbeats 1000000 in
theorem values1_in (F : Fence) (n : Nat) (hf : F.fn 62) (hro : F.round = none) (hn : 1 ≤ n) (l Bm b : Nat) (c : List OC) (J Jx : List OneO → World → Prop)
    (hY : ∀ pre (x : OneO) W, J pre W → pre.length < c.length → YieldAt F (n - 1) Tryd.prog l #[.agg (oc x.1.1)] W fun e W' =>
      (e = .returned (.bool true) ∧ J (pre ++ [x]) W' ∧ KeepsWalks W W') ∨ (e = .returned (.bool false) ∧ Jx (pre ++ [x]) W'))
    (W : World) (hJ : AbidesFrom W.heap.size J) (hm : W.cell? ⟨Bm, 0, none⟩ = some (.map (some b))) (hmap : MapAt W b c) (hone : ∀ x ∈ c, x.1.lv.oneCell' = true) (h0 : J [] W) :
    CallsIn F n Tryd.prog 62 #[.func (.yield l) #[] #[], .pointer (some ⟨Bm, 0, none⟩)] W fun e W' => (∃ v, e = .returned v) ∧
      ((∃ ss, (outO ss).Perm c ∧ J ss W') ∨ (∃ pre, True ∧ Jx pre W')) := by
  obtain ⟨⟨D0, hown, hM⟩, hnd, ho⟩ := hmap
  have HM := hid (And.intro hM (And.intro hnd (And.intro ho hone)))
  have hsz0 : Maps.size D0 = c.length := hM.size
  clear hM hnd ho hone
  refine callsIn_of_wp Tryd.func62 rfl hf ?_ hro
  simp only [Tryd.ntmps62, List.size_toArray, List.length_cons, List.length_nil, Nat.reduceAdd, Nat.reduceSub, Array.replicate_succ, Array.replicate_zero, List.push_toArray, List.append_toArray, List.nil_append, List.cons_append]
  gi_wp2_with (first
    | (gi_at_range; refine wpListIn_range_own _ rfl _ 58 rfl 46 50 dotKeyed Tryd.underlying58 _ b _ _ rfl hown ?_; intro w0 hrg0 hg0 hs0)
    | gi_in)
  go_frame
  gi_loopw [4] (fun _ wr => ∃ (left : Lit → Bool) (cnt : Nat) (ss : List OneO), wr.ranges Tryd.prog 46 hv b W.heap.size c.length D0 left cnt ∧ ss.length + cnt ≤ c.length ∧ W.heap.size ≤ wr.heap.size ∧ Hid (CollO c left (outO ss)) ∧ Hid (J ss wr))
    (fun _ wr => wr.rangeLeft b W.heap.size)
  case atStart =>
    exact ⟨_, _, [], hrg0, by simp; omega, by omega, hid (CollO.start HM.out.1 HM.out.2.2.1), hid (hJ [] W w0 none h0 hg0 (fun r e => by cases e))⟩
  case round =>
    obtain ⟨left, cnt, ss, hrg, hcs, hsz, HC, HJ⟩ := hrel
    gi_wp2_with (first
      | (gi_at_next; refine wpListIn_next_ranges _ rfl _ rfl 46 dotKeyed hv (fun x : Dot => Value.agg #[.int .u8 (x.1 : Int), .int .u32 (x.2 : Int)]) id (fun key kl hk => by obtain ⟨x, _, hx, _⟩ := keyOf_inv hk; exact ⟨x, hx⟩) (fun v _ _ => ⟨v, rfl⟩) b W.heap.size c.length _ _ _ rfl hrg ?_ ?_)
      | gi_in)
    · -- nothing is left
      intro hc0 hl0
      gi_wp2
      go_end0
      exact ⟨⟨_, rfl⟩, .inl ⟨ss, HC.out.done hl0 HM.out.2.1, HJ.out⟩⟩
    · -- an entry has come
      intro xr xn v kl yd yp w2 cnt2 hkey hlk hvv hat hrg2 hlt hg2 hs2 hen
      obtain ⟨d, hd, ed, rfl⟩ := keyOf_inv hkey
      obtain rfl : (xr, xn) = d := dv_inj ed
      obtain ⟨x, hx, hdx⟩ := List.mem_map.1 ((HM.out.1.has (xr, xn) hd).1 (has_true_of_atKey hat))
      have hat2 := HM.out.1.at_ x hx (.held (.agg (oc x.1)))
      rw [hdx, hat] at hat2
      have hvx : v = .agg (oc x.1) := by
        obtain ⟨rfl, rfl⟩ : yd = .held v ∧ yp = [] := by simpa [hv, eq_comm] using hvv
        simpa using hat2
      subst hvx
      have honex := HM.out.2.2.2 x hx
      have hJ2 : J ss w2 := hJ ss wr w2 (some W.heap.size) HJ.out hg2 (fun r e => by cases e; exact ⟨Nat.le_refl _, hrg.iter_walk⟩)
      have hJ3 : J ss (w2.alloc (.cells (oc x.1) 50)) := hJ ss w2 _ none hJ2 (World.grownBy_alloc w2 _ none) (fun r e => by cases e)
      obtain ⟨fn, tmps, assign, body, hy, hR⟩ := hY ss ⟨x, honex⟩ _ hJ3 (by omega)
      have HC2 := hid (HC.out.step HM.out.2.1 HM.out.2.2.1 hx (by rw [hdx]; exact hlk))
      rw [hdx] at HC2
      have HX := hid (opAt_new w2 x.1)
      have hsz2 : W.heap.size ≤ w2.heap.size := by omega
      have hen' : (Instr.entry (.pointer (some ⟨W.heap.size, 0, none⟩))).run Tryd.prog w2 = .ok (.tuple #[.agg #[.int .u8 (xr : Int), .int .u32 (xn : Int)], .agg (oc x.1)]) w2 := hen
      clear hs2 ed hen hkey hat hat2 hvv hx hdx
      gi_wp2_with (first
        | (refine listIn_store_op rfl _ _ rfl w2.heap.size rfl x.1 rfl zeroO ?_ honex ?_; (focus exact heap_alloc_last' _ _); rw [World.setRow_alloc_new])
        | (refine listIn_load_op rfl _ rfl ⟨w2.heap.size, 0, none⟩ rfl x.1 (fun k hk => by rw [add8]; exact HX.out.cell k) ?_)
        | gi_in)
      refine hR.mono ?_
      rintro e W3 (⟨rfl, hJ4, hk3⟩ | ⟨rfl, hJx⟩)
      · have HJ4 := hid hJ4
        have hk4 := (KeepsWalks.alloc w2 (.cells (oc x.1) 50)).trans hk3
        have HK := hid hk4
        have hrg3 := hrg2.of_walks hk4
        clear hJ2 hJ3 hJ4 hk3 hk4 hy hR
        gi_wp2
        go_roundw
        case rel => exact ⟨_, cnt2, ss ++ [⟨x, honex⟩], hrg3, by simp; omega, by have := HK.out.size; omega, hid (by have := HC2.out; simpa [outO] using this), HJ4⟩
        case measure => rw [hrg3.left_eq, hrg.left_eq]; exact hlt
      · clear hJ2 hJ3 hy hR
        gi_wp2
        refine bodyPost_ret (results_none rfl _ _ _) rfl ?_
        exact ⟨⟨_, rfl⟩, .inr ⟨_, trivial, hJx⟩⟩
abbrev valsV (g : Nat) : Value := .func (.func 62) #[] #[.pointer (some ⟨g, 0, none⟩)]
def encO (x : OneO) : Array Value := #[.agg (oc x.1.1)]
/-- maps.Values: the map is boxed; the function value captures the box. -/
theorem values_call (b : Nat) (w : World) :
    Calls Tryd.prog 36 #[.map (some b)] w fun e w' => e = .returned (valsV w.heap.size) ∧ w' = w.alloc (.cells #[.map (some b)] 58) := by
  go_enter Tryd.func36, Tryd.ntmps36
  go_wp2
  go_ret
  exact ⟨rfl, rfl⟩
theorem values_stops (n : Nat) (hn : 1 ≤ n) (Bm b : Nat) (c : List OC) (w : World) (hBm : Bm < w.heap.size) (hm : w.cell? ⟨Bm, 0, none⟩ = some (.map (some b))) (hmap : MapAt w b c) (hone : ∀ x ∈ c, x.1.lv.oneCell' = true) :
    SeqStopsK Fence.wide n Tryd.prog 62 #[.pointer (some ⟨Bm, 0, none⟩)] encO KeepsWalks (fun ss => (outO ss).Perm c) (fun _ => True) c.length w := fun l J Jx W hW hJ _ hY h0 =>
  values1_in _ n trivial rfl hn l Bm b c J Jx hY W hJ ((hW.cell (p := ⟨Bm, 0, none⟩) hBm).trans hm) (hmap.same (hW.block b hmap.lt)) hone h0
set_option maxHeartbeats 400000 in
/-- slices.AppendSeq of nothing, over a map's operations. -/
theorem appendO_in (n : Nat) (hn : 3 ≤ n) (Bm b : Nat) (c : List OC) (w : World) (hBm : Bm < w.heap.size) (hm : w.cell? ⟨Bm, 0, none⟩ = some (.map (some b))) (hmap : MapAt w b c) (hone : ∀ x ∈ c, x.1.lv.oneCell' = true) (hl : c.length ≤ 100000) :
    CallsIn Fence.wide n Tryd.prog 61 #[.slice none 0 0, valsV Bm] w fun e w' => ∃ (v : Value) (ss : List OneO), e = .returned v ∧ (outO ss).Perm c ∧ w'.ownsRow w.heap.size 50 29 v ss.length (flatO (outO ss)) ∧ Below w.heap.size w w' := by
  have h1 : 1 ≤ n := by omega
  obtain ⟨i0, hi, hz0, hz1, hz2⟩ := info_parts infoOp
  refine callsIn_of_wp_marks Tryd.func61 rfl trivial ?_ rfl
  simp only [Tryd.ntmps61, List.size_toArray, List.length_cons, List.length_nil, Nat.reduceAdd, Nat.reduceSub, Array.replicate_succ, Array.replicate_zero, List.push_toArray, List.append_toArray, List.nil_append, List.cons_append]
  gi_wp2
  have bO := Boxed.new w 22 (.slice none 0 0)
  have hB0 : Below w.heap.size w (w.alloc (.cells #[.slice none 0 0] 22)) := below_al _ _
  have hsz : (w.alloc (.cells #[.slice none 0 0] 22)).heap.size = w.heap.size + 1 := by simp
  have hseq := values_stops (n - 1) (by omega) Bm b c w hBm hm hmap hone
  obtain ⟨W0, hW0⟩ : ∃ W0, w.alloc (.cells #[.slice none 0 0] 22) = W0 := ⟨_, rfl⟩
  rw [hW0] at bO hB0 hsz ⊢
  clear hW0
  refine wpIn_rangeFunc_ownH rfl h1 (gf := 62) (lb := #[.pointer (some ⟨Bm, 0, none⟩)]) rfl trivial (enters_of Tryd.func62 (by kernel_rfl) rfl) hseq walksK_t walksK_b hB0 (fun _ => rfl)
    (fun pre W => (∃ v, Boxed W w.heap.size 22 v ∧ W.ownsRow w.heap.size 50 29 v pre.length (flatO (outO pre)) ∧ True) ∧ Below w.heap.size w W)
    (fun _ _ _ => False)
    (OwnFrom.and (Own.from (holdsRow_own w.heap.size w.heap.size 22 50 29 (fun pre : List OneO => pre.length) (fun pre : List OneO => flatO (outO pre)) (fun _ _ => True)) _) (ownFrom_below (Nat.le_refl _) (by omega)))
    (fun _ _ _ _ _ hs _ _ => hs)
    ⟨⟨_, bO, World.ownsRow_nil _ _ _ _, trivial⟩, hB0⟩
    (fun x a' W => ∃ Bx, w.heap.size < Bx ∧ OpAt W Bx x.1.1 ∧ a' = { tmps := #[.slice none 0 0, valsV Bm, .pointer (some ⟨w.heap.size, 0, none⟩), undef, .slice none 0 0, .pointer (some ⟨Bx, 0, none⟩), valsV Bm,   .agg (oc x.1.1), undef, undef, undef, undef, undef], defers := [] })
    (fun x a' _ X Y row hs hg hr => by
      obtain ⟨Bx, h1, h2, h3⟩ := hs
      refine ⟨Bx, h1, (hg.block Bx (Array.getElem?_eq_some_iff.1 h2).1 (fun e => ?_)).trans h2, h3⟩
      obtain ⟨_, o, ho, hc⟩ := hr Bx e.symm
      have h4 : X.heap[Bx]? = some (.cells (oc x.1.1) 50 (0, 0)) := h2
      generalize oc x.1.1 = cs at h4
      rw [h4] at ho; cases ho; cases hc)
    ?assign ?body ?done ?stop
  case assign =>
    rintro l pre ⟨x, hx1⟩ W K ⟨⟨v, hv, hrow, _⟩, hB⟩ hK
    have HR := hid (And.intro hv (And.intro hrow hB))
    clear hv hrow hB
    unfold encO
    gi_wp2_with (first
      | (refine listIn_store_op rfl _ _ rfl W.heap.size rfl x.1 rfl zeroO ?_ hx1 ?_; (focus exact heap_alloc_last' _ _); rw [World.setRow_alloc_new])
      | gi_in)
    exact hK _ _ ((KeepsOthers.alloc _ _).from _) (KeepsWalks.alloc _ _) ⟨⟨v, HR.out.1.alloc _, HR.out.2.1.alloc _, trivial⟩, HR.out.2.2.alloc HR.out.2.2.size _⟩ ⟨W.heap.size, HR.out.1.lt, opAt_new _ _, rfl⟩
  case body =>
    rintro l pre ⟨x, hx1⟩ a' W hl ⟨r, hr⟩ ⟨⟨v, hv, hrow, _⟩, hB⟩ ⟨Bx, hBx, bX, rfl⟩ hlt
    have hc := hv.cell
    have HX := hid (show OpIn W ⟨Bx, 0, none⟩ x.1 from fun k hk => by rw [add8]; exact OpAt.cell bX k)
    have HR := hid (And.intro hv (And.intro hrow hB))
    clear bX hr hv hrow hB
    have hpl : pre.length ≤ 900000 := by omega
    gi_wp2_with (first
      | (refine listIn_load_op rfl _ rfl ⟨Bx, 0, none⟩ rfl x.1 HX.out ?_)
      | (refine listIn_build_op rfl _ rfl x.1 rfl ?_)
      | (gi_at_builtin; refine wpListIn_append_own _ rfl _ _ 22 rfl w.heap.size 50 i0 (.agg (oc zeroO)) 29 144 Tryd.underlying22 hi hz0 hz1 hz2 rfl (by decide) _ _ _ rfl (HR.out.2.1.alloc _) ⟨W.heap.size, 0, none⟩ 1 1 (oc x.1).toList rfl rfl (cells_newO _ _ _ rfl) (one_op x.1 hx1) (by unfold maxLen; omega) (by omega) (by have := HR.out.2.2.size; simp; omega) ?_; intro v' w1 hown' hgrow _; obtain ⟨g', cap', rfl⟩ := ownsRow_succ hown'; obtain ⟨hv1, hv2, hr2, hk2, hb2⟩ := HR.out.1.appended (by decide) HR.out.2.1 HR.out.2.2.size (Nat.le_refl _) hown' hgrow; have hc1 := hv1.cell; have hf1 := hv1.frozen)
      | gi_in)
    have e : flatO (outO (pre ++ [⟨x, hx1⟩])) = flatO (outO pre) ++ (oc x.1).toList := by
      unfold outO
      rw [List.map_append, flatO_append]
      congr 1
    exact ⟨hk2.from _, hk2.walks, ⟨_, hv2, by rw [e]; simpa using hr2⟩, HR.out.2.2.trans hb2⟩
  case done =>
    rintro D ys W hD hS ⟨⟨v, hv, hrow, _⟩, hB⟩ hK
    have hc := hv.cell
    gi_wp2
    refine ⟨by simp, .inl ⟨_, _, rfl, run_takeDeferred hK, ?_⟩⟩
    exact ⟨_, results_tmp rfl _ _ _, v, ys, rfl, hS, ownsRow_putObj hrow _ hK rfl, hB.trans (belowK_b (w := w) (Nat.le_refl _) W D _ _ (by omega) hK rfl rfl)⟩
  case stop =>
    rintro D c pre W _ _ h _
    exact h.elim
/-- slices.Collect of a map's operations. -/
theorem collect_values (Bm b : Nat) (c : List OC) (w : World) (hBm : Bm < w.heap.size) (hm : w.cell? ⟨Bm, 0, none⟩ = some (.map (some b))) (hmap : MapAt w b c) (hone : ∀ x ∈ c, x.1.lv.oneCell' = true) (hl : c.length ≤ 100000) :
    Calls Tryd.prog 35 #[valsV Bm] w fun e w' => ∃ (v : Value) (ss : List OC), e = .returned v ∧ ss.Perm c ∧ w'.ownsRow w.heap.size 50 29 v ss.length (flatO ss) ∧ Below w.heap.size w w' := by
  have hc := callsIn_wide.1 (appendO_in 5 (by omega) Bm b c w hBm hm hmap hone hl)
  go_enter Tryd.func35, Tryd.ntmps35
  go_wp2_with (go_at_call 61; refine hc.mono ?_; rintro e w' ⟨v, ss, rfl, hS, hrow, hb⟩)
  go_ret
  exact ⟨v, outO ss, rfl, hS, by simpa [outO] using hrow, hb⟩
end Go.Proofs.YtfnmekmgjcjglaaDoor.V
