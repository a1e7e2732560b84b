/-
  A region that draws its order, by facts, beside an object that one of its operations changes: what the object holds is known ahead of that operation, and behind it.
-/
import Derived.Test.YtagjgknkkbkjgaaJV
import Derived.Test.YtagjgknkkbkjgaaFJ
import Derived.Test.YtagjgknkkbkjgaaOV
namespace Go.Proofs.Ytagjgknkkbkjgaa
set_option linter.unusedVariables false
set_option linter.unusedSimpArgs false
open Go Go.RowKit

/-- What lies below B is as it was, but for the object's blocks. -/
structure KX (B : Nat) (G : Nat → Prop) (w w' : World) : Prop where
  os : w'.os = w.os
  tape : w'.tape = w.tape
  output : w'.output = w.output
  size : w.heap.size ≤ w'.heap.size
  block : ∀ b, b < B → ¬ G b → w'.heap[b]? = w.heap[b]?
theorem KX.refl (B : Nat) (G : Nat → Prop) (w : World) : KX B G w w := ⟨rfl, rfl, rfl, Nat.le_refl _, fun _ _ _ => rfl⟩
theorem KX.trans {B : Nat} {G : Nat → Prop} {a b c : World} (h : KX B G a b) (k : KX B G b c) : KX B G a c :=
  ⟨k.os.trans h.os, k.tape.trans h.tape, k.output.trans h.output, Nat.le_trans h.size k.size, fun i hi hg => (k.block i hi hg).trans (h.block i hi hg)⟩
theorem KX.mono {B B' : Nat} {G : Nat → Prop} {a b : World} (h : KX B G a b) (hB : B' ≤ B) : KX B' G a b := ⟨h.os, h.tape, h.output, h.size, fun b hb hg => h.block b (by omega) hg⟩
theorem KX.of_below {B C : Nat} {G : Nat → Prop} {a b : World} (h : Below C a b) (hC : B ≤ C) : KX B G a b := ⟨h.os, h.tape, h.output, h.size, fun i hi _ => h.block i (by omega)⟩

/-- What one operation does to the blocks. -/
structure Stq (G : Nat → Prop) (tS : TypeId) (tgt : Nat → Option Nat) (B k : Nat) (o : Nat → Nat) (w : World) (o' : Nat → Nat) (w' : World) : Prop where
  os : w'.os = w.os
  tape : w'.tape = w.tape
  output : w'.output = w.output
  size : w.heap.size ≤ w'.heap.size
  own : ∀ b, b < w.heap.size → o' b = o b
  new : ∀ b, w.heap.size ≤ b → b < w'.heap.size → o' b = k
  same : ∀ b, b < w.heap.size → ¬ G b → (b < B ∨ tgt k ≠ some (o b)) → w'.heap[b]? = w.heap[b]?
  kind : ∀ (b : Nat) (cs : Array Value) t fr, ¬ G b → w.heap[b]? = some (.cells cs t fr) → ∃ cs' : Array Value, w'.heap[b]? = some (.cells cs' t fr) ∧ cs'.size = cs.size
  typ : ∀ (b : Nat) (cs : Array Value) t fr, ¬ G b → t ≠ tS → w.heap[b]? = some (.cells cs t fr) → w'.heap[b]? = some (.cells cs t fr)
theorem Stq.kx {G : Nat → Prop} {tS : TypeId} {tgt : Nat → Option Nat} {B k : Nat} {o o' : Nat → Nat} {w0 w w' : World} (h : Stq G tS tgt B k o w o' w') (hb : KX B G w0 w) (hB : B ≤ w0.heap.size) : KX B G w0 w' :=
  hb.trans ⟨h.os, h.tape, h.output, h.size, fun b hlt hg => h.same b (by have := hb.size; omega) hg (.inl hlt)⟩
theorem Stq.of_below {G : Nat → Prop} {tS : TypeId} {tgt : Nat → Option Nat} {B k : Nat} {o : Nat → Nat} {w w' : World} (h : Below w.heap.size w w') : Stq G tS tgt B k o w (fun b => if b < w.heap.size then o b else k) w' :=
  ⟨h.os, h.tape, h.output, h.size, fun b hb => if_pos hb, fun b hb _ => if_neg (by omega), fun b hb _ _ => h.block b hb, fun b cs t fr _ hc => ⟨cs, (h.block b (Array.getElem?_eq_some_iff.1 hc).1).trans hc, rfl⟩, fun b cs t fr _ _ hc => (h.block b (Array.getElem?_eq_some_iff.1 hc).1).trans hc⟩
/-- The operation that changes the object. -/
theorem Stq.of_kx {G : Nat → Prop} {tS : TypeId} {tgt : Nat → Option Nat} {B k : Nat} {o : Nat → Nat} {w w' : World} (h : KX w.heap.size G w w') : Stq G tS tgt B k o w (fun b => if b < w.heap.size then o b else k) w' :=
  ⟨h.os, h.tape, h.output, h.size, fun b hb => if_pos hb, fun b hb _ => if_neg (by omega), fun b hb hg _ => h.block b hb hg, fun b cs t fr hg hc => ⟨cs, (h.block b (Array.getElem?_eq_some_iff.1 hc).1 hg).trans hc, rfl⟩, fun b cs t fr hg _ hc => (h.block b (Array.getElem?_eq_some_iff.1 hc).1 hg).trans hc⟩
theorem Stq.refl {G : Nat → Prop} {tS : TypeId} {tgt : Nat → Option Nat} {B k : Nat} {o : Nat → Nat} {w : World} : Stq G tS tgt B k o w o w :=
  ⟨rfl, rfl, rfl, Nat.le_refl _, fun _ _ => rfl, fun b h1 h2 => by omega, fun _ _ _ _ => rfl, fun b cs t fr _ hc => ⟨cs, hc, rfl⟩, fun _ _ _ _ _ _ hc => hc⟩

def Fa.fitq (tgt : Nat → Option Nat) (i : Nat) : Fa → Prop
  | .dep _ => False
  | f => f.fit tgt i
theorem Fa.keepq {G : Nat → Prop} {tS : TypeId} {tgt : Nat → Option Nat} {B k i : Nat} {o o' : Nat → Nat} {w w' : World} {v : Value} {f : Fa} (hG : ∀ b, G b → b < B) (hs : Stq G tS tgt B k o w o' w') (hne : k ≠ i) (hf : f.fitq tgt i) (h : f.holds B i o v w) : f.holds B i o' v w' := by
  have lt : ∀ {g : Nat} {x : Obj}, w.heap[g]? = some x → g < w.heap.size := fun h => (Array.getElem?_eq_some_iff.1 h).1
  have ng : ∀ {g : Nat}, B ≤ g → ¬ G g := fun hg h => by have := hG _ h; omega
  cases f with
  | eq c => exact h
  | row t n cs =>
    obtain ⟨g, rfl, hB, ho, hg⟩ := h
    exact ⟨g, rfl, hB, (hs.own g (lt hg)).trans ho, (hs.same g (lt hg) (ng hB) (.inr (by rw [ho]; exact hf k))).trans hg⟩
  | box t n =>
    obtain ⟨g, rfl, hB, ho, hu, cs, hg, hc⟩ := h
    obtain ⟨cs', hg', hc'⟩ := hs.kind g cs t _ (ng hB) hg
    refine ⟨g, rfl, hB, (hs.own g (lt hg)).trans ho, fun g' h1 h2 h3 => ?_, cs', hg', hc'.trans hc⟩
    by_cases hlt : g' < w.heap.size
    · exact hu g' h1 hlt ((hs.own g' hlt).symm.trans h3)
    · exact absurd ((hs.new g' (by omega) h2).symm.trans h3) hne
  | put j t cs =>
    obtain ⟨g, hB, ho, hg⟩ := h
    exact ⟨g, hB, (hs.own g (lt hg)).trans ho, (hs.same g (lt hg) (ng hB) (.inr (by rw [ho]; exact hf k hne))).trans hg⟩
  | dep p => exact hf.elim

section
variable {P : Program} {ops : Array Oper} {Q : Exit → Act → World → Prop}

/-- What operation jT waits for. -/
def needT (ops : Array Oper) (jT k : Nat) : Bool := match ops[jT]? with | some op => (needOf op).testBit k | none => false

/-- What one call makes: its value is not known ahead; the operations of the mask M hang on it. -/
structure Made (U : Type) where
  jU : Nat
  M : Nat
  Cl : U → World → Prop
def needAt (ops : Array Oper) (i j : Nat) : Bool := match ops[i]? with | some op => (needOf op).testBit j | none => false
def depsOK (ops : Array Oper) (M jU : Nat) : Bool := (List.range ops.size).all fun i => !M.testBit i || (Nat.beq i jU || (List.range i).any fun j => M.testBit j && needAt ops i j)
theorem deps_at {M jU d : Nat} (h : depsOK ops M jU = true) (hcl : ∀ (i : Nat) (op : Oper), ops[i]? = some op → d.testBit i = true → ∀ j, (needOf op).testBit j = true → d.testBit j = true) :
    ∀ (i : Nat), i < ops.size → M.testBit i = true → d.testBit i = true → d.testBit jU = true := by
  intro i
  induction i using Nat.strongRecOn with
  | ind i ih =>
    intro hi hM hd
    have h1 := List.all_eq_true.1 h i (List.mem_range.2 hi)
    rw [hM] at h1
    simp only [Bool.not_true, Bool.false_or, Bool.or_eq_true, List.any_eq_true, List.mem_range, Bool.and_eq_true] at h1
    rcases h1 with h1 | ⟨j, hj, hMj, hn⟩
    · rw [← Nat.eq_of_beq_eq_true h1]; exact hd
    · unfold needAt at hn
      cases ho : ops[i]? with
      | none => rw [ho] at hn; cases hn
      | some op =>
        rw [ho] at hn
        exact ih j hj (by omega) hMj (hcl i op ho hd j hn)

variable {U : Type}
def StqOK (P : Program) (ops : Array Oper) (Q : Exit → Act → World → Prop) (G : Nat → Prop) (tS : TypeId) (St : Bool → World → Prop) (jT : Nat) (mk : Made U) (tgt : Nat → Option Nat) (F : U → Nat → Fa) (a0 : Act) (w0 : World) (k : Nat) (op : Oper) : Prop :=
  ∀ (u : U) (o : Nat → Nat) (a : Act) (w : World) (ph : Bool), BaseA ops a0 a → KX w0.heap.size G w0 w → (∀ g, w0.heap.size ≤ g → g < w.heap.size → o g ≠ k) → (∀ i, (needOf op).testBit i = true → (F u i).holds w0.heap.size i o (valAt ops a i) w) →
    (k = jT → ph = false) → ((needOf op).testBit jT = true → ph = true) → (needT ops jT k = true → ph = false) → St ph w →
    (Region.wanted op (yielded ops a.tmps) = true ∧ ∀ K : Act → World → Prop, (∀ v w' o' u', Stq G tS tgt w0.heap.size k o w o' w' → (k ≠ mk.jU → u' = u) → (k = mk.jU → mk.Cl u' w') → (F u' k).holds w0.heap.size k o' (vOf op v) w' → St (ph || Nat.beq k jT) w' → K (a.put op.dst v) w') → Oper.wp P op a w K Q)
def StqsOK (P : Program) (ops : Array Oper) (Q : Exit → Act → World → Prop) (G : Nat → Prop) (tS : TypeId) (St : Bool → World → Prop) (jT : Nat) (mk : Made U) (tgt : Nat → Option Nat) (F : U → Nat → Fa) (a0 : Act) (w0 : World) : List Oper → Nat → Prop
  | [], _ => True
  | op :: r, k => StqOK P ops Q G tS St jT mk tgt F a0 w0 k op ∧ StqsOK P ops Q G tS St jT mk tgt F a0 w0 r (k + 1)
theorem stqs_at {G : Nat → Prop} {tS : TypeId} {St : Bool → World → Prop} {jT : Nat} {mk : Made U} {tgt : Nat → Option Nat} {F : U → Nat → Fa} {a0 : Act} {w0 : World} : ∀ {l : List Oper} {j : Nat}, StqsOK P ops Q G tS St jT mk tgt F a0 w0 l j → ∀ i op, l[i]? = some op → StqOK P ops Q G tS St jT mk tgt F a0 w0 (j + i) op
  | [], j, _, i, op, h => by simp at h
  | x :: r, j, hs, i, op, h => by
    cases i with
    | zero => obtain rfl : x = op := by simpa using h
              exact hs.1
    | succ i =>
      have := stqs_at hs.2 i op (by simpa using h)
      rwa [show j + 1 + i = j + (i + 1) by omega] at this

/-- What is known when the operations of the mask d have come up. -/
def InvQ (ops : Array Oper) (G : Nat → Prop) (St : Bool → World → Prop) (jT : Nat) (mk : Made U) (F : U → Nat → Fa) (a0 : Act) (w0 : World) (d : Nat) (a : Act) (w : World) : Prop :=
  ∃ u : U, (∃ o : Nat → Nat, BaseA ops a0 a ∧ KX w0.heap.size G w0 w ∧ (∀ g, w0.heap.size ≤ g → g < w.heap.size → d.testBit (o g) = true) ∧ ∀ i, i < ops.size → d.testBit i = true → (F u i).holds w0.heap.size i o (valAt ops a i) w) ∧
  (∀ (i : Nat) (op : Oper), ops[i]? = some op → d.testBit i = true → ∀ j, (needOf op).testBit j = true → d.testBit j = true) ∧ St (d.testBit jT) w ∧ (d.testBit mk.jU = true → mk.Cl u w)

/-- What a call made stays, whatever is stored into blocks of another type. -/
def Stays (G : Nat → Prop) (tS : TypeId) (St : Bool → World → Prop) (mk : Made U) : Prop :=
  ∀ u ph w w', (∀ (b : Nat) (cs : Array Value) t fr, ¬ G b → t ≠ tS → w.heap[b]? = some (.cells cs t fr) → w'.heap[b]? = some (.cells cs t fr)) → St ph w → mk.Cl u w → mk.Cl u w'

theorem wp_region_flowq {id : Nat} {a0 : Act} {w : World} (G : Nat → Prop) (tS : TypeId) (St : Bool → World → Prop) (jT : Nat) (mk : Made U) (u0 : U) (tgt : Nat → Option Nat) (F : U → Nat → Fa) (hm : P.follows .mixedOrders = true)
    (hG : ∀ b, G b → b < w.heap.size) (hjT : jT < ops.size) (hjU : mk.jU < ops.size) (hx : lexN (needTab ops) = true) (hd : dstsOK a0.tmps.size ops.toList [] = true) (hF : ∀ u i, i < ops.size → (F u i).fitq tgt i)
    (hdep : depsOK ops mk.M mk.jU = true) (hM : ∀ i u u', i < ops.size → mk.M.testBit i = false → F u i = F u' i) (hstay : Stays G tS St mk)
    (hstep : StqsOK P ops Q G tS St jT mk tgt F a0 w.drew ops.toList 0) (hst : St false w.drew)
    (hend : ∀ u o a w', BaseA ops a0 a → KX w.heap.size G w.drew w' → St true w' → mk.Cl u w' → (∀ i, i < ops.size → (F u i).holds w.heap.size i o (valAt ops a i) w') → Q .normal a w') : (Code.region id ops true).wp P Q a0 w := by
  refine wp_region_any hm (wpAny_inv (Inv := InvQ ops G St jT mk F a0 w.drew) hx ?_ ?_ ops.size 0 _ a0 _ (Same.zero _) (by simp) ?_)
  · intro d k op a w' ho hk hneed hi
    obtain ⟨u, ⟨o, hb, hB, hfr, hall⟩, hcl, hS, hC⟩ := hi
    have hs := stqs_at hstep k op (by rw [Array.getElem?_toList]; exact ho)
    rw [Nat.zero_add] at hs
    have hlt : k < ops.size := (Array.getElem?_eq_some_iff.1 ho).1
    have hin : ∀ i, (needOf op).testBit i = true → i < ops.size := fun i hi => by
      have h1 := lexN_mem hx _ (tab_mem ho)
      have h2 := Nat.ge_two_pow_of_testBit hi
      have h3 : 2 ^ i < 2 ^ k := Nat.lt_of_le_of_lt h2 h1
      have h4 : i < k := (Nat.pow_lt_pow_iff_right (by omega)).1 h3
      omega
    refine wpOp_step ho (fun K hK => ?_)
    obtain ⟨hw, hwp⟩ := hs u o a w' (d.testBit jT) hb hB (fun g h1 h2 e => by have := hfr g h1 h2; rw [e, hk] at this; cases this) (fun i hi => hall i (hin i hi) (hneed i hi))
      (fun e => by rw [← e]; exact hk) (fun h => hneed jT h) (fun h => by
        unfold needT at h
        cases hT : ops[jT]? with
        | none => rw [hT] at h; cases h
        | some opT =>
          rw [hT] at h
          cases hb2 : d.testBit jT with
          | false => rfl
          | true => have := hcl jT opT hT hb2 k h; rw [hk] at this; cases this) hS
    rw [if_pos hw]
    refine hwp K (fun v w2 o2 u2 hst hu hC2 hf hS2 => hK _ _ ⟨u2, ⟨o2, put_base hb ho v, hst.kx hB (Nat.le_refl _), fun g h1 h2 => ?_, fun i hi hbit => ?_⟩, fun i opi hoi hbit j hj => ?_, ?_, fun hbit => ?_⟩)
    · rw [or_bit]
      by_cases hlt2 : g < w'.heap.size
      · rw [hst.own g hlt2, hfr g h1 hlt2]; rfl
      · rw [hst.new g (by omega) h2]; simp
    · by_cases e : k = i
      · subst e
        rw [put_val ho hd hb.size]
        exact hf
      · rw [put_other ho hd e]
        rw [or_bit] at hbit
        have hbi : d.testBit i = true := by simpa [e] using hbit
        have hFe : F u2 i = F u i := by
          by_cases hkU : k = mk.jU
          · refine hM i u2 u hi ?_
            cases hMi : mk.M.testBit i with
            | false => rfl
            | true =>
              have := deps_at hdep hcl i hi hMi hbi
              rw [← hkU, hk] at this
              cases this
          · rw [hu hkU]
        rw [hFe]
        exact Fa.keepq hG hst e (hF u i hi) (hall i hi hbi)
    · rw [or_bit] at hbit ⊢
      by_cases e : k = i
      · subst e
        rw [ho] at hoi
        cases hoi
        rw [hneed j hj]; rfl
      · rw [hcl i opi hoi (by simpa [e] using hbit) j hj]; rfl
    · rw [or_bit]
      have e : (decide (k = jT)) = Nat.beq k jT := by
        cases hbq : Nat.beq k jT with
        | true => simp [Nat.eq_of_beq_eq_true hbq]
        | false => exact decide_eq_false (Nat.ne_of_beq_eq_false hbq)
      rw [e]
      exact hS2
    · by_cases hkU : k = mk.jU
      · exact hC2 hkU
      · rw [or_bit] at hbit
        rw [hu hkU]
        exact hstay u _ w' w2 hst.typ hS (hC (by simpa [hkU] using hbit))
  · rintro d a w' hall ⟨u, ⟨o, hb, hB, _, hf⟩, _, hS, hC⟩
    rw [hall jT hjT] at hS
    exact hend u o a w' hb hB hS (hC (hall _ hjU)) (fun i hi => hf i hi (hall i hi))
  · exact ⟨u0, ⟨fun _ => 0, ⟨rfl, rfl, fun _ _ => rfl⟩, KX.refl _ _ _, fun g h1 h2 => absurd h2 (Nat.not_lt.2 h1), fun i hi hbit => by simp at hbit⟩, fun i op _ hbit => by simp at hbit, by simpa using hst, fun hbit => by simp at hbit⟩

def FitqsOK (tgt : Nat → Option Nat) : List Fa → Nat → Prop
  | [], _ => True
  | f :: r, k => f.fitq tgt k ∧ FitqsOK tgt r (k + 1)
theorem fitqs_at {tgt : Nat → Option Nat} {z : Fa} : ∀ {l : List Fa} {k : Nat}, FitqsOK tgt l k → ∀ i, i < l.length → (l.getD i z).fitq tgt (k + i)
  | f :: r, k, h, 0, _ => h.1
  | f :: r, k, h, i + 1, hi => by
    have := fitqs_at (z := z) h.2 i (by simpa using hi)
    rw [show k + 1 + i = k + (i + 1) by omega] at this
    simpa using this

/-- The law as it is used. -/
theorem wp_flowq {id : Nat} {a0 : Act} {w : World} (G : Nat → Prop) (tS : TypeId) (St : Bool → World → Prop) (jT : Nat) (mk : Made U) (u0 : U) (tgt : Nat → Option Nat) (Fl : U → List Fa) (n : Nat) (hm : P.follows .mixedOrders = true) (hlen : ∀ u, (Fl u).length = ops.size)
    (hG : ∀ b, G b → b < w.heap.size) (hjT : Nat.blt jT ops.size = true) (hjU : Nat.blt mk.jU ops.size = true) (hx : lexN (needTab ops) = true) (hn : a0.tmps.size = n) (hd : dstsOK n ops.toList [] = true) (hF : ∀ u, FitqsOK tgt (Fl u) 0)
    (hdep : depsOK ops mk.M mk.jU = true) (hM : ∀ i u u', i < ops.size → mk.M.testBit i = false → (Fl u).getD i (.eq undef) = (Fl u').getD i (.eq undef)) (hstay : Stays G tS St mk)
    (hstep : StqsOK P ops Q G tS St jT mk tgt (fun u k => (Fl u).getD k (.eq undef)) a0 w.drew ops.toList 0) (hst : St false w.drew)
    (hend : ∀ (u : U) (o : Nat → Nat) (vs : Nat → Value) w', KX w.heap.size G w.drew w' → St true w' → mk.Cl u w' → (∀ i, i < ops.size → ((Fl u).getD i (.eq undef)).holds w.heap.size i o (vs i) w') → Q .normal ⟨fill ops.toList vs 0 a0.tmps, a0.defers⟩ w') : (Code.region id ops true).wp P Q a0 w :=
  wp_region_flowq G tS St jT mk u0 tgt (fun u k => (Fl u).getD k (.eq undef)) hm hG (by rwa [Nat.blt_eq] at hjT) (by rwa [Nat.blt_eq] at hjU) hx (hn ▸ hd) (fun u i hi => by have := fitqs_at (z := .eq undef) (hF u) i (by rw [hlen u]; exact hi); rwa [Nat.zero_add] at this) hdep hM hstay hstep hst
    (fun u o a w' hb hB hS hC hf => act_fill hb hn hd ▸ hend u o (valAt ops a) w' hB hS hC hf)

variable {G : Nat → Prop} {tS : TypeId} {St : Bool → World → Prop} {jT : Nat} {mk : Made U} {tgt : Nat → Option Nat} {F : U → Nat → Fa} {a0 : Act} {w0 : World} {k : Nat} {op : Oper}

/-- The object's state hangs on its blocks alone. -/
def Stable (G : Nat → Prop) (St : Bool → World → Prop) : Prop := ∀ ph w w', (∀ b, G b → w'.heap[b]? = w.heap[b]?) → St ph w → St ph w'
theorem wanted_none {y : Nat → Option Bool} (hg : op.guard = none) : Region.wanted op y = true := by
  unfold Region.wanted
  rw [hg]
theorem ne_of_beq {a b : Nat} (h : Nat.beq a b = false) : a ≠ b := Nat.ne_of_beq_eq_false h

theorem flowq_val (c : U → Value) (hF : ∀ u, F u k = .eq (c u)) (hd : op.dst.isSome = true) (hg : op.guard = none) (hkU : Nat.beq k mk.jU = false) (hkT : Nat.beq k jT = false)
    (h : ∀ (u : U) (o : Nat → Nat) (a : Act) (w : World), BaseA ops a0 a → KX w0.heap.size G w0 w → (∀ i, (needOf op).testBit i = true → (F u i).holds w0.heap.size i o (valAt ops a i) w) → (execOp a.eval op).run P w = .ok (.value (c u)) w) : StqOK P ops Q G tS St jT mk tgt F a0 w0 k op := by
  intro u o a w ph hb hB hfr hn _ _ _ hS
  refine ⟨wanted_none hg, fun K hK => ?_⟩
  unfold Oper.wp
  rw [h u o a w hb hB hn]
  refine hK (c u) w o u Stq.refl (fun _ => rfl) (fun e => absurd e (ne_of_beq hkU)) ?_ (by rw [hkT, Bool.or_false]; exact hS)
  rw [hF]
  obtain ⟨s, hs⟩ := Option.isSome_iff_exists.1 hd
  simp [Fa.holds, vOf, hs]
/-- A call that changes nothing that was there; it may look at the object, if it is known whether that has been changed. -/
theorem flowq_call (c : U → Value) (hst : Stable G St) (hG : ∀ b, G b → b < w0.heap.size) (hF : ∀ u, F u k = .eq (c u)) (hd : op.dst.isSome = true) (hg : op.guard = none) (hkU : Nat.beq k mk.jU = false) (hkT : Nat.beq k jT = false)
    (h : ∀ (u : U) (o : Nat → Nat) (a : Act) (w : World) (ph : Bool), BaseA ops a0 a → KX w0.heap.size G w0 w → (∀ i, (needOf op).testBit i = true → (F u i).holds w0.heap.size i o (valAt ops a i) w) → ((needOf op).testBit jT = true → ph = true) → (needT ops jT k = true → ph = false) → St ph w →
      ∃ f args, (execOp a.eval op).run P w = .ok (.enter f args) w ∧ Calls P f args w (fun e w' => e = .returned (c u) ∧ Below w.heap.size w w')) : StqOK P ops Q G tS St jT mk tgt F a0 w0 k op := by
  intro u o a w ph hb hB hfr hn _ h1 h2 hS
  refine ⟨wanted_none hg, fun K hK => ?_⟩
  unfold Oper.wp
  obtain ⟨f, args, hr, hc⟩ := h u o a w ph hb hB hn h1 h2 hS
  rw [hr, Oper.upon_enter]
  refine hc.mono ?_
  rintro e w' ⟨rfl, hbw⟩
  refine hK (c u) w' _ u (Stq.of_below hbw) (fun _ => rfl) (fun e => absurd e (ne_of_beq hkU)) ?_ (by rw [hkT, Bool.or_false]; exact hst ph w w' (fun b hgb => hbw.block b (by have := hG b hgb; have := hB.size; omega)) hS)
  rw [hF]
  obtain ⟨s, hs⟩ := Option.isSome_iff_exists.1 hd
  simp [Fa.holds, vOf, hs]
/-- The call whose result is not known ahead. -/
theorem flowq_make (c : U → Value) (hst : Stable G St) (hG : ∀ b, G b → b < w0.heap.size) (hF : ∀ u, F u k = .eq (c u)) (hd : op.dst.isSome = true) (hg : op.guard = none) (hkU : k = mk.jU) (hkT : Nat.beq k jT = false)
    (h : ∀ (u : U) (o : Nat → Nat) (a : Act) (w : World) (ph : Bool), BaseA ops a0 a → KX w0.heap.size G w0 w → (∀ i, (needOf op).testBit i = true → (F u i).holds w0.heap.size i o (valAt ops a i) w) → St ph w →
      ∃ f args, (execOp a.eval op).run P w = .ok (.enter f args) w ∧ Calls P f args w (fun e w' => ∃ u', e = .returned (c u') ∧ mk.Cl u' w' ∧ Below w.heap.size w w')) : StqOK P ops Q G tS St jT mk tgt F a0 w0 k op := by
  intro u o a w ph hb hB hfr hn _ h1 h2 hS
  refine ⟨wanted_none hg, fun K hK => ?_⟩
  unfold Oper.wp
  obtain ⟨f, args, hr, hc⟩ := h u o a w ph hb hB hn hS
  rw [hr, Oper.upon_enter]
  refine hc.mono ?_
  rintro e w' ⟨u', rfl, hCl, hbw⟩
  refine hK (c u') w' _ u' (Stq.of_below hbw) (fun e => absurd hkU e) (fun _ => hCl) ?_ (by rw [hkT, Bool.or_false]; exact hst ph w w' (fun b hgb => hbw.block b (by have := hG b hgb; have := hB.size; omega)) hS)
  rw [hF]
  obtain ⟨s, hs⟩ := Option.isSome_iff_exists.1 hd
  simp [Fa.holds, vOf, hs]
/-- The call that changes the object. -/
theorem flowq_turn (c : U → Value) (hF : ∀ u, F u k = .eq (c u)) (hd : op.dst.isSome = true) (hg : op.guard = none) (hkU : Nat.beq k mk.jU = false) (hkT : k = jT)
    (h : ∀ (u : U) (o : Nat → Nat) (a : Act) (w : World), BaseA ops a0 a → KX w0.heap.size G w0 w → (∀ i, (needOf op).testBit i = true → (F u i).holds w0.heap.size i o (valAt ops a i) w) → St false w →
      ∃ f args, (execOp a.eval op).run P w = .ok (.enter f args) w ∧ Calls P f args w (fun e w' => e = .returned (c u) ∧ KX w.heap.size G w w' ∧ St true w')) : StqOK P ops Q G tS St jT mk tgt F a0 w0 k op := by
  intro u o a w ph hb hB hfr hn hph _ _ hS
  refine ⟨wanted_none hg, fun K hK => ?_⟩
  unfold Oper.wp
  rw [hph hkT] at hS
  obtain ⟨f, args, hr, hc⟩ := h u o a w hb hB hn hS
  rw [hr, Oper.upon_enter]
  refine hc.mono ?_
  rintro e w' ⟨rfl, hbw, hS'⟩
  have e : (ph || Nat.beq k jT) = true := by subst hkT; simp
  refine hK (c u) w' _ u (Stq.of_kx hbw) (fun _ => rfl) (fun e => absurd e (ne_of_beq hkU)) ?_ (by rw [e]; exact hS')
  rw [hF]
  obtain ⟨s, hs⟩ := Option.isSome_iff_exists.1 hd
  simp [Fa.holds, vOf, hs]
theorem flowq_box (t : TypeId) (n : Nat) (cs : Array Value) (hn : cs.size = n) (hst : Stable G St) (hG : ∀ b, G b → b < w0.heap.size) (hF : ∀ u, F u k = .box t n) (hd : op.dst.isSome = true) (hg : op.guard = none) (hkU : Nat.beq k mk.jU = false) (hkT : Nat.beq k jT = false)
    (h : ∀ (a : Act) (w : World), (execOp a.eval op).run P w = .ok (.value (.pointer (some ⟨w.heap.size, 0, none⟩))) (w.alloc (.cells cs t))) : StqOK P ops Q G tS St jT mk tgt F a0 w0 k op := by
  intro u o a w ph hb hB hfr hnd _ _ _ hS
  refine ⟨wanted_none hg, fun K hK => ?_⟩
  unfold Oper.wp
  rw [h a w]
  refine hK _ _ _ u (Stq.of_below (below_new _ _)) (fun _ => rfl) (fun e => absurd e (ne_of_beq hkU)) ?_ (by rw [hkT, Bool.or_false]; exact hst ph w _ (fun b hgb => (below_new w _).block b (by have := hG b hgb; have := hB.size; omega)) hS)
  rw [hF]
  obtain ⟨s, hs⟩ := Option.isSome_iff_exists.1 hd
  refine ⟨w.heap.size, by simp [vOf, hs], hB.size, by simp, fun g' h1 h2 h3 => ?_, cs, last_new _ _, hn⟩
  by_cases hlt : g' < w.heap.size
  · exact absurd (by simpa [hlt] using h3) (hfr g' h1 hlt)
  · simp at h2; omega
theorem flowq_put (j n : Nat) (cs : U → Array Value) (hcs : ∀ u, (cs u).size = n) (hst : Stable G St) (hG : ∀ b, G b → b < w0.heap.size) (htgt : tgt k = some j) (hj : (needOf op).testBit j = true) (hFj : ∀ u, F u j = .box tS n) (hF : ∀ u, F u k = .put j tS (cs u)) (hg : op.guard = none) (hkU : Nat.beq k mk.jU = false) (hkT : Nat.beq k jT = false)
    (h : ∀ (u : U) (o : Nat → Nat) (a : Act) (w : World) (g : Nat) (old : Array Value), BaseA ops a0 a → (∀ i, (needOf op).testBit i = true → (F u i).holds w0.heap.size i o (valAt ops a i) w) → valAt ops a j = .pointer (some ⟨g, 0, none⟩) →
      w.heap[g]? = some (.cells old tS (0, 0)) → old.size = (cs u).size → (execOp a.eval op).run P w = .ok .skip (w.setRow g (cs u))) : StqOK P ops Q G tS St jT mk tgt F a0 w0 k op := by
  intro u o a w ph hb hB hfr hnd _ _ _ hS
  refine ⟨wanted_none hg, fun K hK => ?_⟩
  unfold Oper.wp
  have hp := hnd j hj
  rw [hFj] at hp
  obtain ⟨g, hv, hgB, hog, hu, old, hold, hsz⟩ := hp
  rw [h u o a w g old hb hnd hv hold (hsz.trans (hcs u).symm)]
  have hother : ∀ b, b ≠ g → (w.setRow g (cs u)).heap[b]? = w.heap[b]? := fun b hne => by simp [World.setRow, Array.getElem?_modify, Ne.symm hne]
  have hself : (w.setRow g (cs u)).heap[g]? = some (.cells (cs u) tS (0, 0)) := setRow_heap _ _ _ _ _ _ hold
  refine hK undef _ o u ⟨rfl, rfl, rfl, by simp [World.setRow], fun _ _ => rfl, fun b h1 h2 => by simp [World.setRow] at h2; omega, fun b hb2 _ hor => hother b (fun e => ?_), fun b cs1 t1 fr _ hc => ?_, fun b cs1 t1 fr _ ht hc => ?_⟩ (fun _ => rfl) (fun e => absurd e (ne_of_beq hkU)) ?_ (by rw [hkT, Bool.or_false]; exact hst ph w _ (fun b hgb => hother b (fun e => by have := hG b hgb; omega)) hS)
  · subst e
    rcases hor with h1 | h1
    · omega
    · exact h1 (by rw [htgt, hog])
  · by_cases e : b = g
    · subst e
      rw [hold] at hc
      cases hc
      exact ⟨_, hself, (hcs u).trans hsz.symm⟩
    · exact ⟨cs1, (hother b e).trans hc, rfl⟩
  · refine (hother b (fun e => ?_)).trans hc
    subst e
    rw [hold] at hc
    cases hc
    exact ht rfl
  · rw [hF]
    exact ⟨g, hgB, hog, hself⟩
end
end Go.Proofs.Ytagjgknkkbkjgaa

/-
  Rows of operations that a call makes; lines for regions beside an object that changes.
-/
namespace Go.Proofs.Ytagjgknkkbkjgaa.V
set_option linter.unusedVariables false
set_option linter.unusedSimpArgs false
set_option maxRecDepth 100000
open Go Go.RowKit Go.Maps Wire

section
variable {ops : Array Oper} {Q : Exit → Act → World → Prop} {U : Type} {G : Nat → Prop} {tS : TypeId} {St : Bool → World → Prop} {jT : Nat} {mk : Made U} {tgt : Nat → Option Nat} {F : U → Nat → Fa} {a0 : Act} {w0 : World} {k : Nat} {op : Oper}
theorem q_move {x : Operand} {c : U → Value} (ho : op.op = .move x ∨ op.op = .assign x) (hF : ∀ u, F u k = .eq (c u)) (hd : op.dst.isSome = true) (hg : op.guard = none) (hkU : Nat.beq k mk.jU = false) (hkT : Nat.beq k jT = false)
    (h1 : ∀ u, Ev ops (F u) a0 w0 op x (c u)) : StqOK Try.prog ops Q G tS St jT mk tgt F a0 w0 k op :=
  flowq_val c hF hd hg hkU hkT (fun u o a w hb hB hn => by rw [run_move _ ho, h1 u o a w hb hn])
theorem q_load {x : Operand} {t : Nat} {v : Value} {c : U → Value} (ho : op.op = .load t x) (hr : ∀ u w, KX w0.heap.size G w0 w → (Instr.loadAt t v).run Try.prog w = .ok (c u) w) (hF : ∀ u, F u k = .eq (c u)) (hd : op.dst.isSome = true) (hg : op.guard = none) (hkU : Nat.beq k mk.jU = false) (hkT : Nat.beq k jT = false)
    (h1 : ∀ u, Ev ops (F u) a0 w0 op x v) : StqOK Try.prog ops Q G tS St jT mk tgt F a0 w0 k op :=
  flowq_val c hF hd hg hkU hkT (fun u o a w hb hB hn => by
    unfold execOp
    simp only [ho, h1 u o a w hb hn, Sem.run_bind, hr u w hB, Result.andThen_ok, Sem.run_pure])
theorem q_ext {x : Operand} {n : Nat} {v c : U → Value} (ho : op.op = .extract x n) (hr : ∀ u w, (Instr.extract (v u) n).run Try.prog w = .ok (c u) w) (hF : ∀ u, F u k = .eq (c u)) (hd : op.dst.isSome = true) (hg : op.guard = none) (hkU : Nat.beq k mk.jU = false) (hkT : Nat.beq k jT = false)
    (h1 : ∀ u, Ev ops (F u) a0 w0 op x (v u)) : StqOK Try.prog ops Q G tS St jT mk tgt F a0 w0 k op :=
  flowq_val c hF hd hg hkU hkT (fun u o a w hb hB hn => by
    unfold execOp
    simp only [ho, h1 u o a w hb hn, Sem.run_bind, hr, Result.andThen_ok, Sem.run_pure])
theorem enters {f : Nat} {xs : Array Operand} {ats : Array Nat} {vs : Array Value} {a : Act} {w : World} (ho : op.op = .call { callee := .value (.func f), args := xs, argTypes := ats })
    (hfn : ∀ (args : Array Value) (w : World), (callFunc f args).run Try.prog w = .ok (.enter f args) w) (h1 : xs.map a.eval = vs) : (execOp a.eval op).run Try.prog w = .ok (.enter f vs) w := by
  rw [show execOp a.eval op = callFunc f (#[] ++ xs.map a.eval ++ #[]) from by unfold execOp; rw [ho]; rfl, h1]
  simp only [Array.empty_append, Array.append_empty]
  exact hfn _ w
end

/-- A row of operations that this call owns; the lines of each lie in blocks of lines. -/
def OwnOps (B : Nat) (w : World) (v : Value) (l : List OC) : Prop := w.ownsRow B 50 29 v l.length (flatO l) ∧ ∀ x ∈ l, okO x.1 ∧ ClaimsT w x.1.lv x.2
theorem ClaimsT.typ {w w' : World} {v : Value} {l : List Claim} (h : ClaimsT w v l) (hs : ∀ (b : Nat) (cs : Array Value), w.heap[b]? = some (.cells cs 92 (0, 0)) → w'.heap[b]? = some (.cells cs 92 (0, 0))) : ClaimsT w' v l := by
  obtain ⟨⟨a, n, c, rfl, h1, h2, h3, h4, h5⟩, ht⟩ := h
  refine ⟨⟨a, n, c, rfl, h1, h2, h3, h4, ?_⟩, fun a n c e => by obtain ⟨cs, hc⟩ := ht a n c e; exact ⟨cs, hs _ _ hc⟩⟩
  cases a with
  | none => exact h5
  | some ad =>
    obtain ⟨cs, hc⟩ := ht ad n c rfl
    have e := (hs _ _ hc).trans hc.symm
    intro i x hx k hk
    rw [← h5 i x hx k hk]
    refine World.cell?_of_block ?_
    have hb : ((ad.add (i * 4)).add k).block = ad.block := by
      unfold Addr.add; split <;> split <;> rfl
    rw [hb]; exact e
theorem OwnOps.nil (B : Nat) (w : World) : OwnOps B w (.slice none 0 0) [] := ⟨⟨rfl, .inl ⟨rfl, rfl⟩⟩, by simp⟩
theorem OwnOps.form {B : Nat} {w : World} {v : Value} {l : List OC} (h : OwnOps B w v l) : ∃ p c, v = .slice p l.length c := by
  rcases h.1.2 with ⟨rfl, e⟩ | ⟨g', cap, cur, rfl, _⟩
  · exact ⟨none, 0, by rw [e]⟩
  · exact ⟨_, _, rfl⟩
theorem OwnOps.same {B : Nat} {w w' : World} {v : Value} {l : List OC} (h : OwnOps B w v l) (hs : ∀ (b : Nat) (cs : Array Value) t, t = 50 ∨ t = 92 → w.heap[b]? = some (.cells cs t (0, 0)) → w'.heap[b]? = some (.cells cs t (0, 0))) : OwnOps B w' v l := by
  refine ⟨⟨h.1.1, ?_⟩, fun x hx => ⟨(h.2 x hx).1, (h.2 x hx).2.typ (fun b cs hc => hs b cs _ (.inr rfl) hc)⟩⟩
  rcases h.1.2 with hn | ⟨g, cap, cur, hv, hbg, hg, rest⟩
  · exact .inl hn
  · exact .inr ⟨g, cap, cur, hv, hbg, hs g cur _ (.inl rfl) hg, rest⟩
theorem OwnOps.keep {B : Nat} {w w' : World} {v : Value} {l : List OC} (h : OwnOps B w v l) (hb : Below w.heap.size w w') : OwnOps B w' v l := h.same (fun b cs t _ hc => heap_keep hc hb)
theorem OwnOps.opsV {B : Nat} {w : World} {v : Value} {l : List OC} (h : OwnOps B w v l) : OpsV w v l := by
  have hall : ∀ x ∈ l, okO x.1 ∧ ClaimsV w x.1.lv x.2 := fun x hx => ⟨(h.2 x hx).1, (h.2 x hx).2.1⟩
  rcases h.1.2 with ⟨rfl, hn⟩ | ⟨g', cap, cur, rfl, hB, hgg, hc, hm, hs, ht⟩
  · obtain rfl : l = [] := List.length_eq_zero_iff.1 hn
    exact OpsV.nil w
  · refine ⟨_, _, _, rfl, rfl, hc, hm, hall, ?_⟩
    intro i x hx k hk
    have hi := (List.getElem?_eq_some_iff.1 hx).1
    have e1 : ((⟨g', 0, none⟩ : Addr).add (i * 29)).add k = ⟨g', i * 29 + k, none⟩ := by
      unfold Addr.add
      split <;> split <;> simp_all
    rw [e1, cell_of_heap hgg, ← flatO_get l i x hx k hk, ← ht, List.getElem?_take, if_pos (by omega)]
    simp
/-- Behind an append. -/
theorem OwnOps.push {B : Nat} {w w1 w2 : World} {v v2 : Value} {l : List OC} {x : OC} (h : OwnOps B w v l) (hb : Below w.heap.size w w1) (hgr : w1.grownBy w2 v.ownBlock) (ho : w2.ownsRow B 50 29 v2 (l.length + 1) (flatO l ++ (oc x.1).toList)) (hx : okO x.1) (hc : ClaimsT w x.1.lv x.2) : OwnOps B w2 v2 (l ++ [x]) := by
  have hne : ∀ (b : Nat) (cs : Array Value), w.heap[b]? = some (.cells cs 92 (0, 0)) → w2.heap[b]? = some (.cells cs 92 (0, 0)) := fun b cs hcs => by
    have hlt := lt_of_heap hcs
    refine (hgr.block b (Nat.lt_of_lt_of_le hlt hb.size) (fun e => ?_)).trans (heap_keep hcs hb)
    rcases h.1.2 with ⟨rfl, _⟩ | ⟨g', cap, cur, rfl, hB, hgg, _⟩
    · cases e
    · obtain rfl : b = g' := Option.some.inj e
      rw [hcs] at hgg
      cases hgg
  refine ⟨by rw [flatO_append, flatO_one, List.length_append]; exact ho, fun y hy => ?_⟩
  rcases List.mem_append.1 hy with hy | hy
  · exact ⟨(h.2 y hy).1, (h.2 y hy).2.typ hne⟩
  · rw [List.mem_singleton] at hy
    subst hy
    exact ⟨hx, hc.typ hne⟩
theorem infoOp : (Try.prog.info? 50).map (fun i => (i.zero, i.size, i.bytes)) = some (some (.agg (oc zeroO)), 29, 144) := by kernel_rfl
theorem one_op (o : OpM) (h : o.lv.oneCell' = true) : ∀ u ∈ (oc o).toList, u.oneCell' = true := fun u hu => by
  have := oneO o h
  rw [Array.all_eq_true_iff_forall_mem] at this
  exact this u (by simpa using hu)
theorem cells_newO (n : Nat) (W : World) (o : OpM) (hn : n = W.heap.size) : ∀ j z, (oc o).toList[j]? = some z → (W.alloc (.cells (oc o) 50)).cell? ((⟨n, 0, none⟩ : Addr).add j) = some z := by
  intro j z h
  subst hn
  rw [add8, cell_of_heap (heap_alloc_last' W (.cells (oc o) 50)), ← h, Array.getElem?_toList]
theorem fill_op (o : OpM) : Instr.fill (fun i => some (i * 29, 29)) ((Array.range (1 * 29)).map ((Value.agg (oc zeroO)).cells[· % (Value.agg (oc zeroO)).cells.size]!)) [(0, .agg (oc o))] = some (oc o) := by kernel_rfl
theorem build_op {ops : Array Oper} {rest : List Oper} {c : Oper} {a : Act} {w : World} {Q : Exit → Act → World → Prop} (hg : c.guard = none) (x : Operand) (ho : c.op = .buildSlice 25 1 #[(0, x)])
    (o : OpM) (hx : a.eval x = .agg (oc o)) (h : wpList Try.prog ops Q rest (a.put c.dst (.slice (some ⟨w.heap.size, 0, none⟩) 1 1)) (w.alloc (.cells (oc o) 50))) : wpList Try.prog ops Q (c :: rest) a w := by
  obtain ⟨i0, hi, hz0, hz1, hz2⟩ := info_parts infoOp
  refine wpList_buildSlice hg 25 50 1 _ ho (oc o) i0 _ Try.underlying25 hi hz0 (by rw [hz1]; omega) (by rw [hz1]; omega) ?_ h
  rw [hz1]
  simpa [hx] using fill_op o
end Go.Proofs.Ytagjgknkkbkjgaa.V
