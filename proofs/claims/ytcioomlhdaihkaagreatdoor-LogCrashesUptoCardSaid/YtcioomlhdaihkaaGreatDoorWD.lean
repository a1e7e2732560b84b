/-
  Logs: rows of strings that are somebody's own; a disk's strings.
-/
import Derived.Test.YtcioomlhdaihkaaGreatDoorWC
import Derived.Test.YtcioomlhdaihkaaGreatDoorKP
namespace Go.Proofs.YtcioomlhdaihkaaGreatDoor.L
set_option linter.unusedVariables false
set_option linter.unusedSimpArgs false
set_option maxRecDepth 100000
open Go Go.RowKit Go.Maps Go.MapKept Go.ChangeMaps Go.Shelf Wire
open K (Gh Ext Dom noX Jd Steady)

theorem strC_len (l : List Bs) : (Q.strCells l).length = l.length := by simp [Q.strCells]
theorem strC_app (l m : List Bs) : Q.strCells (l ++ m) = Q.strCells l ++ Q.strCells m := by simp [Q.strCells]
abbrev OwnS (B : Nat) (w : World) (v : Value) (l : List Bs) : Prop := w.ownsRow B 9 1 v l.length (Q.strCells l)

theorem sv_news {w : World} {a : Addr} {len cap : Nat} {l : List Bs} (h : Q.IsSV w (some a) len cap l) : ∀ (j : Nat) (u : Value), (Q.strCells l)[j]? = some u → w.cell? (a.add j) = some u := by
  intro j u hu
  simp only [Q.strCells, List.getElem?_map] at hu
  cases hx : l[j]? with
  | none => rw [hx] at hu; cases hu
  | some x =>
    rw [hx] at hu
    simp at hu
    subst hu
    obtain ⟨a', e, hc⟩ := h.hcell j x hx
    cases e
    exact hc
theorem strC_one (l : List Bs) : ∀ u ∈ Q.strCells l, u.oneCell' = true := by
  intro u hu
  simp only [Q.strCells, List.mem_map] at hu
  obtain ⟨x, _, rfl⟩ := hu
  rfl

/-- Strings are appended to a row of one's own: in place, or into a new block. -/
theorem strs_append {B : Nat} {w : World} {v : Value} {xs ys : List Bs} (hR : OwnS B w v xs) (hB : B ≤ w.heap.size) {ad : Option Addr} {len cap : Nat} (hI : Q.IsSV w ad len cap ys) (hx : xs.length ≤ 1000000) (hy : ys.length ≤ 1000000) :
    ∃ v' w', (Builtin.append_ #[36, 36] 36 #[v, .slice ad len cap]).run Tryz.prog w = .ok v' w' ∧ OwnS B w' v' (xs ++ ys) ∧ w.grownBy w' v.ownBlock ∧ (v'.ownBlock = none ∨ v'.ownBlock = v.ownBlock ∨ v'.ownBlock = some w.heap.size) ∧ (v'.ownBlock = some w.heap.size → w.heap.size < w'.heap.size) := by
  obtain ⟨i0, hi, hz0, hz1, hz2⟩ := info_parts Q.str_info
  cases ad with
  | none =>
    obtain ⟨h0, hc0⟩ := hI.hnil rfl
    subst h0
    subst hc0
    have hl := hI.hlen
    have : ys = [] := List.eq_nil_of_length_eq_zero hl
    subst this
    refine ⟨v, w, run_append_owned_none w B _ _ 9 i0 1 Tryz.underlying36 hi v _ _ hR, by simpa using hR, ⟨rfl, rfl, rfl, Nat.le_refl _, fun _ _ _ => rfl⟩, .inr (.inl rfl), fun e => ?_⟩
    rcases hR.2 with ⟨rfl, _⟩ | ⟨g, c, cur, rfl, _, hg, _⟩
    · cases e
    · simp [Value.ownBlock] at e
      have := (Array.getElem?_eq_some_iff.1 hg).1
      omega
  | some a =>
    have hl := hI.hlen
    have hle := hI.hle
    have hlm : len ≤ 1000000 := hl ▸ hy
    have hnews := sv_news hI
    obtain ⟨v', w', hr, hown, hgrow, hnil⟩ := run_append_own (P := Tryz.prog) w B 36 36 9 i0 _ 1 16 Tryz.underlying36 hi hz0 hz1 hz2 rfl (by decide) v xs.length (Q.strCells xs) hR a len cap (Q.strCells ys) (by rw [strC_len, hl, Nat.mul_one]) hnews (strC_one ys) (by unfold maxLen; omega) (by omega) hB
    refine ⟨v', w', hr, by unfold OwnS; rw [List.length_append, hl, strC_app]; exact hown, hgrow, ?_, fun e => ?_⟩
    · rcases hR.2 with ⟨rfl, hx0⟩ | ⟨g, c, cur, rfl, hbg, hg, hnc, hcm, hcs, ht⟩
      · by_cases h0 : len = 0
        · have := hnil.2 ⟨rfl, h0⟩
          rw [this]
          exact .inl rfl
        · have h2 := run_append_nil (P := Tryz.prog) w 36 36 9 i0 _ Tryz.underlying36 hi hz0 a len cap (Q.strCells ys) (by rw [strC_len, hl, hz1, Nat.mul_one]) hnews (by omega) (by omega) (by rw [hz2]; omega)
          rw [hr] at h2
          injection h2 with e1 _
          rw [e1]
          exact .inr (.inr rfl)
      · by_cases hroom : xs.length + len ≤ c
        · have h2 := run_append_room (P := Tryz.prog) w 36 36 9 i0 Tryz.underlying36 hi g xs.length c cur hg a len cap (Q.strCells ys) (by rw [strC_len, hl, hz1, Nat.mul_one]) hnews (strC_one ys) hroom (by rw [hz1, strC_len]; omega)
          rw [hr] at h2
          injection h2 with e1 _
          rw [e1]
          exact .inr (.inl rfl)
        · have holds : ∀ (j : Nat) (u : Value), (Q.strCells xs)[j]? = some u → w.cell? ((⟨g, 0, none⟩ : Addr).add j) = some u := fun j u hu => hR.cells (g := g) rfl j u hu
          have h2 := run_append_grow (P := Tryz.prog) w 36 36 9 i0 _ Tryz.underlying36 hi hz0 ⟨g, 0, none⟩ xs.length c (Q.strCells xs) (by rw [strC_len, hz1, Nat.mul_one]) holds a len cap (Q.strCells ys) (by rw [strC_len, hl, hz1, Nat.mul_one]) hnews (by omega) (by omega)
            (by rw [hz2]; have := nextslicecap_le (Nat.lt_of_not_le hroom); omega)
          rw [hr] at h2
          injection h2 with e1 _
          rw [e1]
          exact .inr (.inr rfl)
    · rcases hown.2 with ⟨rfl, _⟩ | ⟨g, c, cur, rfl, _, hg, _⟩
      · cases e
      · simp [Value.ownBlock] at e
        have := (Array.getElem?_eq_some_iff.1 hg).1
        omega

/-- What one's own row does, as others see it. -/
theorem ext_grown {T : Nat → Prop} {t : Nat} {A A' : Gh} {w w' : World} {r : Option Nat} (hg : w.grownBy w' r) (hT : T t) (hr : ∀ g, r = some g → A g = .own t 0) (hA : ∀ b, b < w.heap.size → A' b = A b) (hd : Dom A w → Dom A' w') : Ext T noX A w A' w' := by
  refine ⟨hg.os, hg.tape, hg.output, hg.size, fun b hb _ hn => hg.block b hb (fun e => hn t 0 (hr b e.symm) hT), fun b hb _ => hA b hb, fun b t' n hb hAb hT' => ⟨n, Nat.le_refl _, (hA b hb).trans hAb, fun i hi => ?_⟩, hd⟩
  by_cases e : some b = r
  · have := hr b e.symm
    rw [hAb] at this
    cases this
    exact absurd hi (Nat.not_lt_zero _)
  · exact World.cell?_of_block (a := ⟨b, i, none⟩) (hg.block b hb e)
theorem dom_grown {A : Gh} {w w' : World} {t : Nat} (hs : w.heap.size ≤ w'.heap.size) (h : Dom A w) : Dom A w' :=
  ⟨fun b hb => Nat.lt_of_lt_of_le (h.1 b hb) hs, fun b t g e => by have := h.2 b t g e; omega⟩
theorem dom_new {A : Gh} {w w' : World} {t g : Nat} (hs : w.heap.size ≤ w'.heap.size) (hg : g < w'.heap.size) (ht : t < 2 * w'.heap.size) (h : Dom A w) : Dom (K.setG A g (.own t 0)) w' := by
  refine ⟨fun b hb => ?_, fun b t' n e => ?_⟩
  · by_cases e : b = g
    · omega
    · rw [K.setG_other A _ e] at hb
      exact Nat.lt_of_lt_of_le (h.1 b hb) hs
  · by_cases e2 : b = g
    · subst e2
      rw [K.setG_same] at e
      cases e
      exact ht
    · rw [K.setG_other A _ e2] at e
      have := h.2 b t' n e
      omega
/-- The row, and whose it is. -/
def RowG (t : Nat) (A : Gh) (w : World) (v : Value) (l : List Bs) : Prop := OwnS 0 w v l ∧ ∀ g, v.ownBlock = some g → A g = .own t 0
theorem row_append {T : Nat → Prop} {t : Nat} {A : Gh} {w : World} {v : Value} {xs ys : List Bs} (hT : T t) (hR : RowG t A w v xs) (ht : t < 2 * w.heap.size) {ad : Option Addr} {len cap : Nat} (hI : Q.IsSV w ad len cap ys) (hx : xs.length ≤ 1000000) (hy : ys.length ≤ 1000000) :
    ∃ v' w' A', (Builtin.append_ #[36, 36] 36 #[v, .slice ad len cap]).run Tryz.prog w = .ok v' w' ∧ RowG t A' w' v' (xs ++ ys) ∧ Ext T noX A w A' w' ∧ (∀ b, b < w.heap.size → A' b = A b) ∧ w.grownBy w' v.ownBlock ∧ (∃ p c, v' = .slice p (xs ++ ys).length c) := by
  obtain ⟨v', w', hr, hown, hg, hb, hlt⟩ := strs_append hR.1 (Nat.zero_le _) hI hx hy
  have hf : ∃ p c, v' = .slice p (xs ++ ys).length c := Q.out_form hown
  rcases hb with hb | hb | hb
  · refine ⟨v', w', A, hr, ⟨hown, fun g e => by rw [hb] at e; cases e⟩, ext_grown hg hT hR.2 (fun _ _ => rfl) (dom_grown (t := t) hg.size), fun _ _ => rfl, hg, hf⟩
  · refine ⟨v', w', A, hr, ⟨hown, fun g e => hR.2 g (hb ▸ e)⟩, ext_grown hg hT hR.2 (fun _ _ => rfl) (dom_grown (t := t) hg.size), fun _ _ => rfl, hg, hf⟩
  · refine ⟨v', w', K.setG A w.heap.size (.own t 0), hr, ⟨hown, fun g e => ?_⟩, ext_grown hg hT hR.2 (fun b hb => K.setG_other A _ (by omega)) (dom_new hg.size (hlt hb) (by have := hg.size; omega)), fun b hb => K.setG_other A _ (by omega), hg, hf⟩
    rw [hb] at e
    cases e
    exact K.setG_same ..
theorem RowG.ext {T X : Nat → Prop} {A B : Gh} {w w' : World} {t : Nat} {v : Value} {l : List Bs} (h : Ext T X A w B w') (hT : ¬ T t) (hX : ∀ i, X i → A i = .free) (hR : RowG t A w v l) : RowG t B w' v l := by
  have key : ∀ g, v.ownBlock = some g → g < w.heap.size → w'.heap[g]? = w.heap[g]? ∧ B g = .own t 0 := fun g e hg => by
    have hn : ∀ t' n, A g = .own t' n → ¬ T t' := fun t' n e' => by rw [hR.2 g e] at e'; cases e'; exact hT
    exact ⟨h.keep g hg (fun hx => by have := hX g hx; rw [hR.2 g e] at this; cases this) hn, (h.gh g hg hn).trans (hR.2 g e)⟩
  have hlt : ∀ g, v.ownBlock = some g → g < w.heap.size := fun g e => by
    rcases hR.1.2 with ⟨rfl, _⟩ | ⟨g', c, cur, rfl, _, hg, _⟩
    · cases e
    · simp [Value.ownBlock] at e
      subst e
      exact (Array.getElem?_eq_some_iff.1 hg).1
  refine ⟨⟨hR.1.1, ?_⟩, fun g e => (key g e (hlt g e)).2⟩
  rcases hR.1.2 with hn | ⟨g, c, cur, rfl, hb, hg, rest⟩
  · exact .inl hn
  · exact .inr ⟨g, c, cur, rfl, hb, (key g rfl (hlt g rfl)).1.trans hg, rest⟩
end Go.Proofs.YtcioomlhdaihkaaGreatDoor.L

namespace Go.Proofs.YtcioomlhdaihkaaGreatDoor.L
set_option linter.unusedVariables false
set_option linter.unusedSimpArgs false
set_option maxRecDepth 100000
open Go Go.RowKit Go.Maps Go.MapKept Go.ChangeMaps Go.Shelf Wire
open K (Gh Ext Dom noX Jd Steady)
attribute [local go_sem] Oper.semAt_some
attribute [-go_sem] Go.Builtin.append_

/-- One segment more: the strings so far, and whether heads fit. -/
def stp (st : List Bs × Bool) (u : SgT) : List Bs × Bool :=
  if u.1 then (u.2.2, true) else if st.2 && decide (u.2.1 = st.1.length) then (st.1 ++ u.2.2, true) else (st.1, false)
def foldT (us : List SgT) : List Bs × Bool := us.foldl stp ([], true)
theorem foldT_snoc (us : List SgT) (u : SgT) : foldT (us ++ [u]) = stp (foldT us) u := by simp [foldT]
theorem foldT_take {us : List SgT} {k : Nat} {u : SgT} (h : us[k]? = some u) : foldT (us.take (k + 1)) = stp (foldT (us.take k)) u := by
  rw [List.take_add_one, h]; exact foldT_snoc _ _
def tots (us : List SgT) : Nat := (us.map (fun u => u.2.2.length)).sum
theorem tots_snoc (us : List SgT) (u : SgT) : tots (us ++ [u]) = tots us + u.2.2.length := by simp [tots]
theorem foldT_len (us : List SgT) : (foldT us).1.length ≤ tots us := by
  have key : ∀ (us : List SgT) (st : List Bs × Bool), (us.foldl stp st).1.length ≤ st.1.length + tots us := by
    intro us
    induction us with
    | nil => intro st; simp [tots]
    | cons u r ih =>
      intro st
      have h1 := ih (stp st u)
      have h2 : (stp st u).1.length ≤ st.1.length + u.2.2.length := by
        unfold stp
        split
        · simp
        · split <;> simp
      have h3 : tots (u :: r) = u.2.2.length + tots r := by simp [tots]
      show (List.foldl stp (stp st u) r).1.length ≤ _
      omega
  have := key us ([], true)
  simpa [foldT] using this
theorem tots_take (us : List SgT) (k : Nat) : tots (us.take k) ≤ tots us := by
  have h : tots us = tots (us.take k) + tots (us.drop k) := by
    conv => lhs; rw [← List.take_append_drop k us]
    simp only [tots, List.map_append, List.sum_append]
  omega
theorem tots_at {us : List SgT} {k : Nat} {u : SgT} (h : us[k]? = some u) : tots (us.take k) + u.2.2.length ≤ tots us := by
  have h1 : us.take (k + 1) = us.take k ++ [u] := by rw [List.take_add_one, h]; rfl
  have h2 := tots_take us (k + 1)
  rw [h1, tots_snoc] at h2
  exact h2

/-- What the loop keeps: the strings so far, and whether heads fit. -/
def TxF (t b3 b4 : Nat) (st : List Bs × Bool) (A : Gh) (W : World) : Prop :=
  ∃ v, W.heap[b3]? = some (.cells #[v] 36 (0, 0)) ∧ A b3 = .own t 0 ∧ W.heap[b4]? = some (.cells #[.bool st.2] 4 (0, 0)) ∧ A b4 = .own t 0 ∧ RowG t A W v st.1
def TxI (t b3 b4 : Nat) (us : List SgT) (k : Nat) (A : Gh) (W : World) : Prop := TxF t b3 b4 (foldT (us.take k)) A W

theorem TxI.abides {t b3 b4 : Nat} {us : List SgT} {n : Nat} {k : Nat} {A : Gh} {W W' : World} (h : TxI t b3 b4 us k A W) (hs : Steady n A W W') : TxI t b3 b4 us k A W' := by
  obtain ⟨v, h1, h2, h3, h4, h5, h6⟩ := h
  refine ⟨v, hs.same _ _ h1 (.inr (.inl rfl)), h2, hs.same _ _ h3 (.inr (.inl rfl)), h4, ⟨h5.1, ?_⟩, h6⟩
  rcases h5.2 with hn | ⟨g, c, cur, rfl, hb, hg, rest⟩
  · exact .inl hn
  · exact .inr ⟨g, c, cur, rfl, hb, hs.same _ _ hg (.inr (.inl rfl)), rest⟩
theorem box_cell {W : World} {b : Nat} {v : Value} {t : TypeId} (h : W.heap[b]? = some (.cells #[v] t (0, 0))) : W.cell? ⟨b, 0, none⟩ = some v ∧ W.frozen? ⟨b, 0, none⟩ = false :=
  ⟨(K.cell_row h 0).trans rfl, by simp [World.frozen?, h]⟩

theorem own_ne {w : World} {v : Value} {l : List Bs} {B b : Nat} {cs : Array Value} {ty : TypeId} {fr : Nat × Nat} (h : OwnS B w v l) (hb : w.heap[b]? = some (.cells cs ty fr)) (hty : ty ≠ 9) : v.ownBlock ≠ some b := by
  intro e
  rcases h.2 with ⟨rfl, _⟩ | ⟨g, c, cur, rfl, _, hg, _⟩
  · cases e
  · simp [Value.ownBlock] at e
    subst e
    rw [hg] at hb
    have := Option.some.inj hb
    injection this with _ ht _
    exact hty ht.symm
/-- A box of one's own is written: the row stays. -/
theorem row_set {t : Nat} {A : Gh} {w : World} {v x : Value} {l : List Bs} {b : Nat} {cs : Array Value} {ty : TypeId} {fr : Nat × Nat} (h : RowG t A w v l) (hb : w.heap[b]? = some (.cells cs ty fr)) (hty : ty ≠ 9) : RowG t A (w.setCell ⟨b, 0, none⟩ x) v l :=
  ⟨h.1.kept (grownBy_setCell' w b x) (.inr (own_ne h.1 hb hty)), h.2⟩
theorem sv_set {A : Gh} {w : World} {x : Value} {ad : Option Addr} {len cap : Nat} {l : List Bs} (h : Q.IsSV w ad len cap l) (hf : ∀ a, ad = some a → A a.block = .free) {b t : Nat} (hb : A b = .own t 0) : Q.IsSV (w.setCell ⟨b, 0, none⟩ x) ad len cap l :=
  sv_same h (fun a ha => Below.heap_setCell _ _ _ _ (fun e => by have := hf a ha; rw [e] at this; rw [this] at hb; cases hb))
theorem tx_append {T : Nat → Prop} {t b3 b4 : Nat} {A : Gh} {W : World} {v : Value} {L : List Bs} {f : Bool} (hT : T t) (hd : Dom A W)
    (h3 : W.heap[b3]? = some (.cells #[v] 36 (0, 0))) (hA3 : A b3 = .own t 0) (h4 : W.heap[b4]? = some (.cells #[.bool f] 4 (0, 0))) (hA4 : A b4 = .own t 0) (hR : RowG t A W v L)
    {ad : Option Addr} {len cap : Nat} {st : List Bs} (hI : Q.IsSV W ad len cap st) (hx : L.length ≤ 1000000) (hy : st.length ≤ 1000000) :
    ∃ v' w' A', (Builtin.append_ #[36, 36] 36 #[v, .slice ad len cap]).run Tryz.prog W = .ok v' w' ∧ w'.cell? ⟨b3, 0, none⟩ = some v ∧ w'.frozen? ⟨b3, 0, none⟩ = false ∧ (∃ p n c, v' = .slice p n c) ∧
      Ext T noX A W A' (w'.setCell ⟨b3, 0, none⟩ v') ∧ TxF t b3 b4 (L ++ st, f) A' (w'.setCell ⟨b3, 0, none⟩ v') := by
  have hl3 := (Array.getElem?_eq_some_iff.1 h3).1
  have hl4 := (Array.getElem?_eq_some_iff.1 h4).1
  have ht : t < 2 * W.heap.size := hd.2 b3 t 0 hA3
  obtain ⟨v', w', A', hr, hR', hE, hA, hg, hf⟩ := row_append hT hR ht hI hx hy
  have e3 : w'.heap[b3]? = some (.cells #[v] 36 (0, 0)) := (hg.block b3 hl3 (fun e => own_ne hR.1 h3 (by decide) e.symm)).trans h3
  have e4 : w'.heap[b4]? = some (.cells #[.bool f] 4 (0, 0)) := (hg.block b4 hl4 (fun e => own_ne hR.1 h4 (by decide) e.symm)).trans h4
  have hA3' : A' b3 = .own t 0 := (hA b3 hl3).trans hA3
  have hne : b4 ≠ b3 := fun e => by
    rw [e, h3] at h4
    have := Option.some.inj h4
    injection this with _ ht _
    exact absurd ht (by decide)
  obtain ⟨c3, z3⟩ := box_cell e3
  refine ⟨v', w', A', hr, c3, z3, (by obtain ⟨p, c, e⟩ := hf; exact ⟨p, _, c, e⟩), hE.trans (K.Ext.box hA3' hT (Array.getElem?_eq_some_iff.1 e3).1 v'), v', K.heap_set1 e3 v', hA3', (Below.heap_setCell _ _ _ _ hne).trans e4, (hA b4 hl4).trans hA4, row_set hR' e3 (by decide)⟩

/-- The act in which the body begins. -/
def TxA (p n : Nat) (x : Value) (q : Nat) : Act := { tmps := #[.pointer (some ⟨p, 0, none⟩), undef, .slice none 0 0, .pointer (some ⟨n, 0, none⟩), .pointer (some ⟨n + 1, 0, none⟩), .pointer (some ⟨q, 0, none⟩), .pointer (some ⟨p, 0, none⟩), .func (.func 68) #[] #[.pointer (some ⟨n + 1 + 1, 0, none⟩)], x, undef, undef, undef, undef, undef, undef, undef, undef, undef, undef, undef, undef, undef, undef, undef], defers := [] }
def TxR (p n : Nat) (x : Value) (a : Act) (W : World) : Prop := ∃ q y0 y1 y2, x = .agg #[y0, y1, y2] ∧ a = TxA p n x q ∧ W.heap[q]? = some (.cells #[y0, y1, y2] 78 (0, 0))

set_option maxHeartbeats 4000000 in
theorem log_textsOf {w0 w : World} {p : Nat} {s : K.St} {ds : List (Nat × K.St)} {bs : List (Nat × Obj)} (hS : K.Sys w0 w ((p, s) :: ds) bs) (hlim : s.lim ≤ 549755813888) {ks : List Nat} {dr : Bool} (hk : NamesOk s.seen ks dr) {os : List (Option SgT)} (hos : SegsOk s.seen ks os) (hbig : tots (items os) ≤ 500000) (htab : Tab w) :
    Calls Tryz.prog 23 #[.pointer (some ⟨p, 0, none⟩)] w fun e w' => ∃ v, e = .returned v ∧ OwnS w.heap.size w' v (foldT (items os)).1 ∧ Below w.heap.size w w' := by
  refine (callsIn_wide (n := 2)).1 ?_
  refine callsIn_of_wp_marks Tryz.func23 rfl trivial ?_ rfl
  simp only [Tryz.ntmps23, List.size_toArray, List.length_cons, List.length_nil, Nat.reduceAdd, Nat.reduceSub, Array.replicate_succ, Array.replicate_zero, List.push_toArray, List.append_toArray, List.nil_append, List.cons_append]
  have hsg := fun W => log_segments p W
  gi_wp2_with (refine ⟨trivial, (callsIn_wide.2 (hsg _)).mono ?_⟩; rintro e w' ⟨rfl, rfl⟩)
  obtain ⟨W0, hW0⟩ : ∃ W0, (((w.alloc (.cells #[.slice none 0 0] 36)).alloc (.cells #[.bool true] 4)).alloc (.cells #[.pointer (some ⟨p, 0, none⟩)] 27)) = W0 := ⟨_, rfl⟩
  have hsz : W0.heap.size = w.heap.size + 3 := by rw [← hW0]; simp
  have hB0 : Below w.heap.size w W0 := by rw [← hW0]; exact (((Below.refl _ w).alloc (Nat.le_refl _) _).alloc (by simp) _).alloc (by simp; omega) _
  have hb3 : W0.heap[w.heap.size]? = some (.cells #[.slice none 0 0] 36 (0, 0)) := by
    rw [← hW0, Below.heap_alloc _ _ _ (by simp; omega), Below.heap_alloc _ _ _ (by simp)]; exact heap_alloc_last w _
  have hb4 : W0.heap[w.heap.size + 1]? = some (.cells #[.bool true] 4 (0, 0)) := by
    rw [← hW0, Below.heap_alloc _ _ _ (by simp)]
    have := heap_alloc_last (w.alloc (.cells #[.slice none 0 0] 36)) (.cells #[.bool true] 4)
    rwa [World.size_alloc] at this
  have hb5 : W0.heap[w.heap.size + 1 + 1]? = some (.cells #[.pointer (some ⟨p, 0, none⟩)] 27 (0, 0)) := by
    rw [← hW0]
    have := heap_alloc_last ((w.alloc (.cells #[.slice none 0 0] 36)).alloc (.cells #[.bool true] 4)) (.cells #[.pointer (some ⟨p, 0, none⟩)] 27)
    rwa [World.size_alloc, World.size_alloc] at this
  rw [hW0]
  clear hW0 hsg
  obtain ⟨t, ht⟩ : ∃ t, t = 2 * w.heap.size := ⟨_, rfl⟩
  obtain ⟨A1, hA1⟩ : ∃ A1 : Gh, A1 = K.setG (K.setG (fun _ => .free) w.heap.size (.own t 0)) (w.heap.size + 1) (.own t 0) := ⟨_, rfl⟩
  have hA3 : A1 w.heap.size = .own t 0 := by rw [hA1, K.setG_other _ _ (by omega), K.setG_same]
  have hA4 : A1 (w.heap.size + 1) = .own t 0 := by rw [hA1, K.setG_same]
  have hAo : ∀ b, b ≠ w.heap.size → b ≠ w.heap.size + 1 → A1 b = .free := fun b h1 h2 => by rw [hA1, K.setG_other _ _ h2, K.setG_other _ _ h1]
  have hd1 : Dom A1 W0 := by
    refine ⟨fun b hb => ?_, fun b t' g e => ?_⟩
    · by_cases h1 : b = w.heap.size
      · omega
      · by_cases h2 : b = w.heap.size + 1
        · omega
        · exact absurd (hAo b h1 h2) hb
    · by_cases h1 : b = w.heap.size
      · subst h1; rw [hA3] at e; cases e; omega
      · by_cases h2 : b = w.heap.size + 1
        · subst h2; rw [hA4] at e; cases e; omega
        · rw [hAo b h1 h2] at e; cases e
  have hseq := segs_seq (w := W0) w.heap.size (by omega) (fun V hV => hS.below (hB0.trans hV)) hlim hk hos (fun V hV => htab.below (hB0.trans hV)) (· = t) A1 (fun b hb => hAo b (by omega) (by omega)) (w.heap.size + 1 + 1) hb5 (hAo _ (by omega) (by omega))
  have HBIG := hid hbig
  have HB0 := hid hB0
  clear hk hos hlim hS htab hbig
  generalize hus : items os = us at *
  refine wp_rangeX (T := (· = t)) (X := noX) (n := 2) (A0 := A1) (w0 := W0) (A := A1) (by omega) (fun hE hY hs => hs.ext hE hY) rfl hseq (Ext.refl _ _ _ _) hd1 (fun _ h => h.elim)
    (fun k A' W => TxI t w.heap.size (w.heap.size + 1) us k A' W) (fun _ A' W => False) (fun k A' W W' h hs => h.abides hs) (fun k A' W W' h hs => h) ?_
    (TxR p w.heap.size) (fun n0 A' x a2 W W' h hs => by obtain ⟨q, y0, y1, y2, h1, h2, h3⟩ := h; exact ⟨q, y0, y1, y2, h1, h2, hs.same _ _ h3 (.inr (.inl rfl))⟩) ?_ ?_ ?_ ?_
  · exact ⟨_, hb3, hA3, hb4, hA4, World.ownsRow_nil _ _ _ _, fun g e => by cases e⟩
  · rintro l x u A' W K ⟨ad, len, cap, rfl, _, _⟩ hK
    unfold segV
    gi_wp2
    refine hK _ _ ((Below.refl _ W).alloc (Nat.le_refl _) _) ⟨W.heap.size, _, _, _, rfl, rfl, heap_alloc_last W _⟩
  · rintro l k x u A' W a2 hu hI hE hdA ⟨ad, len, cap, hx, hsv, hfree⟩ ⟨q, y0, y1, y2, hx2, rfl, hq⟩ hl
    subst hx
    unfold segV at hx2
    injection hx2 with hx2
    injection hx2 with hx2
    injection hx2 with e0 hx2
    injection hx2 with e1 hx2
    injection hx2 with e2 _
    subst e0 e1 e2
    obtain ⟨v, i1, i2, i3, i4, i5⟩ := hI
    have hst := foldT_take hu
    have hlen1 := foldT_len (us.take k)
    have hlen2 := tots_at hu
    have hlen3 := HBIG.out
    obtain ⟨sb, sn, st⟩ := u
    simp only at hsv hlen2 hq hst ⊢
    generalize foldT (us.take k) = fs at *
    obtain ⟨L, fits⟩ := fs
    simp only at *
    obtain ⟨vp, vc, rfl⟩ := Q.out_form i5.1
    have hlt3 := (Array.getElem?_eq_some_iff.1 i1).1
    have hlt4 := (Array.getElem?_eq_some_iff.1 i3).1
    have htW : t < 2 * W.heap.size := by omega
    obtain ⟨⟨k0, k1, k2⟩, f0, f1, f2⟩ := three hq
    obtain ⟨c3, z3⟩ := box_cell i1
    obtain ⟨c4, z4⟩ := box_cell i3
    have hfr : ∀ a, ad = some a → A' a.block = .free := fun a ha => (hfree a ha).1
    have HQ := hid hq
    have HST := hid hst
    unfold TxA segV
    show Code.wpIn _ _ _ _ _ _ _
    cases sb with
    | true =>
      have hkb : ((ba (kindB true)).toList == [83, 58]) = true := by rw [Lib.toList_data, ba_list]; decide
      have hkb2 : ((ba (kindB true)).toList == (ByteArray.mk #[83, 58]).toList) = true := by rw [show ByteArray.mk #[83, 58] = ba [83, 58] from rfl, Q.beq_ba]; decide
      have hE1 : Ext (· = t) noX A' W A' (W.setCell ⟨w.heap.size, 0, none⟩ (.slice none 0 0)) := K.Ext.box (T := (· = t)) i2 rfl hlt3 _
      have j3 := K.heap_set1 i1 (.slice none 0 0)
      have j4 : (W.setCell ⟨w.heap.size, 0, none⟩ (.slice none 0 0)).heap[w.heap.size + 1]? = some (.cells #[.bool fits] 4 (0, 0)) := (Below.heap_setCell _ _ _ _ (by simp)).trans i3
      have hE2 := hE1.trans (K.Ext.box (T := (· = t)) (X := noX) i4 rfl (Array.getElem?_eq_some_iff.1 j4).1 (.bool true))
      have m3 : ((W.setCell ⟨w.heap.size, 0, none⟩ (.slice none 0 0)).setCell ⟨w.heap.size + 1, 0, none⟩ (.bool true)).heap[w.heap.size]? = some (.cells #[.slice none 0 0] 36 (0, 0)) := (Below.heap_setCell _ _ _ _ (by simp)).trans j3
      have m4 := K.heap_set1 j4 (.bool true)
      obtain ⟨v', w', A2, hrun, c3', z3', ⟨vp', vn', vc', rfl⟩, hE3, hF⟩ := tx_append (T := (· = t)) (L := []) rfl (hE2.dom hdA) m3 i2 m4 i4 ⟨World.ownsRow_nil _ _ _ _, fun g e => by cases e⟩ (sv_set (sv_set hsv hfr i2) hfr i4) (by simp) (by omega)
      have HE2 := hid hE2
      have HE3 := hid hE3
      have HF := hid hF
      clear hE1 j3 j4 m3 m4 hE2 hE3 hF hst
      gi_wp2
      refine ⟨A2, HE2.out.trans HE3.out, ?_⟩
      have hs2 : stp (L, fits) (true, sn, st) = (st, true) := by simp [stp]
      show TxF t _ _ (foldT (us.take (k + 1))) _ _
      rw [HST.out, hs2]
      exact HF.out
    | false =>
      have hkb : ((ba (kindB false)).toList == [83, 58]) = false := by rw [Lib.toList_data, ba_list]; decide
      have hkb2 : ((ba (kindB false)).toList == (ByteArray.mk #[83, 58]).toList) = false := by rw [show ByteArray.mk #[83, 58] = ba [83, 58] from rfl, Q.beq_ba]; decide
      have hwl : IntKind.u64.wrap ((L.length : Nat) : Int) = (L.length : Int) := by rw [IntKind.wrap_u64]; omega
      by_cases hn : sn = L.length
      · have hq1 : ((sn : Int) == (L.length : Int)) = true := by simp [hn]
        have hq2 : ((sn : Int) != (L.length : Int)) = false := by simp [hn]
        cases fits with
        | true =>
          obtain ⟨v', w', A2, hrun, c3', z3', ⟨vp', vn', vc', rfl⟩, hE3, hF⟩ := tx_append (T := (· = t)) rfl hdA i1 i2 i3 i4 i5 hsv (by omega) (by omega)
          have HE3 := hid hE3
          have HF := hid hF
          have hs2 : stp (L, true) (false, sn, st) = (L ++ st, true) := by simp [stp, hn]
          have HS2 := hid hs2
          clear hE3 hF hst hs2 hn
          gi_wp2
          refine ⟨A2, HE3.out, ?_⟩
          show TxF t _ _ (foldT (us.take (k + 1))) _ _
          rw [HST.out, HS2.out]
          exact HF.out
        | false =>
          have hs2 : stp (L, false) (false, sn, st) = (L, false) := by simp [stp]
          have HS2 := hid hs2
          have HF := hid (show TxF t w.heap.size (w.heap.size + 1) (L, false) A' W from ⟨_, i1, i2, i3, i4, i5⟩)
          clear hst hs2 hn
          gi_wp2
          refine ⟨A', Ext.refl _ _ _ _, ?_⟩
          show TxF t _ _ (foldT (us.take (k + 1))) _ _
          rw [HST.out, HS2.out]
          exact HF.out
      · have hq1 : ((sn : Int) == (L.length : Int)) = false := by simp; omega
        have hq2 : ((sn : Int) != (L.length : Int)) = true := by simp; omega
        have hs2 : stp (L, fits) (false, sn, st) = (L, false) := by simp [stp, hn]
        have HS2 := hid hs2
        have HE := hid (K.Ext.box (T := (· = t)) (X := noX) i4 rfl hlt4 (.bool false))
        have HF := hid (show TxF t w.heap.size (w.heap.size + 1) (L, false) A' (W.setCell ⟨w.heap.size + 1, 0, none⟩ (.bool false)) from ⟨_, (Below.heap_setCell _ _ _ _ (by simp)).trans i1, i2, K.heap_set1 i3 _, i4, row_set i5 i3 (by decide)⟩)
        clear hst hs2 hn
        gi_wp2
        refine ⟨A', HE.out, ?_⟩
        show TxF t _ _ (foldT (us.take (k + 1))) _ _
        rw [HST.out, HS2.out]
        exact HF.out
  · rintro D A' W hD ⟨v, i1, i2, i3, i4, i5⟩ hE hfr hK
    rw [List.take_length] at i5
    obtain ⟨c3, z3⟩ := box_cell i1
    have hlow : ∀ g, v.ownBlock = some g → w.heap.size ≤ g := fun g e => by
      rcases Nat.lt_or_ge g w.heap.size with h | h
      · have h1 := hAo g (by omega) (by omega)
        have h2 := (hE.gh g (by omega) (fun t' n e' => by rw [h1] at e'; cases e')).trans h1
        have h3 := i5.2 g e
        rw [h2] at h3
        cases h3
      · exact h
    have hBW : Below w.heap.size w W := HB0.out.trans (hE.below (by omega) (fun b hb t' g e => by rw [hAo b (by omega) (by omega)] at e; cases e))
    have hfin : OwnS w.heap.size (W.putObj D (.deferred none)) v (foldT us).1 := by
      refine ⟨i5.1.1, ?_⟩
      rcases i5.1.2 with hn | ⟨g, c, cur, rfl, hb, hg, rest⟩
      · exact .inl hn
      · refine .inr ⟨g, c, cur, rfl, hlow g rfl, (World.putObj_heap_other (fun e => ?_)).trans hg, rest⟩
        rw [e, hK] at hg
        cases hg
    have hBF : Below w.heap.size w (W.putObj D (.deferred none)) := ⟨hBW.os, hBW.tape, hBW.output, by simp [World.putObj]; exact hBW.size, fun b hb => (World.putObj_heap_other (by omega)).trans (hBW.block b hb)⟩
    have HFIN := hid hfin
    have HBF := hid hBF
    clear hfin hBF hBW hlow i5
    gi_wp2
    refine ⟨by simp, .inl ⟨_, _, rfl, run_takeDeferred hK, ?_⟩⟩
    refine ⟨_, results_tmp rfl _ _ _, v, rfl, ?_, HBF.out⟩
    rw [hus]
    exact HFIN.out
  · rintro D k A' W hD hk h
    exact h.elim
end Go.Proofs.YtcioomlhdaihkaaGreatDoor.L
