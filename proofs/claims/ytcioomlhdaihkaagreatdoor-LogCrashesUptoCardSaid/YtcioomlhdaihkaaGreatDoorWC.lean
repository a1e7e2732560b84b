/-
  Logs: functions that are ranged over, whatever they hand on: the law of the loop.
-/
import Derived.Test.YtcioomlhdaihkaaGreatDoorWB
import Derived.Test.YtcioomlhdaihkaaGreatDoorWK2
namespace Go.Proofs.YtcioomlhdaihkaaGreatDoor.L
set_option linter.unusedVariables false
set_option linter.unusedSimpArgs false
set_option maxRecDepth 100000
open Go Go.RowKit Go.Maps Go.MapKept Go.ChangeMaps Go.Shelf
open K (Gh Ext Dom noX Jd Steady)
attribute [local go_sem] Oper.semAt_some

abbrev YX {σ : Type} (At : Gh → World → Value → σ → Prop) (T X : Nat → Prop) (us : List σ) (l : Nat) (J Jx : Jd) (A : Gh) (W : World) : Prop :=
  ∀ k x u A1 W1, us[k]? = some u → J k A1 W1 → Ext T noX A W A1 W1 → At A1 W1 x u → YieldAt Fence.wide 0 Tryz.prog l #[x] W1 fun e W' => ∃ A',
    (e = .returned (.bool true) ∧ Ext T noX A1 W1 A' W' ∧ J (k + 1) A' W') ∨ (e = .returned (.bool false) ∧ Ext T X A1 W1 A' W' ∧ Jx (k + 1) A' W')
def EndX {σ : Type} (T X : Nat → Prop) (us : List σ) (l : Nat) (J Jx : Jd) (A : Gh) (W : World) (e : Ending) (W' : World) : Prop :=
  (∃ v, e = .returned v) ∧ ∃ A', (J us.length A' W' ∧ Ext T noX A W A' W') ∨ ∃ k, k ≤ us.length ∧ Jx k A' W' ∧ Ext T X A W A' W'
/-- Ranged over, a function value hands on values of these, one after the other, until it is told that there is no more wanted. -/
def SeqX {σ : Type} (At : Gh → World → Value → σ → Prop) (T : Nat → Prop) (A0 : Gh) (w0 : World) (v : Value) (us : List σ) : Prop :=
  ∃ g lb, v = .func (.func g) #[] lb ∧ (∀ (args : Array Value) (w : World), (callFunc g args).run Tryz.prog w = .ok (.enter g args) w) ∧
  ∀ (X : Nat → Prop) (l : Nat) (J Jx : Jd) (A : Gh) (W : World), Ext T noX A0 w0 A W → Dom A W → K.Abides W.heap.size J → K.Abides W.heap.size Jx → (∀ b, X b → A b = .free ∧ b < W.heap.size) →
    YX At T X us l J Jx A W → J 0 A W → Calls Tryz.prog g (#[.func (.yield l) #[] #[]] ++ lb) W (EndX T X us l J Jx A W)

theorem wp_rangeX {σ : Type} {At : Gh → World → Value → σ → Prop} {T X : Nat → Prop} {n : Nat} {g : Operand} {s : Tmp} {assign body : Code} {Q : Exit → Act → World → Prop} {a : Act} {A0 A : Gh} {w0 w : World} {us : List σ} {v0 : Value} (h1 : 1 ≤ n) (hAt : ∀ {Y : Nat → Prop} {A B : Gh} {w w' : World} {x : Value} {u : σ}, Ext T Y A w B w' → (∀ b, (∃ c t f, w.heap[b]? = some (.cells c t f)) → ¬ Y b) → At A w x u → At B w' x u)
    (hg : a.eval g = v0) (hseq : SeqX At T A0 w0 v0 us) (hE0 : Ext T noX A0 w0 A w) (hd : Dom A w) (hX : ∀ b, X b → A b = .free ∧ b < w.heap.size)
    (I Ix : Jd) (hI : K.Abides w.heap.size I) (hIx : K.Abides w.heap.size Ix) (h0 : I 0 A w) (Rx : Value → Act → World → Prop) (hRx : ∀ (n0 : Nat) (A' : Gh) (x : Value) (a2 : Act) (W W' : World), Rx x a2 W → Steady n0 A' W W' → Rx x a2 W')
    (hassign : ∀ (l : Nat) (x : Value) (u : σ) (A1 : Gh) (W : World) (K : Act → World → Prop), At A1 W x u → (∀ a2 V, Below W.heap.size W V → Rx x a2 V → K a2 V) →
      assign.wpIn (Fence.wide.inRound l) 0 Tryz.prog (Exit.then K (fun _ _ _ => False)) { tmps := (#[s].zip #[x]).foldl (fun t (p, v) => t.setIfInBounds p v) a.tmps, defers := [] } W)
    (hbody : ∀ (l k : Nat) (x : Value) (u : σ) (A1 : Gh) (W : World) (a2 : Act), us[k]? = some u → I k A1 W → Ext T noX A w A1 W → Dom A1 W → At A1 W x u → Rx x a2 W → w.heap.size ≤ l → body.wpIn (Fence.wide.inRound l) 0 Tryz.prog (K.postR T X I Ix (k + 1) A1 W) a2 W)
    (hdone : ∀ (D : Nat) (A' : Gh) (W : World), w.heap.size ≤ D → I us.length A' W → Ext T noX A w A' W → A' D = .free → W.heap[D]? = some (.deferred (some [])) → Q .normal { a with defers := { target := .collected D, args := #[] } :: a.defers } W)
    (hstop : ∀ (D k : Nat) (A' : Gh) (W : World), w.heap.size ≤ D → k ≤ us.length → Ix k A' W → Ext T X A w A' W → A' D = .free → W.heap[D]? = some (.deferred (some [])) → Code.ret.wpIn Fence.wide n Tryz.prog Q { a with defers := { target := .collected D, args := #[] } :: a.defers } W) :
    (Code.rangeFunc g #[s] assign body).wpIn Fence.wide n Tryz.prog Q a w := by
  obtain ⟨gf, lb, rfl, eg, hseq⟩ := hseq
  refine wpIn_rangeFunc ?_
  intro fn hfn
  rw [show Fence.wide.round = none from rfl]
  obtain ⟨rec, hrec⟩ : ∃ rec : LoopState → Option Code → Loop, rec = fun st pe => { state := st, pending := pe, fn, tmps := a.tmps, params := #[s], assign, body, defers := w.heap.size } := ⟨_, rfl⟩
  obtain ⟨W1, hW1⟩ : ∃ W1, (w.alloc (.deferred (some []))).alloc (.loop (rec .ready none)) = W1 := ⟨_, rfl⟩
  have hL1 : W1.heap[w.heap.size + 1]? = some (.loop (rec .ready none)) := by
    rw [← hW1]; have := World.alloc_heap_new (w.alloc (.deferred (some []))) (.loop (rec .ready none)); rwa [World.size_alloc] at this
  have hK1 : W1.heap[w.heap.size]? = some (.deferred (some [])) := by
    rw [← hW1]; exact (Below.heap_alloc _ _ _ (by simp)).trans (World.alloc_heap_new w _)
  have hbw : Below w.heap.size w W1 := by rw [← hW1]; exact ((Below.refl _ w).alloc (Nat.le_refl _) _).alloc (by simp) _
  have hsz1 : W1.heap.size = w.heap.size + 2 := by rw [← hW1]; simp
  have hE1 : ∀ Y, Ext T Y A w A W1 := fun Y => Ext.of_below hbw
  have hI1 : I 0 A W1 := hI _ _ _ _ h0 (Steady.of_below hbw)
  have hfl : A (w.heap.size + 1) = .free := hd.free (by omega)
  have hfD : A w.heap.size = .free := hd.free (Nat.le_refl _)
  refine ⟨w.heap.size + 1, [{ target := .collected w.heap.size, args := #[] }], W1, { target := .fn (.func gf) lb, args := #[.func (.yield (w.heap.size + 1)) #[] #[]] }, W1, gf,
    #[.func (.yield (w.heap.size + 1)) #[] #[]] ++ lb, W1, ?_, ?_, ?_, ?_, fun _ => h1, ?_⟩
  · rw [← hW1, hrec]; exact run_enterLoop_outer _ _ _ _ _
  · simp only [resolve, hg]
    simp [go_sem]
  · intro f' hf'; trivial
  · simp [invoke, go_sem, eg]
  · have free_keep : ∀ {Y : Nat → Prop} {A1 A2 : Gh} {Wa Wb : World} {b : Nat}, Ext T Y A1 Wa A2 Wb → b < Wa.heap.size → A1 b = .free → A2 b = .free := fun h hb hf => (h.gh _ hb (fun t g e => by rw [hf] at e; cases e)).trans hf
    refine (callsIn_wide.2 (hseq (fun b => b = w.heap.size + 1 ∨ X b) (w.heap.size + 1)
      (fun k A1 W => I k A1 W ∧ W.heap[w.heap.size + 1]? = some (.loop (rec .ready none)) ∧ W.heap[w.heap.size]? = some (.deferred (some [])) ∧ A1 (w.heap.size + 1) = .free ∧ A1 w.heap.size = .free)
      (fun k A1 W => Ix k A1 W ∧ W.heap[w.heap.size + 1]? = some (.loop (rec .done (some .ret))) ∧ W.heap[w.heap.size]? = some (.deferred (some [])) ∧ A1 (w.heap.size + 1) = .free ∧ A1 w.heap.size = .free)
      A W1 (hE0.trans (hE1 _)) ((hE1 noX).dom hd) ?_ ?_ ?_ ?_ ⟨hI1, hL1, hK1, hfl, hfD⟩)).mono ?_
    · rintro k A1 W W' ⟨i1, i2, i3, i4, i5⟩ hs
      exact ⟨hI _ _ _ _ i1 (hs.mono (by omega)), hs.same _ _ i2 (.inl (by omega)), hs.same _ _ i3 (.inl (by omega)), i4, i5⟩
    · rintro k A1 W W' ⟨i1, i2, i3, i4, i5⟩ hs
      exact ⟨hIx _ _ _ _ i1 (hs.mono (by omega)), hs.same _ _ i2 (.inl (by omega)), hs.same _ _ i3 (.inl (by omega)), i4, i5⟩
    · rintro b (rfl | hb)
      · exact ⟨hfl, by omega⟩
      · have := hX b hb
        exact ⟨this.1, by omega⟩
    · -- ONE ROUND
      rintro k x u A1 Wb hu ⟨hi0, hl0, hk0, hf1, hf2⟩ hEW0 hU0
      have hy := run_yield (P := Tryz.prog) (args := #[x]) hl0 (by rw [hrec]; rfl)
      rw [hrec] at hy
      refine ⟨fn, _, assign, body, hy, roundIn_of_wpIn hfn (hassign _ x u A1 Wb _ hU0 fun a2 W hV hRW => ?_)⟩
      have hi := hI _ _ _ _ hi0 (Steady.of_below hV)
      have hl := (hV.block _ (Array.getElem?_eq_some_iff.1 hl0).1).trans hl0
      have hk := (hV.block _ (Array.getElem?_eq_some_iff.1 hk0).1).trans hk0
      have hEW := hEW0.trans (Ext.of_below (T := T) (X := noX) (A := A1) hV)
      have hU := hAt (Ext.of_below (T := T) (X := noX) (A := A1) hV) (fun _ _ h => h) hU0
      have hlt : w.heap.size + 1 < W.heap.size := (Array.getElem?_eq_some_iff.1 hl).1
      refine ⟨_, run_beginRound hl (by rw [hrec]), ?_⟩
      obtain ⟨W2, hW2⟩ : ∃ W2, W.putObj (w.heap.size + 1) (.loop { rec .ready none with state := .busy }) = W2 := ⟨_, rfl⟩
      have hl2 : W2.heap[w.heap.size + 1]? = some (.loop { rec .ready none with state := .busy }) := hW2 ▸ World.putObj_heap_same hlt
      have hk2 : W2.heap[w.heap.size]? = some (.deferred (some [])) := by rw [← hW2]; exact (World.putObj_heap_other (by omega)).trans hk
      have hs2 : W2.heap.size = W.heap.size := by rw [← hW2]; simp [World.putObj]
      have ho2 : ∀ b, b ≠ w.heap.size + 1 → W2.heap[b]? = W.heap[b]? := fun b hb => by rw [← hW2]; exact World.putObj_heap_other (by omega)
      have hi2 : I k A1 W2 := by rw [← hW2]; exact hI _ _ _ _ hi (Steady.put _ hl rfl (by omega) hf1)
      have hE2 : Ext T noX A w A1 W2 := by rw [← hW2]; exact ((hE1 noX).trans hEW).putNew (by omega) _
      have hd2 : Dom A1 W2 := hE2.dom hd
      have hx2 : Ext T (· = w.heap.size + 1) A1 W A1 W2 := by
        refine ⟨by rw [← hW2]; rfl, by rw [← hW2]; rfl, by rw [← hW2]; rfl, by omega, fun b _ hb _ => ho2 b hb, fun _ _ _ => rfl, fun b t g hb hA hT => ⟨g, Nat.le_refl _, hA, fun i _ => World.cell?_of_block (a := ⟨b, i, none⟩) (ho2 b (fun e => by rw [e, hf1] at hA; cases hA))⟩, fun hdd => ⟨by rw [hs2]; exact hdd.1, by rw [hs2]; exact hdd.2⟩⟩
      have hU2 : At A1 W2 x u := hAt hx2 (fun b ⟨c, t, f, hv⟩ e => by
        subst e
        rw [hl] at hv
        cases hv) hU
      have hR2 : Rx x a2 W2 := by rw [← hW2]; exact hRx w.heap.size A1 x a2 _ _ hRW (Steady.put _ hl rfl (by omega) hf1)
      have hb := hbody (w.heap.size + 1) k x u A1 W2 a2 hu hi2 hE2 hd2 hU2 hR2 (by omega)
      refine wpIn_mono (Eq.mpr (congrArg (fun V => Code.wpIn (Fence.wide.inRound (w.heap.size + 1)) 0 Tryz.prog body (K.postR T X I Ix (k + 1) A1 W2) a2 V) hW2) hb) ?_
      rintro e a3 W3 hp
      cases e with
      | normal =>
        obtain ⟨A', hE3, hi3⟩ := hp
        have hlt2 : w.heap.size + 1 < W2.heap.size := by omega
        have no1 : ∀ t g, A1 (w.heap.size + 1) = .own t g → ¬ T t := fun t g e => by rw [hf1] at e; cases e
        have no2 : ∀ t g, A1 w.heap.size = .own t g → ¬ T t := fun t g e => by rw [hf2] at e; cases e
        have hl3 := (hE3.keep _ hlt2 (fun h => h) no1).trans hl2
        have hk3 := (hE3.keep w.heap.size (by omega) (fun h => h) no2).trans hk2
        have hg1 := free_keep hE3 hlt2 hf1
        have hg2 := free_keep hE3 (show w.heap.size < W2.heap.size by omega) hf2
        have hr := run_endRound (P := Tryz.prog) none hl3
        have hlt3 : w.heap.size + 1 < W3.heap.size := (Array.getElem?_eq_some_iff.1 hl3).1
        have hsp := Steady.put (A := A') (n0 := w.heap.size) (.loop (rec .ready none)) hl3 rfl (by omega) hg1
        rw [hrec] at hr hl3 hsp
        refine ⟨_, _, hr, A', .inl ⟨rfl, ?_, hI _ _ _ _ hi3 hsp, ?_, ?_, hg1, hg2⟩⟩
        · have hlast : (W3.putObj (w.heap.size + 1) (.loop (rec .ready none))).heap[w.heap.size + 1]? = some (.loop (rec .ready none)) := World.putObj_heap_same hlt3
          have hoth : ∀ b, b ≠ w.heap.size + 1 → (W3.putObj (w.heap.size + 1) (.loop (rec .ready none))).heap[b]? = W3.heap[b]? := fun b hb => World.putObj_heap_other (by omega)
          have hs3 : (W3.putObj (w.heap.size + 1) (.loop (rec .ready none))).heap.size = W3.heap.size := by simp [World.putObj]
          have key : Ext T noX A1 W A' (W3.putObj (w.heap.size + 1) (.loop (rec .ready none))) := by
            refine ⟨hE3.os.trans hx2.os, hE3.tape.trans hx2.tape, hE3.output.trans hx2.output, by have := hE3.size; omega, fun b hb _ hn => ?_, fun b hb hn => hE3.gh b (by omega) hn, fun b t g hb hA hT => ?_, fun hdd => ?_⟩
            · by_cases e : b = w.heap.size + 1
              · subst e; exact hlast.trans hl.symm
              · exact (hoth b e).trans ((hE3.keep b (by omega) (fun h => h) hn).trans (ho2 b e))
            · obtain ⟨g', j1, j2, j3⟩ := hE3.own b t g (by omega) hA hT
              have hne : b ≠ w.heap.size + 1 := fun e => by rw [e, hf1] at hA; cases hA
              exact ⟨g', j1, j2, fun i hi => (World.cell?_of_block (a := ⟨b, i, none⟩) (hoth b hne)).trans ((j3 i hi).trans (World.cell?_of_block (a := ⟨b, i, none⟩) (ho2 b hne)))⟩
            · have := hE3.dom hd2
              exact ⟨by rw [hs3]; exact this.1, by rw [hs3]; exact this.2⟩
          rw [hrec] at key
          exact (Ext.of_below hV).trans key
        · rw [hrec]; exact World.putObj_heap_same hlt3
        · exact (World.putObj_heap_other (by omega)).trans hk3
      | ret =>
        obtain ⟨A', hE3, hi3⟩ := hp
        have hlt2 : w.heap.size + 1 < W2.heap.size := by omega
        have nx1 : ¬ X (w.heap.size + 1) := fun h => by have := (hX _ h).2; omega
        have nx2 : ¬ X w.heap.size := fun h => by have := (hX _ h).2; omega
        have no1 : ∀ t g, A1 (w.heap.size + 1) = .own t g → ¬ T t := fun t g e => by rw [hf1] at e; cases e
        have no2 : ∀ t g, A1 w.heap.size = .own t g → ¬ T t := fun t g e => by rw [hf2] at e; cases e
        have hl3 := (hE3.keep _ hlt2 nx1 no1).trans hl2
        have hk3 := (hE3.keep w.heap.size (by omega) nx2 no2).trans hk2
        have hg1 := free_keep hE3 hlt2 hf1
        have hg2 := free_keep hE3 (show w.heap.size < W2.heap.size by omega) hf2
        have hr := run_endRound (P := Tryz.prog) (some .ret) hl3
        have hlt3 : w.heap.size + 1 < W3.heap.size := (Array.getElem?_eq_some_iff.1 hl3).1
        have hsp := Steady.put (A := A') (n0 := w.heap.size) (.loop (rec .done (some .ret))) hl3 rfl (by omega) hg1
        rw [hrec] at hr hl3 hsp
        refine ⟨_, _, hr, A', .inr ⟨rfl, ?_, hIx _ _ _ _ hi3 hsp, ?_, ?_, hg1, hg2⟩⟩
        · have hoth : ∀ b, b ≠ w.heap.size + 1 → (W3.putObj (w.heap.size + 1) (.loop (rec .done (some .ret)))).heap[b]? = W3.heap[b]? := fun b hb => World.putObj_heap_other (by omega)
          have hs3 : (W3.putObj (w.heap.size + 1) (.loop (rec .done (some .ret)))).heap.size = W3.heap.size := by simp [World.putObj]
          have key : Ext T (fun b => b = w.heap.size + 1 ∨ X b) A1 W A' (W3.putObj (w.heap.size + 1) (.loop (rec .done (some .ret)))) := by
            refine ⟨hE3.os.trans hx2.os, hE3.tape.trans hx2.tape, hE3.output.trans hx2.output, by have := hE3.size; omega, fun b hb hx hn => ?_, fun b hb hn => hE3.gh b (by omega) hn, fun b t g hb hA hT => ?_, fun hdd => ?_⟩
            · have e : b ≠ w.heap.size + 1 := fun e => hx (.inl e)
              exact (hoth b e).trans ((hE3.keep b (by omega) (fun h => hx (.inr h)) hn).trans (ho2 b e))
            · obtain ⟨g', j1, j2, j3⟩ := hE3.own b t g (by omega) hA hT
              have hne : b ≠ w.heap.size + 1 := fun e => by rw [e, hf1] at hA; cases hA
              exact ⟨g', j1, j2, fun i hi => (World.cell?_of_block (a := ⟨b, i, none⟩) (hoth b hne)).trans ((j3 i hi).trans (World.cell?_of_block (a := ⟨b, i, none⟩) (ho2 b hne)))⟩
            · have := hE3.dom hd2
              exact ⟨by rw [hs3]; exact this.1, by rw [hs3]; exact this.2⟩
          rw [hrec] at key
          exact (Ext.of_below hV).trans key
        · rw [hrec]; exact World.putObj_heap_same hlt3
        · exact (World.putObj_heap_other (by omega)).trans hk3
      | exit id => exact hp.elim
      | goto t => exact hp.elim
      | panic ch => exact hp.elim
      | outgrown => exact hp.elim
    · -- BEHIND THE ITERATOR
      rintro e W2 ⟨⟨v, rfl⟩, A', (⟨⟨hi, hl, hk, hf1, hf2⟩, hE⟩ | ⟨k, hkl, ⟨hi, hl, hk, hf1, hf2⟩, hE⟩)⟩
      · refine ⟨none, _, by have := run_endLoop (P := Tryz.prog) hl (by rw [hrec]; simp); rw [hrec] at this; exact this, hdone _ A' _ (Nat.le_refl _) (hI _ _ _ _ hi (Steady.put _ hl rfl (by omega) hf1)) (((hE1 noX).trans hE).putNew (by omega) _) hf2 ((World.putObj_heap_other (by omega)).trans hk)⟩
      · refine ⟨some .ret, _, by have := run_endLoop (P := Tryz.prog) hl (by rw [hrec]; simp); rw [hrec] at this; exact this, hstop _ k A' _ (Nat.le_refl _) hkl (hIx _ _ _ _ hi (Steady.put _ hl rfl (by omega) hf1)) ((((hE1 _).trans hE).shrink (fun b hb hx => hx.elim (fun e => absurd e (by omega)) (fun h => h))).putNew (by omega) _) hf2 ((World.putObj_heap_other (by omega)).trans hk)⟩
end Go.Proofs.YtcioomlhdaihkaaGreatDoor.L

namespace Go.Proofs.YtcioomlhdaihkaaGreatDoor.L
set_option linter.unusedVariables false
set_option linter.unusedSimpArgs false
set_option maxRecDepth 100000
open Go Go.RowKit Go.Maps Go.MapKept Go.ChangeMaps Go.Shelf Wire
open K (Gh Ext Dom noX Jd Steady)
attribute [local go_sem] Oper.semAt_some

abbrev SgT := Bool × Nat × List Bs
/-- A segment as it is handed on; what its strings lie in is nobody's. -/
def SegAt (A : Gh) (w : World) (x : Value) (u : SgT) : Prop :=
  ∃ ad len cap, x = segV u.1 u.2.1 (.slice ad len cap) ∧ Q.IsSV w ad len cap u.2.2 ∧ ∀ a, ad = some a → A a.block = .free ∧ ∃ c t f, w.heap[a.block]? = some (.cells c t f)
theorem SegAt.ext {T Y : Nat → Prop} {A B : Gh} {w w' : World} {x : Value} {u : SgT} (h : Ext T Y A w B w') (hY : ∀ b, (∃ c t f, w.heap[b]? = some (.cells c t f)) → ¬ Y b) (hs : SegAt A w x u) : SegAt B w' x u := by
  obtain ⟨ad, len, cap, e, hI, hf⟩ := hs
  have hk : ∀ a, ad = some a → w'.heap[a.block]? = w.heap[a.block]? ∧ B a.block = .free := fun a ha => by
    obtain ⟨h1, c, t, f, h2⟩ := hf a ha
    have hb := (Array.getElem?_eq_some_iff.1 h2).1
    have hn : ∀ t g, A a.block = .own t g → ¬ T t := fun t g e => by rw [h1] at e; cases e
    exact ⟨h.keep _ hb (hY _ ⟨c, t, f, h2⟩) hn, (h.gh _ hb hn).trans h1⟩
  exact ⟨ad, len, cap, e, sv_same hI (fun a ha => (hk a ha).1), fun a ha => ⟨(hk a ha).2, by
    obtain ⟨_, c, t, f, h2⟩ := hf a ha
    exact ⟨c, t, f, (hk a ha).1.trans h2⟩⟩⟩

def items (os : List (Option SgT)) : List SgT := os.filterMap id
theorem items_none {os : List (Option SgT)} {i : Nat} (h : os[i]? = some none) : items (os.take (i + 1)) = items (os.take i) := by
  rw [List.take_add_one, h]; simp [items]
theorem items_some {os : List (Option SgT)} {i : Nat} {u : SgT} (h : os[i]? = some (some u)) : items (os.take (i + 1)) = items (os.take i) ++ [u] := by
  rw [List.take_add_one, h]; simp [items]
theorem items_at {os : List (Option SgT)} {i : Nat} {u : SgT} (h : os[i]? = some (some u)) : (items os)[(items (os.take i)).length]? = some u := by
  have hi := (List.getElem?_eq_some_iff.1 h).1
  have e : items os = items (os.take (i + 1)) ++ items (os.drop (i + 1)) := by rw [items, items, items, ← List.filterMap_append, List.take_append_drop]
  rw [e, items_some h, List.append_assoc, List.getElem?_append_right (Nat.le_refl _)]
  simp

/-- What the segments' files are. -/
structure SegsOk (f : K.Fs) (ks : List Nat) (os : List (Option SgT)) : Prop where
  len : os.length = ks.length
  seg : ∀ (i k : Nat) (o : Option SgT), ks[i]? = some k → os[i]? = some o → ∃ c, K.get f (nm k) = some c ∧ c.length ≤ 900000 ∧ SegIs c o

theorem log_segments (p : Nat) (w : World) :
    Calls Tryz.prog 48 #[.pointer (some ⟨p, 0, none⟩)] w fun e w' => e = .returned (.func (.func 68) #[] #[.pointer (some ⟨w.heap.size, 0, none⟩)]) ∧ w' = w.alloc (.cells #[.pointer (some ⟨p, 0, none⟩)] 27) := by
  go_enter Tryz.func48, Tryz.ntmps48
  go_wp2
  go_ret
  exact ⟨rfl, rfl⟩

theorem may_nm {k : Nat} (hk : k < 100) : K.may (nm k) = true := by
  have := (nm_fin ⟨k, hk⟩).1
  simp only at this
  simp [K.may, this, nm]

set_option maxHeartbeats 2000000 in
theorem segs_seq {w0 w : World} {p : Nat} {s : K.St} {ds : List (Nat × K.St)} {bs : List (Nat × Obj)} (N : Nat) (hN : N ≤ w.heap.size) (hS : ∀ V, Below N w V → K.Sys w0 V ((p, s) :: ds) bs) (hlim : s.lim ≤ 549755813888) {ks : List Nat} {dr : Bool} (hk : NamesOk s.seen ks dr) {os : List (Option SgT)} (hos : SegsOk s.seen ks os) (htab : ∀ V, Below N w V → Tab V)
    (T : Nat → Prop) (A0 : Gh) (hA0 : ∀ b, b < N → A0 b = .free) (b : Nat) (hb : w.heap[b]? = some (.cells #[.pointer (some ⟨p, 0, none⟩)] 27 (0, 0))) (hA0b : A0 b = .free) :
    SeqX SegAt T A0 w (.func (.func 68) #[] #[.pointer (some ⟨b, 0, none⟩)]) (items os) := by
  refine ⟨_, _, rfl, enters_of Tryz.func68 (by kernel_rfl) rfl, fun X l J Jx A W hE hd hJ hJx hX hY h0 => ?_⟩
  have hbw := (Array.getElem?_eq_some_iff.1 hb).1
  have hbn : ∀ t g, A0 b = .own t g → ¬ T t := fun t g e => by rw [hA0b] at e; cases e
  have hlo : ∀ b, b < N → ∀ t g, A0 b = .own t g → ¬ T t := fun b hb t g e => by rw [hA0 b hb] at e; cases e
  have hbA := hE.gh b hbw hbn
  have hbW := (hE.keep b hbw (fun h => h) hbn).trans hb
  have hBW : Below N w W := hE.below hN hlo
  have hSW : ∀ V, Below W.heap.size W V → K.Sys w0 V ((p, s) :: ds) bs := fun V hV => hS V (hBW.trans (hV.mono (Nat.le_trans hN hBW.size)))
  have hTW := htab
  have hSV := hS
  have hnames := log_segmentNames (hSW W (Below.refl _ _)) hlim hk
  have HLO := hid hlo
  have HBN := hid hbn
  have HKS := hid hk.2
  have HOS := hid hos
  have HSV := hid hSV
  have HTW := hid hTW
  have HBW := hid hBW
  have HJ := hid hJ
  have HJx := hid hJx
  have HD := hid hd
  have HE := hid hE
  have HB := hid hb
  have HBA := hid hbA
  clear hE hd hJ hJx hos hk hS htab hSW hTW hBW hSV hb hbA hlo hbn hA0 hA0b
  have hcell : W.cell? ⟨b, 0, none⟩ = some (.pointer (some ⟨p, 0, none⟩)) := (K.cell_row hbW 0).trans rfl
  refine (callsIn_wide (n := 1)).1 ?_
  refine callsIn_of_wp Tryz.func68 rfl trivial ?_ rfl
  simp only [Tryz.ntmps68, List.size_toArray, List.length_cons, List.length_nil, Nat.reduceAdd, Nat.reduceSub, Array.replicate_succ, Array.replicate_zero, List.push_toArray, List.append_toArray, List.nil_append, List.cons_append]
  gi_wp2_with (refine ⟨trivial, (callsIn_wide.2 hnames).mono ?_⟩; rintro e w1 ⟨ad, len, cap, rfl, hF, hnew, hb1⟩; have HF := hid hF; have HNEW := hid hnew; have HB1 := hid hb1; have hlen := hF.hlen; have hlen2 := namesOf_len ks false; have hm1 := hF.hle; have hm2 := hF.hmax; clear hF hb1 hnew)
  simp only [Bool.false_eq_true, if_false, Nat.add_zero] at hlen2
  rw [hlen2] at hlen
  have hm : len ≤ 9223372036854775807 := by unfold maxLen at hm2; omega
  clear hlen2 hm1 hm2
  have hW1 : Ext T noX A W A w1 := Ext.of_below HB1.out
  have hJ0 := HJ.out 0 A W w1 h0 (Steady.of_below HB1.out)
  have hfree : ∀ g, ad = some ⟨g, 0, none⟩ → A g = .free := fun g e => K.Dom.free HD.out (HNEW.out g e)
  have HJ0 := hid hJ0
  have HW1 := hid hW1
  have HFR := hid hfree
  clear hJ0 hW1 hfree h0 hnames hcell
  gi_loopw [12] (fun i wr => ∃ (k : Nat) (A' : Gh), k ≤ len ∧ i = .int .i64 k ∧ Hid (J (items (os.take k)).length A' wr) ∧ Hid (Ext T noX A W A' wr) ∧ Hid (IsF wr ad len cap (namesOf ks false)) ∧ Hid (∀ g, ad = some ⟨g, 0, none⟩ → A' g = .free)) (fun i _ => len - (intOf i).toNat)
  case atStart => exact ⟨0, A, Nat.zero_le _, rfl, HJ0, HW1, HF, HFR⟩
  case round =>
    obtain ⟨k, A', hk, rfl, HJr, HEr, HFr, HGr⟩ := hrel
    have hbr := ((HE.out.trans HEr.out).keep b hbw (fun h => h) HBN.out).trans HB.out
    have hBr : Below N w wr := (HE.out.trans HEr.out).below hN HLO.out
    have HBR := hid hBr
    have hcell : wr.cell? ⟨b, 0, none⟩ = some (.pointer (some ⟨p, 0, none⟩)) := (K.cell_row hbr 0).trans rfl
    clear hbr hBr
    by_cases hlt : k < len
    · obtain ⟨x, hx⟩ : ∃ x, ks[k]? = some x := ⟨_, List.getElem?_eq_getElem (by omega)⟩
      obtain ⟨o, ho⟩ : ∃ o, os[k]? = some o := ⟨_, List.getElem?_eq_getElem (by have := HOS.out.len; omega)⟩
      obtain ⟨c, hc, hcl, hsg⟩ := HOS.out.seg k x o hx ho
      obtain ⟨x1, x2⟩ := HKS.out x (List.mem_of_getElem? hx)
      obtain ⟨g, rfl, hcg⟩ := HFr.out.cell (namesOf_at hx)
      have hrd := K.sys_Read (HSV.out wr HBR.out) (nm x) (by have := (nm_fin ⟨x, x2⟩).1; simp only at this; omega) hlim
      have hrd2 : s.read (nm x) = (c, 0) := by unfold K.St.read; rw [may_nm x2, if_pos rfl, hc]
      rw [hrd2] at hrd
      have hrs := log_readSegment c hcl o hsg wr (HTW.out wr HBR.out)
      have HHO := hid ho
      clear hx ho hc hsg hrd2
      have hrd3 : Calls Tryz.prog 47 #[.pointer (some ⟨p, 0, none⟩), .string (ba (nm x))] wr fun e w' => e = .returned (.tuple #[.string (ba c), .int .i64 0]) ∧ wr = w' := hrd
      clear hrd
      cases o with
      | none =>
        have hz : SegRet wr.heap.size none = fun e w' => e = .returned (.tuple #[segZ, .bool false]) := rfl
        rw [hz] at hrs
        unfold segZ at hrs
        gi_wp2_with (first
          | (refine ⟨trivial, (callsIn_wide.2 hrd3).mono ?_⟩; rintro e w' ⟨rfl, rfl⟩)
          | (refine ⟨trivial, (callsIn_wide.2 hrs).mono ?_⟩; rintro e w2 ⟨rfl, hb2⟩))
        refine ⟨fun f h => (by cases h), ?_⟩
        have HB2 := hid hb2
        clear hb2
        gi_wp2
        go_roundw
        case rel =>
          have hb3 : Below wr.heap.size wr (w2.alloc (.cells #[.string (ba []), .int .u64 0, .slice none 0 0] 78)) := HB2.out.alloc HB2.out.size _
          refine ⟨k + 1, A', by omega, by go_num, hid ?_, hid (HEr.out.trans (Ext.of_below hb3)), hid (HFr.out.keep hb3), HGr⟩
          rw [items_none HHO.out]
          exact HJ.out _ A' wr _ HJr.out (Steady.of_below hb3)
        case measure => simp [intOf]; omega
      | some u =>
        obtain ⟨sb, sn, st⟩ := u
        have hz : SegRet wr.heap.size (some (sb, sn, st)) = fun e w' => ∃ v, e = .returned (.tuple #[segV sb sn v, .bool true]) ∧ Q.SV w' v st ∧ Q.NewS wr.heap.size w' v := rfl
        rw [hz] at hrs
        unfold segV at hrs
        have HHY := hid hY
        have HHX := hid hX
        clear hY hX
        gi_wp2_with (first
          | (refine ⟨trivial, (callsIn_wide.2 hrd3).mono ?_⟩; rintro e w' ⟨rfl, rfl⟩)
          | (refine ⟨trivial, (callsIn_wide.2 hrs).mono ?_⟩; rintro e w2 ⟨⟨v, rfl, ⟨ad2, len2, cap2, rfl, hSV2⟩, hnew2⟩, hb2⟩; have HSV2 := hid hSV2; have HNW2 := hid hnew2; have HB2 := hid hb2; clear hSV2 hnew2 hb2))
        have hb3 : Below wr.heap.size wr (w2.alloc (.cells #[.string (ba (kindB sb)), .int .u64 (sn : Nat), .slice ad2 len2 cap2] 78)) := HB2.out.alloc HB2.out.size _
        have HB3 := hid hb3
        have hE3 : Ext T noX A W A' (w2.alloc (.cells #[.string (ba (kindB sb)), .int .u64 (sn : Nat), .slice ad2 len2 cap2] 78)) := HEr.out.trans (Ext.of_below hb3)
        have hdA' := HEr.out.dom HD.out
        have hat : SegAt A' (w2.alloc (.cells #[.string (ba (kindB sb)), .int .u64 (sn : Nat), .slice ad2 len2 cap2] 78)) (.agg #[.string (ba (kindB sb)), .int .u64 (sn : Nat), .slice ad2 len2 cap2]) (sb, sn, st) :=
          ⟨ad2, len2, cap2, rfl, HSV2.out.keep ((Below.refl _ w2).alloc (Nat.le_refl _) _), fun a ha => by
            obtain ⟨i1, cs, t, f, i2⟩ := HNW2.out a len2 cap2 (by rw [ha])
            exact ⟨K.Dom.free hdA' i1, cs, t, f, (Below.heap_alloc _ _ _ (Array.getElem?_eq_some_iff.1 i2).1).trans i2⟩⟩
        obtain ⟨fn, tmps, assign, body, hy, hR⟩ := HHY.out (items (os.take k)).length _ _ A' _ (items_at HHO.out) (HJ.out _ A' wr _ HJr.out (Steady.of_below hb3)) hE3 hat
        have HE3 := hid hE3
        clear hb3 hE3 hat hdA'
        rw [hy]
        gi_wp2
        refine hR.mono ?_
        rintro e W' ⟨A2, ⟨rfl, hE4, hj⟩ | ⟨rfl, hE4, hj⟩⟩
        · have HE4 := hid hE4
          have HJ4 := hid hj
          clear hE4 hj
          gi_wp2
          go_roundw
          case rel =>
            have hrow : IsF W' (some ⟨g, 0, none⟩) len cap (namesOf ks false) := by
              have hF3 := HFr.out.keep HB3.out
              obtain ⟨g', cur, e, hg, hcc⟩ := hF3.hrow (by omega)
              cases e
              have hgl := (Array.getElem?_eq_some_iff.1 hg).1
              have hno : ∀ t n, A' g = .own t n → ¬ T t := fun t n e => by rw [HGr.out g rfl] at e; cases e
              exact ⟨hF3.hlen, hF3.hle, hF3.hmax, hF3.hnil, fun _ => ⟨g, cur, rfl, (HE4.out.keep g hgl (fun h => h) hno).trans hg, hcc⟩⟩
            have hfr : ∀ g', (some ⟨g, 0, none⟩ : Option Addr) = some ⟨g', 0, none⟩ → A2 g' = .free := fun g' e => by
              cases e
              have hF3 := HFr.out.keep HB3.out
              obtain ⟨g', cur, e, hg, hcc⟩ := hF3.hrow (by omega)
              cases e
              have hgl := (Array.getElem?_eq_some_iff.1 hg).1
              have hno : ∀ t n, A' g = .own t n → ¬ T t := fun t n e => by rw [HGr.out g rfl] at e; cases e
              exact (HE4.out.gh g hgl hno).trans (HGr.out g rfl)
            refine ⟨k + 1, A2, by omega, by go_num, hid ?_, hid (HE3.out.trans HE4.out), hid hrow, hid hfr⟩
            rw [items_some HHO.out, List.length_append]
            exact HJ4.out
          case measure => simp [intOf]; omega
        · have HE4 := hid hE4
          have HJ4 := hid hj
          have HHI := hid (Nat.succ_le_of_lt (List.getElem?_eq_some_iff.1 (items_at HHO.out)).1)
          clear hE4 hj
          gi_wp2
          refine bodyPost_ret (results_none rfl _ _ _) rfl ?_
          exact ⟨⟨_, rfl⟩, A2, .inr ⟨_, HHI.out, HJ4.out, (HE3.out.mono0 (fun _ h => h)).trans HE4.out⟩⟩
    · obtain rfl : k = len := by omega
      gi_wp2
      have hta : items (os.take k) = items os := by rw [List.take_of_length_le (by have := HOS.out.len; omega)]
      rw [hta] at HJr
      refine bodyPost_end (results_none rfl _ _ _) rfl ⟨⟨_, rfl⟩, A', .inl ⟨HJr.out, HEr.out⟩⟩
end Go.Proofs.YtcioomlhdaihkaaGreatDoor.L
