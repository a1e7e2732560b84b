/-
  Disks: a range over units: the law of the loop.
-/
import Derived.Test.YtfmigkmkdhciiaaKI
namespace Go.Proofs.Ytfmigkmkdhciiaa.K
set_option linter.unusedVariables false
set_option linter.unusedSimpArgs false
set_option maxRecDepth 100000
open Go Go.RowKit Go.Maps Go.MapKept Go.ChangeMaps Go.Shelf
attribute [local go_sem] Oper.semAt_some

theorem Ext.putNew {T X : Nat → Prop} {A B : Gh} {w W : World} (h : Ext T X A w B W) {l : Nat} (hl : w.heap.size ≤ l) (o : Obj) : Ext T X A w B (W.putObj l o) := by
  have hb : ∀ b, b < w.heap.size → (W.putObj l o).heap[b]? = W.heap[b]? := fun b hb => World.putObj_heap_other (by omega)
  have hs : (W.putObj l o).heap.size = W.heap.size := by simp [World.putObj]
  exact ⟨h.os, h.tape, h.output, by rw [hs]; exact h.size, fun b hlt hx hn => (hb b hlt).trans (h.keep b hlt hx hn), h.gh, fun b t g hlt hA hT => by
    obtain ⟨g', h1, h2, h3⟩ := h.own b t g hlt hA hT
    exact ⟨g', h1, h2, fun i hi => (World.cell?_of_block (a := ⟨b, i, none⟩) (hb b hlt)).trans (h3 i hi)⟩, fun hd => by
    have := h.dom hd
    exact ⟨by rw [hs]; exact this.1, by rw [hs]; exact this.2⟩⟩
theorem Ext.shrink {T X X' : Nat → Prop} {A B : Gh} {w W : World} (h : Ext T X A w B W) (hX : ∀ b, b < w.heap.size → X b → X' b) : Ext T X' A w B W :=
  ⟨h.os, h.tape, h.output, h.size, fun b hlt hx hn => h.keep b hlt (fun hx' => hx (hX b hlt hx')) hn, h.gh, h.own, h.dom⟩
theorem Dom.free {A : Gh} {w : World} (h : Dom A w) {b : Nat} (hb : w.heap.size ≤ b) : A b = .free := by
  cases hc : A b with
  | free => rfl
  | fixed => have := h.1 b (by rw [hc]; simp); omega
  | own t g => have := h.1 b (by rw [hc]; simp); omega

/-- How the body of a round may be left. -/
def postR (T X : Nat → Prop) (I Ix : Jd) (k : Nat) (A1 : Gh) (W : World) : Exit → Act → World → Prop
  | .normal, _, W' => ∃ A', Ext T noX A1 W A' W' ∧ I k A' W'
  | .ret, _, W' => ∃ A', Ext T X A1 W A' W' ∧ Ix k A' W'
  | _, _, _ => False

theorem wp_range {T X : Nat → Prop} {n : Nat} {g : Operand} {s : Tmp} {assign body : Code} {Q : Exit → Act → World → Prop} {a : Act} {A0 A : Gh} {w0 w : World} {us : List U} {v0 : Value} (h1 : 1 ≤ n)
    (hg : a.eval g = v0) (hseq : SeqU T A0 w0 v0 us) (hE0 : Ext T noX A0 w0 A w) (hd : Dom A w) (hX : ∀ b, X b → A b = .free ∧ b < w.heap.size)
    (I Ix : Jd) (hI : Abides w.heap.size I) (hIx : Abides w.heap.size Ix) (h0 : I 0 A w) (a₁ : Value → Act)
    (hassign : ∀ (l : Nat) (x : Value) (W : World) (K : Act → World → Prop), K (a₁ x) W →
      assign.wpIn (Fence.wide.inRound l) 0 Try.prog (Exit.then K (fun _ _ _ => False)) { tmps := (#[s].zip #[x]).foldl (fun t (p, v) => t.setIfInBounds p v) a.tmps, defers := [] } W)
    (hbody : ∀ (l k : Nat) (x : Value) (u : U) (A1 : Gh) (W : World), us[k]? = some u → I k A1 W → Ext T noX A w A1 W → Dom A1 W → UnitAt A1 W x u → w.heap.size ≤ l → body.wpIn (Fence.wide.inRound l) 0 Try.prog (postR T X I Ix (k + 1) A1 W) (a₁ x) W)
    (hdone : ∀ (D : Nat) (A' : Gh) (W : World), w.heap.size ≤ D → I us.length A' W → Ext T noX A w A' W → A' D = .free → W.heap[D]? = some (.deferred (some [])) → Q .normal { a with defers := { target := .collected D, args := #[] } :: a.defers } W)
    (hstop : ∀ (D k : Nat) (A' : Gh) (W : World), w.heap.size ≤ D → k ≤ us.length → Ix k A' W → Ext T X A w A' W → A' D = .free → W.heap[D]? = some (.deferred (some [])) → Code.ret.wpIn Fence.wide n Try.prog Q { a with defers := { target := .collected D, args := #[] } :: a.defers } W) :
    (Code.rangeFunc g #[s] assign body).wpIn Fence.wide n Try.prog Q a w := by
  obtain ⟨gf, lb, rfl, eg, hseq⟩ := hseq
  refine wpIn_rangeFunc ?_
  intro fn hfn
  rw [show Fence.wide.round = none from rfl]
  obtain ⟨rec, hrec⟩ : ∃ rec : LoopState → Option Code → Loop, rec = fun st pe => { state := st, pending := pe, fn, tmps := a.tmps, params := #[s], assign, body, defers := w.heap.size } := ⟨_, rfl⟩
  obtain ⟨W1, hW1⟩ : ∃ W1, (w.alloc (.deferred (some []))).alloc (.loop (rec .ready none)) = W1 := ⟨_, rfl⟩
  have hL1 : W1.heap[w.heap.size + 1]? = some (.loop (rec .ready none)) := by
    rw [← hW1]; have := World.alloc_heap_new (w.alloc (.deferred (some []))) (.loop (rec .ready none)); rwa [World.size_alloc] at this
  have hK1 : W1.heap[w.heap.size]? = some (.deferred (some [])) := by
    rw [← hW1]; exact (Below.heap_alloc _ _ _ (by simp)).trans (World.alloc_heap_new w _)
  have hbw : Below w.heap.size w W1 := by rw [← hW1]; exact ((Below.refl _ w).alloc (Nat.le_refl _) _).alloc (by simp) _
  have hsz1 : W1.heap.size = w.heap.size + 2 := by rw [← hW1]; simp
  have hE1 : ∀ Y, Ext T Y A w A W1 := fun Y => Ext.of_below hbw
  have hI1 : I 0 A W1 := hI _ _ _ _ h0 (Steady.of_below hbw)
  have hfl : A (w.heap.size + 1) = .free := hd.free (by omega)
  have hfD : A w.heap.size = .free := hd.free (Nat.le_refl _)
  refine ⟨w.heap.size + 1, [{ target := .collected w.heap.size, args := #[] }], W1, { target := .fn (.func gf) lb, args := #[.func (.yield (w.heap.size + 1)) #[] #[]] }, W1, gf,
    #[.func (.yield (w.heap.size + 1)) #[] #[]] ++ lb, W1, ?_, ?_, ?_, ?_, fun _ => h1, ?_⟩
  · rw [← hW1, hrec]; exact run_enterLoop_outer _ _ _ _ _
  · simp only [resolve, hg]
    simp [go_sem]
  · intro f' hf'; trivial
  · simp [invoke, go_sem, eg]
  · have free_keep : ∀ {Y : Nat → Prop} {A1 A2 : Gh} {Wa Wb : World} {b : Nat}, Ext T Y A1 Wa A2 Wb → b < Wa.heap.size → A1 b = .free → A2 b = .free := fun h hb hf => (h.gh _ hb (fun t g e => by rw [hf] at e; cases e)).trans hf
    refine (callsIn_wide.2 (hseq (fun b => b = w.heap.size + 1 ∨ X b) (w.heap.size + 1)
      (fun k A1 W => I k A1 W ∧ W.heap[w.heap.size + 1]? = some (.loop (rec .ready none)) ∧ W.heap[w.heap.size]? = some (.deferred (some [])) ∧ A1 (w.heap.size + 1) = .free ∧ A1 w.heap.size = .free)
      (fun k A1 W => Ix k A1 W ∧ W.heap[w.heap.size + 1]? = some (.loop (rec .done (some .ret))) ∧ W.heap[w.heap.size]? = some (.deferred (some [])) ∧ A1 (w.heap.size + 1) = .free ∧ A1 w.heap.size = .free)
      A W1 (hE0.trans (hE1 _)) ((hE1 noX).dom hd) ?_ ?_ ?_ ?_ ⟨hI1, hL1, hK1, hfl, hfD⟩)).mono ?_
    · rintro k A1 W W' ⟨i1, i2, i3, i4, i5⟩ hs
      exact ⟨hI _ _ _ _ i1 (hs.mono (by omega)), hs.same _ _ i2 (.inl (by omega)), hs.same _ _ i3 (.inl (by omega)), i4, i5⟩
    · rintro k A1 W W' ⟨i1, i2, i3, i4, i5⟩ hs
      exact ⟨hIx _ _ _ _ i1 (hs.mono (by omega)), hs.same _ _ i2 (.inl (by omega)), hs.same _ _ i3 (.inl (by omega)), i4, i5⟩
    · rintro b (rfl | hb)
      · exact ⟨hfl, by omega⟩
      · have := hX b hb
        exact ⟨this.1, by omega⟩
    · -- ONE ROUND
      rintro k x u A1 W hu ⟨hi, hl, hk, hf1, hf2⟩ hEW hU
      have hlt : w.heap.size + 1 < W.heap.size := (Array.getElem?_eq_some_iff.1 hl).1
      have hy := run_yield (P := Try.prog) (args := #[x]) hl (by rw [hrec]; rfl)
      rw [hrec] at hy
      refine ⟨fn, _, assign, body, hy, roundIn_of_wpIn hfn (hassign _ x W _ ⟨_, run_beginRound hl (by rw [hrec]), ?_⟩)⟩
      obtain ⟨W2, hW2⟩ : ∃ W2, W.putObj (w.heap.size + 1) (.loop { rec .ready none with state := .busy }) = W2 := ⟨_, rfl⟩
      have hl2 : W2.heap[w.heap.size + 1]? = some (.loop { rec .ready none with state := .busy }) := hW2 ▸ World.putObj_heap_same hlt
      have hk2 : W2.heap[w.heap.size]? = some (.deferred (some [])) := by rw [← hW2]; exact (World.putObj_heap_other (by omega)).trans hk
      have hs2 : W2.heap.size = W.heap.size := by rw [← hW2]; simp [World.putObj]
      have ho2 : ∀ b, b ≠ w.heap.size + 1 → W2.heap[b]? = W.heap[b]? := fun b hb => by rw [← hW2]; exact World.putObj_heap_other (by omega)
      have hi2 : I k A1 W2 := by rw [← hW2]; exact hI _ _ _ _ hi (Steady.put _ hl rfl (by omega) hf1)
      have hE2 : Ext T noX A w A1 W2 := by rw [← hW2]; exact ((hE1 noX).trans hEW).putNew (by omega) _
      have hd2 : Dom A1 W2 := hE2.dom hd
      have hx2 : Ext T (· = w.heap.size + 1) A1 W A1 W2 := by
        refine ⟨by rw [← hW2]; rfl, by rw [← hW2]; rfl, by rw [← hW2]; rfl, by omega, fun b _ hb _ => ho2 b hb, fun _ _ _ => rfl, fun b t g hb hA hT => ⟨g, Nat.le_refl _, hA, fun i _ => World.cell?_of_block (a := ⟨b, i, none⟩) (ho2 b (fun e => by rw [e, hf1] at hA; cases hA))⟩, fun hdd => ⟨by rw [hs2]; exact hdd.1, by rw [hs2]; exact hdd.2⟩⟩
      have hU2 : UnitAt A1 W2 x u := hU.ext hx2 (fun b ⟨v, hv⟩ e => by
        subst e
        simp [World.cell?, hl] at hv)
      have hb := hbody (w.heap.size + 1) k x u A1 W2 hu hi2 hE2 hd2 hU2 (by omega)
      refine wpIn_mono (Eq.mpr (congrArg (fun V => Code.wpIn (Fence.wide.inRound (w.heap.size + 1)) 0 Try.prog body (postR T X I Ix (k + 1) A1 W2) (a₁ x) V) hW2) hb) ?_
      rintro e a3 W3 hp
      cases e with
      | normal =>
        obtain ⟨A', hE3, hi3⟩ := hp
        have hlt2 : w.heap.size + 1 < W2.heap.size := by omega
        have no1 : ∀ t g, A1 (w.heap.size + 1) = .own t g → ¬ T t := fun t g e => by rw [hf1] at e; cases e
        have no2 : ∀ t g, A1 w.heap.size = .own t g → ¬ T t := fun t g e => by rw [hf2] at e; cases e
        have hl3 := (hE3.keep _ hlt2 (fun h => h) no1).trans hl2
        have hk3 := (hE3.keep w.heap.size (by omega) (fun h => h) no2).trans hk2
        have hg1 := free_keep hE3 hlt2 hf1
        have hg2 := free_keep hE3 (show w.heap.size < W2.heap.size by omega) hf2
        have hr := run_endRound (P := Try.prog) none hl3
        have hlt3 : w.heap.size + 1 < W3.heap.size := (Array.getElem?_eq_some_iff.1 hl3).1
        have hsp := Steady.put (A := A') (n0 := w.heap.size) (.loop (rec .ready none)) hl3 rfl (by omega) hg1
        rw [hrec] at hr hl3 hsp
        refine ⟨_, _, hr, A', .inl ⟨rfl, ?_, hI _ _ _ _ hi3 hsp, ?_, ?_, hg1, hg2⟩⟩
        · have hlast : (W3.putObj (w.heap.size + 1) (.loop (rec .ready none))).heap[w.heap.size + 1]? = some (.loop (rec .ready none)) := World.putObj_heap_same hlt3
          have hoth : ∀ b, b ≠ w.heap.size + 1 → (W3.putObj (w.heap.size + 1) (.loop (rec .ready none))).heap[b]? = W3.heap[b]? := fun b hb => World.putObj_heap_other (by omega)
          have hs3 : (W3.putObj (w.heap.size + 1) (.loop (rec .ready none))).heap.size = W3.heap.size := by simp [World.putObj]
          have key : Ext T noX A1 W A' (W3.putObj (w.heap.size + 1) (.loop (rec .ready none))) := by
            refine ⟨hE3.os.trans hx2.os, hE3.tape.trans hx2.tape, hE3.output.trans hx2.output, by have := hE3.size; omega, fun b hb _ hn => ?_, fun b hb hn => hE3.gh b (by omega) hn, fun b t g hb hA hT => ?_, fun hdd => ?_⟩
            · by_cases e : b = w.heap.size + 1
              · subst e; exact hlast.trans hl.symm
              · exact (hoth b e).trans ((hE3.keep b (by omega) (fun h => h) hn).trans (ho2 b e))
            · obtain ⟨g', j1, j2, j3⟩ := hE3.own b t g (by omega) hA hT
              have hne : b ≠ w.heap.size + 1 := fun e => by rw [e, hf1] at hA; cases hA
              exact ⟨g', j1, j2, fun i hi => (World.cell?_of_block (a := ⟨b, i, none⟩) (hoth b hne)).trans ((j3 i hi).trans (World.cell?_of_block (a := ⟨b, i, none⟩) (ho2 b hne)))⟩
            · have := hE3.dom hd2
              exact ⟨by rw [hs3]; exact this.1, by rw [hs3]; exact this.2⟩
          rw [hrec] at key
          exact key
        · rw [hrec]; exact World.putObj_heap_same hlt3
        · exact (World.putObj_heap_other (by omega)).trans hk3
      | ret =>
        obtain ⟨A', hE3, hi3⟩ := hp
        have hlt2 : w.heap.size + 1 < W2.heap.size := by omega
        have nx1 : ¬ X (w.heap.size + 1) := fun h => by have := (hX _ h).2; omega
        have nx2 : ¬ X w.heap.size := fun h => by have := (hX _ h).2; omega
        have no1 : ∀ t g, A1 (w.heap.size + 1) = .own t g → ¬ T t := fun t g e => by rw [hf1] at e; cases e
        have no2 : ∀ t g, A1 w.heap.size = .own t g → ¬ T t := fun t g e => by rw [hf2] at e; cases e
        have hl3 := (hE3.keep _ hlt2 nx1 no1).trans hl2
        have hk3 := (hE3.keep w.heap.size (by omega) nx2 no2).trans hk2
        have hg1 := free_keep hE3 hlt2 hf1
        have hg2 := free_keep hE3 (show w.heap.size < W2.heap.size by omega) hf2
        have hr := run_endRound (P := Try.prog) (some .ret) hl3
        have hlt3 : w.heap.size + 1 < W3.heap.size := (Array.getElem?_eq_some_iff.1 hl3).1
        have hsp := Steady.put (A := A') (n0 := w.heap.size) (.loop (rec .done (some .ret))) hl3 rfl (by omega) hg1
        rw [hrec] at hr hl3 hsp
        refine ⟨_, _, hr, A', .inr ⟨rfl, ?_, hIx _ _ _ _ hi3 hsp, ?_, ?_, hg1, hg2⟩⟩
        · have hoth : ∀ b, b ≠ w.heap.size + 1 → (W3.putObj (w.heap.size + 1) (.loop (rec .done (some .ret)))).heap[b]? = W3.heap[b]? := fun b hb => World.putObj_heap_other (by omega)
          have hs3 : (W3.putObj (w.heap.size + 1) (.loop (rec .done (some .ret)))).heap.size = W3.heap.size := by simp [World.putObj]
          have key : Ext T (fun b => b = w.heap.size + 1 ∨ X b) A1 W A' (W3.putObj (w.heap.size + 1) (.loop (rec .done (some .ret)))) := by
            refine ⟨hE3.os.trans hx2.os, hE3.tape.trans hx2.tape, hE3.output.trans hx2.output, by have := hE3.size; omega, fun b hb hx hn => ?_, fun b hb hn => hE3.gh b (by omega) hn, fun b t g hb hA hT => ?_, fun hdd => ?_⟩
            · have e : b ≠ w.heap.size + 1 := fun e => hx (.inl e)
              exact (hoth b e).trans ((hE3.keep b (by omega) (fun h => hx (.inr h)) hn).trans (ho2 b e))
            · obtain ⟨g', j1, j2, j3⟩ := hE3.own b t g (by omega) hA hT
              have hne : b ≠ w.heap.size + 1 := fun e => by rw [e, hf1] at hA; cases hA
              exact ⟨g', j1, j2, fun i hi => (World.cell?_of_block (a := ⟨b, i, none⟩) (hoth b hne)).trans ((j3 i hi).trans (World.cell?_of_block (a := ⟨b, i, none⟩) (ho2 b hne)))⟩
            · have := hE3.dom hd2
              exact ⟨by rw [hs3]; exact this.1, by rw [hs3]; exact this.2⟩
          rw [hrec] at key
          exact key
        · rw [hrec]; exact World.putObj_heap_same hlt3
        · exact (World.putObj_heap_other (by omega)).trans hk3
      | exit id => exact hp.elim
      | goto t => exact hp.elim
      | panic ch => exact hp.elim
      | outgrown => exact hp.elim
    · -- BEHIND THE ITERATOR
      rintro e W2 ⟨⟨v, rfl⟩, A', (⟨⟨hi, hl, hk, hf1, hf2⟩, hE⟩ | ⟨k, hkl, ⟨hi, hl, hk, hf1, hf2⟩, hE⟩)⟩
      · refine ⟨none, _, by have := run_endLoop (P := Try.prog) hl (by rw [hrec]; simp); rw [hrec] at this; exact this, hdone _ A' _ (Nat.le_refl _) (hI _ _ _ _ hi (Steady.put _ hl rfl (by omega) hf1)) (((hE1 noX).trans hE).putNew (by omega) _) hf2 ((World.putObj_heap_other (by omega)).trans hk)⟩
      · refine ⟨some .ret, _, by have := run_endLoop (P := Try.prog) hl (by rw [hrec]; simp); rw [hrec] at this; exact this, hstop _ k A' _ (Nat.le_refl _) hkl (hIx _ _ _ _ hi (Steady.put _ hl rfl (by omega) hf1)) ((((hE1 _).trans hE).shrink (fun b hb hx => hx.elim (fun e => absurd e (by omega)) (fun h => h))).putNew (by omega) _) hf2 ((World.putObj_heap_other (by omega)).trans hk)⟩
end Go.Proofs.Ytfmigkmkdhciiaa.K
