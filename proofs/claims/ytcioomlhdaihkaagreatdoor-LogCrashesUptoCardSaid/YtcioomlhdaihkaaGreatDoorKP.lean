/-
  Disks: units applied to files; all steps' units, one after the other.
-/
import Derived.Test.YtcioomlhdaihkaaGreatDoorWK2
namespace Go.Proofs.YtcioomlhdaihkaaGreatDoor.K
set_option linter.unusedVariables false
set_option linter.unusedSimpArgs false
set_option maxRecDepth 100000
open Go Go.RowKit Go.Maps Go.MapKept Go.ChangeMaps Go.Shelf
set_option maxRecDepth 100000
set_option linter.unusedVariables false
set_option linter.unusedSimpArgs false
attribute [local go_sem] Oper.semAt_some

theorem Steady.block {n0 : Nat} {A : Gh} {W W' : World} (h : Steady n0 A W W') {b : Nat} (hb : b < W.heap.size) (hf : A b ≠ .free) : W'.heap[b]? = W.heap[b]? := by
  have e : W.heap[b]? = some W.heap[b] := Array.getElem?_eq_getElem hb
  rw [e]
  exact h.same b _ e (.inr (.inr hf))
theorem Steady.cell {n0 : Nat} {A : Gh} {W W' : World} (h : Steady n0 A W W') {b : Nat} {v : Value} (hc : W.cell? ⟨b, 0, none⟩ = some v) : W'.cell? ⟨b, 0, none⟩ = some v := by
  unfold World.cell? at hc
  dsimp only at hc
  split at hc
  · rename_i c t fr he
    have := h.same b _ he (.inr (.inl rfl))
    unfold World.cell?
    dsimp only
    rw [this]
    exact hc
  · cases hc
theorem BytesV.steady {n0 : Nat} {A : Gh} {W W' : World} (h : Steady n0 A W W') {v : Value} {c : Str} (hv : BytesV A W v c) : BytesV A W' v c := by
  rcases hv with hv | ⟨g, cap, e, h0, h1, h2, h3, h4, h5⟩
  · exact .inl hv
  · exact .inr ⟨g, cap, e, h0, h1, h2, Nat.lt_of_lt_of_le h3 h.size, h4, fun i x hx => (World.cell?_of_block (a := ⟨g, i, none⟩) (h.block h3 h4.1)).trans (h5 i x hx)⟩
theorem OwnV.steady {n0 t : Nat} {A : Gh} {W W' : World} (h : Steady n0 A W W') {v : Value} (hv : OwnV t A W v) : OwnV t A W' v := by
  intro g n cap e hn
  obtain ⟨h1, cur, h2, h3⟩ := hv g n cap e hn
  exact ⟨h1, cur, h.same g _ h2 (.inr (.inl rfl)), h3⟩
theorem Files.steady {n0 t m : Nat} {A : Gh} {W W' : World} (h : Steady n0 A W W') (hm : A m ≠ .free) {fs : Fs} {f : Str → Option Value} (hF : Files t A W m fs f) : Files t A W' m fs f :=
  ⟨hF.sorted, hF.map.keep (h.block hF.map.lt hm), hF.same, fun s c hc => by obtain ⟨v, h1, h2⟩ := hF.holds s c hc; exact ⟨v, h1, h2.steady h⟩, fun s v hs hv => (hF.own s v hs hv).steady h, hF.alone⟩
theorem Ext.drop {T T' X : Nat → Prop} {A B : Gh} {w W : World} (h : Ext T X A w B W) (h1 : ∀ b t g, b < w.heap.size → A b = .own t g → T t → T' t) (h2 : ∀ t, T' t → T t) : Ext T' X A w B W :=
  ⟨h.os, h.tape, h.output, h.size, fun b hb hx hn => h.keep b hb hx (fun t g e hT => hn t g e (h1 b t g hb e hT)), fun b hb hn => h.gh b hb (fun t g e hT => hn t g e (h1 b t g hb e hT)), fun b t g hb hA hT => h.own b t g hb hA (h2 t hT), h.dom⟩
theorem setG_eq {A : Gh} {g : Nat} {c : Cls} (h : A g = c) : setG A g c = A := by
  funext b
  by_cases hb : b = g
  · subst hb; rw [setG_same, h]
  · exact setG_other A _ hb
/-- A cell of one of t's own boxes is written. -/
theorem Ext.box {T X : Nat → Prop} {A : Gh} {W : World} {t b : Nat} (hA : A b = .own t 0) (hT : T t) (hb : b < W.heap.size) (v : Value) : Ext T X A W A (W.setCell ⟨b, 0, none⟩ v) := by
  have := Ext.turn (X := X) (w := W) (w' := W.setCell ⟨b, 0, none⟩ v) hA hT (Nat.le_refl 0) rfl rfl rfl (by simp [World.setCell]) hb (fun i hi => Below.heap_setCell W ⟨b, 0, none⟩ v i hi) (fun i hi => absurd hi (Nat.not_lt_zero _))
  rwa [setG_eq hA] at this
/-- Boxes that stay as they are. -/
theorem ext_box2 {T X : Nat → Prop} {A B : Gh} {w w' : World} (h : Ext T X A w B w') {b t : Nat} {g : Nat} {o : Obj} (hb : w.heap[b]? = some o) (hA : A b = .own t g) (hT : ¬ T t) (hX : ¬ X b) : w'.heap[b]? = some o ∧ B b = .own t g := by
  have hlt := (Array.getElem?_eq_some_iff.1 hb).1
  have hn : ∀ t' g', A b = .own t' g' → ¬ T t' := fun t' g' e => by rw [hA] at e; cases e; exact hT
  exact ⟨(h.keep b hlt hX hn).trans hb, (h.gh b hlt hn).trans hA⟩

theorem heap_set1 {W : World} {b : Nat} {x : Value} {t : TypeId} {fr : Nat × Nat} (h : W.heap[b]? = some (.cells #[x] t fr)) (v : Value) : (W.setCell ⟨b, 0, none⟩ v).heap[b]? = some (.cells #[v] t fr) := by
  simp only [World.setCell, Array.getElem?_modify, if_true, h]
  rfl

set_option maxHeartbeats 2000000 in
theorem disk_apply {t m : Nat} {A : Gh} {w : World} {fs : Fs} {f : Str → Option Value} {us : List U} {v : Value} {count : Nat} (hF : Files t A w m fs f) (hA : ∃ g, A m = .own t g) (hd : Dom A w) (hseq : ∀ T : Nat → Prop, (∀ x, T x → x = t ∨ 2 * w.heap.size ≤ x) → SeqU T A w v us)
    (hlim : wt fs + 2 * us.length ≤ 1099511627776) (hc : count ≤ 9223372036854775807) :
    Calls Tryz.prog 43 #[.map (some m), v, .int .i64 (count : Int)] w (UnitDone t A w m (runs (us.take count) fs)) := by
  have htw : t < 2 * w.heap.size := by obtain ⟨g, hA⟩ := hA; exact hd.2 m t g hA
  refine (callsIn_wide (n := 2)).1 ?_
  refine callsIn_of_wp_marks Tryz.func43 rfl trivial ?_ rfl
  simp only [Tryz.ntmps43, List.size_toArray, List.length_cons, List.length_nil, Nat.reduceAdd, Nat.reduceSub, Array.replicate_succ, Array.replicate_zero, List.push_toArray, List.append_toArray, List.nil_append, List.cons_append]
  gi_wp2
  obtain ⟨W0, hW0⟩ : ∃ W0, (w.alloc (.cells #[.map (some m)] 50)).alloc (.cells #[.int .i64 (count : Int)] 3) = W0 := ⟨_, rfl⟩
  rw [hW0]
  have hsz : W0.heap.size = w.heap.size + 2 := by rw [← hW0]; simp
  have hbw : Below w.heap.size w W0 := by rw [← hW0]; exact ((Below.refl _ w).alloc (Nat.le_refl _) _).alloc (by simp) _
  obtain ⟨tb, htb⟩ : ∃ tb, tb = 2 * (w.heap.size + 1) := ⟨_, rfl⟩
  obtain ⟨T, hT⟩ : ∃ T : Nat → Prop, T = fun x => x = t ∨ x = tb := ⟨_, rfl⟩
  have hTt : T t := by rw [hT]; exact .inl rfl
  have hTb : T tb := by rw [hT]; exact .inr rfl
  have hne : ¬ t = tb := by omega
  have hE0 : Ext T noX A w (setG A (w.heap.size + 1) (.own tb 0)) W0 := Ext.newG hbw (by omega) (by omega) _ (fun t' g' e => by cases e; omega)
  obtain ⟨A1, hA1⟩ : ∃ A1, setG A (w.heap.size + 1) (.own tb 0) = A1 := ⟨_, rfl⟩
  rw [hA1] at hE0
  have hd1 := hE0.dom hd
  have hb1 : A1 (w.heap.size + 1) = .own tb 0 := by rw [← hA1]; exact setG_same ..
  have hf1 : A1 w.heap.size = .free := by rw [← hA1, setG_other _ _ (by omega)]; exact hd.free (Nat.le_refl _)
  have hc1 : W0.cell? ⟨w.heap.size, 0, none⟩ = some (.map (some m)) := by
    rw [← hW0]
    exact (World.cell?_of_block (a := ⟨w.heap.size, 0, none⟩) (Below.heap_alloc _ _ _ (by simp))).trans (cell_new w _ _ 0)
  have hbx : W0.heap[w.heap.size + 1]? = some (.cells #[.int .i64 (count : Int)] 3 (0, 0)) := by
    rw [← hW0]
    have := heap_last (w.alloc (.cells #[.map (some m)] 50)) (.cells #[.int .i64 (count : Int)] 3)
    rwa [World.size_alloc] at this
  have hAm1 : ∃ g, A1 m = .own t g := by
    obtain ⟨g, hA⟩ := hA
    have := hF.map.lt
    exact ⟨g, by rw [← hA1, setG_other _ _ (by omega)]; exact hA⟩
  have hF1 : Files t A1 W0 m fs f := hF.ext (T := fun _ => False) (X := noX) (hA1 ▸ Ext.newG hbw (by omega) (by omega) _ (fun t' g' e => by cases e; omega)) (fun _ h => h.elim) (fun h => h) (by obtain ⟨g, hA⟩ := hA; rw [hA]; simp) (fun _ _ _ h => h)
  -- what is left when the loop has ended
  have fin : ∀ {D : Nat} {A' : Gh} {W : World}, W0.heap.size ≤ D → (∃ f1, Files t A' W m (runs (us.take count) fs) f1) → (∃ g, A' m = .own t g) → Ext T noX A1 W0 A' W → A' D = .free → W.heap[D]? = some (.deferred (some [])) →
      ∀ v', UnitDone t A w m (runs (us.take count) fs) (.returned v') (W.putObj D (.deferred none)) := by
    intro D A' W hD ⟨f1, hf⟩ ⟨g, hg⟩ hE hfr hK v'
    refine ⟨⟨_, rfl⟩, A', f1, ?_, hf.steady (Steady.put _ hK rfl (Nat.zero_le _) hfr) (by rw [hg]; simp)⟩
    refine (((hE0.trans hE).drop (T' := (· = t)) (fun b t' g' hb e hT' => ?_) (fun t' e => by rw [e]; exact hTt))).putNew (by omega) _
    rw [hT] at hT'
    rcases hT' with h | h
    · exact h
    · have := hd.2 b t' g' e
      omega
  refine wp_range (T := T) (X := noX) (n := 2) (A0 := A) (w0 := w) (A := A1) (by omega) rfl (hseq T (fun x hx => by rw [hT] at hx; rcases hx with h | h; exact .inl h; exact .inr (by omega))) hE0 hd1 (fun _ h => h.elim)
    (fun k A' W => k ≤ us.length ∧ k ≤ count ∧ (∃ f1, Files t A' W m (runs (us.take k) fs) f1) ∧ (∃ g, A' m = .own t g) ∧ W.cell? ⟨w.heap.size, 0, none⟩ = some (.map (some m)) ∧ A' w.heap.size = .free ∧ W.heap[w.heap.size + 1]? = some (.cells #[.int .i64 ((count - k : Nat) : Int)] 3 (0, 0)) ∧ A' (w.heap.size + 1) = .own tb 0)
    (fun _ A' W => (∃ f1, Files t A' W m (runs (us.take count) fs) f1) ∧ ∃ g, A' m = .own t g) ?_ ?_ ⟨Nat.zero_le _, Nat.zero_le _, ⟨f, hF1⟩, hAm1, hc1, hf1, hbx, hb1⟩
    (fun x => { tmps := #[.map (some m), v, .int .i64 (count : Int), .pointer (some ⟨w.heap.size, 0, none⟩), undef, .pointer (some ⟨w.heap.size + 1, 0, none⟩), x, v, x, undef, undef, undef, undef, undef, undef, undef], defers := [] }) ?_ ?_ ?_ ?_
  · rintro k B W W' ⟨i1, i2, ⟨f1, i3⟩, ⟨g, i4⟩, i5, i6, i7, i8⟩ hs
    exact ⟨i1, i2, ⟨f1, i3.steady hs (by rw [i4]; simp)⟩, ⟨g, i4⟩, hs.cell i5, i6, hs.same _ _ i7 (.inr (.inl rfl)), i8⟩
  · rintro k B W W' ⟨⟨f1, i3⟩, g, i4⟩ hs
    exact ⟨⟨f1, i3.steady hs (by rw [i4]; simp)⟩, g, i4⟩
  · intro l x W K hK
    gi_wp2
    exact hK
  · rintro l k x u B W hu ⟨i1, i2, ⟨f1, i3⟩, ⟨g, i4⟩, i5, i6, i7, i8⟩ hEW hdW hU hl
    have hcc : W.cell? ⟨w.heap.size + 1, 0, none⟩ = some (.int .i64 ((count - k : Nat) : Int)) := (cell_row i7 0).trans rfl
    by_cases hk : k = count
    · subst hk
      rw [Nat.sub_self] at hcc
      gi_wp2
      exact ⟨B, Ext.refl _ _ _ _, ⟨f1, i3⟩, g, i4⟩
    · have hkc : k < count := by omega
      have hlt : k < us.length := (List.getElem?_eq_some_iff.1 hu).1
      have hw : wt (runs (us.take k) fs) ≤ 1099511627776 := by
        have := runs_wt (us.take k) hF.sorted
        have h2 : (us.take k).length ≤ us.length := List.length_take_le' _ _
        omega
      obtain ⟨fn, caps, rfl, hen, hcall⟩ := unit_run i3 ⟨g, i4⟩ hw hdW hU
      have hrun1 : u.run (runs (us.take k) fs) = runs (us.take (k + 1)) fs := by
        rw [List.take_succ_eq_append_getElem hlt, runs_append]
        have : us[k] = u := by have := List.getElem?_eq_getElem hlt; rw [hu] at this; exact (Option.some.inj this).symm
        rw [this]; rfl
      rw [hrun1] at hcall
      have hn0 : ¬ ((count - k : Nat) : Int) = 0 := by omega
      have hn1 : ((((count - k : Nat) : Int)) == 0) = false := by simp; omega
      gi_wp2
      refine ⟨trivial, rfl, (CallsIn.inRound l (callsIn_wide.2 hcall)).mono ?_⟩
      rintro e W' ⟨⟨v1, rfl⟩, A', f', hE', hF'⟩
      obtain ⟨j1, j2⟩ := ext_box2 hE' i7 i8 (fun h => hne h.symm) (fun h => h)
      obtain ⟨j3, _⟩ := cell_ext hE' i5 (fun t' g' e => by rw [i6] at e; cases e) (fun h => h)
      have j4 : A' w.heap.size = .free := (hE'.gh _ (World.block_lt_of_cell? W _ i5) (fun t' g' e => by rw [i6] at e; cases e)).trans i6
      obtain ⟨g', _, j5, _⟩ := hE'.own m t g i3.map.lt i4 rfl
      have hc3 : W'.cell? ⟨w.heap.size + 1, 0, none⟩ = some (.int .i64 ((count - k : Nat) : Int)) := (cell_row j1 0).trans rfl
      have hfz : W'.frozen? ⟨w.heap.size + 1, 0, none⟩ = false := by simp [World.frozen?, j1]
      have hb0 : (1 : Int) ≤ ((count - k : Nat) : Int) := by omega
      have hb9 : ((count - k : Nat) : Int) ≤ 9223372036854775807 := by omega
      have hlt3 : w.heap.size + 1 < W'.heap.size := (Array.getElem?_eq_some_iff.1 j1).1
      have hrow3 : (W'.setCell ⟨w.heap.size + 1, 0, none⟩ (.int .i64 (((count - k : Nat) : Int) - 1))).heap[w.heap.size + 1]? = some (.cells #[.int .i64 ((count - (k + 1) : Nat) : Int)] 3 (0, 0)) := by
        have : (((count - k : Nat) : Int) - 1) = ((count - (k + 1) : Nat) : Int) := by omega
        rw [this]
        exact heap_set1 j1 _
      clear hcc i7 hn0 hn1
      gi_wp2
      have hEb : ∀ Y, Ext (· = tb) Y A' W' A' (W'.setCell ⟨w.heap.size + 1, 0, none⟩ (.int .i64 (((count - k : Nat) : Int) - 1))) := fun Y => Ext.box (T := (· = tb)) j2 rfl hlt3 _
      exact ⟨A', (hE'.mono0 (fun t' e => by rw [e]; exact hTt)).trans ((hEb noX).mono0 (fun t' e => by rw [e]; exact hTb)), hlt, hkc, ⟨f', hF'.ext (hEb noX) (fun _ h => h.elim) hne (by rw [j5]; simp) (fun t' g2 e => by rw [j5] at e; cases e; exact hne)⟩, ⟨g', j5⟩,
        (World.cell?_of_block (a := ⟨w.heap.size, 0, none⟩) (Below.heap_setCell W' _ _ _ (by simp))).trans j3, j4, hrow3, j2⟩
  · rintro D A' W hD ⟨i1, i2, ⟨f1, i3⟩, i4, i5, i6, i7, i8⟩ hE hfr hK
    gi_wp2
    refine ⟨by simp, .inl ⟨_, _, rfl, run_takeDeferred hK, ?_⟩⟩
    refine ⟨_, results_none rfl _ _ _, ?_⟩
    exact fin hD ⟨f1, by rw [List.take_of_length_le (by simpa using i2)]; rwa [List.take_length] at i3⟩ i4 hE hfr hK _
  · rintro D k A' W hD hk ⟨hf, i4⟩ hE hfr hK
    gi_wp2
    refine ⟨by simp, .inl ⟨_, _, rfl, run_takeDeferred hK, ?_⟩⟩
    refine ⟨_, results_none rfl _ _ _, ?_⟩
    exact fin hD hf i4 hE hfr hK _
end Go.Proofs.YtcioomlhdaihkaaGreatDoor.K
