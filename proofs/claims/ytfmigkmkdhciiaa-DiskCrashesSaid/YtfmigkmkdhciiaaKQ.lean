/-
  Disks: all steps' units, one after the other.
-/
import Derived.Test.YtfmigkmkdhciiaaKP
namespace Go.Proofs.Ytfmigkmkdhciiaa.K
set_option linter.unusedVariables false
set_option linter.unusedSimpArgs false
set_option maxRecDepth 100000
open Go Go.RowKit Go.Maps Go.MapKept Go.ChangeMaps Go.Shelf
attribute [local go_sem] Oper.semAt_some

def mk1 (D : Nat) : Deferred := { target := .collected D, args := #[] }
/-- The marks that ranges have left. -/
def Marks (n0 : Nat) (A : Gh) (W : World) (Ds : List Nat) : Prop := Ds.Nodup ∧ ∀ D ∈ Ds, n0 ≤ D ∧ A D = .free ∧ W.heap[D]? = some (.deferred (some []))
theorem Marks.ext {T X : Nat → Prop} {n0 : Nat} {A B : Gh} {W W' : World} {Ds : List Nat} (h : Marks n0 A W Ds) (hE : Ext T X A W B W') (hX : ∀ b, X b → b < n0) : Marks n0 B W' Ds := by
  refine ⟨h.1, fun D hD => ?_⟩
  obtain ⟨h1, h2, h3⟩ := h.2 D hD
  have hlt := (Array.getElem?_eq_some_iff.1 h3).1
  have hn : ∀ t g, A D = .own t g → ¬ T t := fun t g e => by rw [h2] at e; cases e
  exact ⟨h1, (hE.gh D hlt hn).trans h2, (hE.keep D hlt (fun hx => by have := hX D hx; omega) hn).trans h3⟩
theorem Marks.steady {n0 n1 : Nat} {A : Gh} {W W' : World} {Ds : List Nat} (h : Marks n0 A W Ds) (hs : Steady n1 A W W') (hlt : ∀ D ∈ Ds, D < n1) : Marks n0 A W' Ds :=
  ⟨h.1, fun D hD => by obtain ⟨h1, h2, h3⟩ := h.2 D hD; exact ⟨h1, h2, hs.same D _ h3 (.inl (hlt D hD))⟩⟩
theorem leaves_marks {n n0 : Nat} {fn : Func} {tmps : Array Value} {R : Ending → World → Prop} {A : Gh} {w : World} (hres : ∀ W, ∃ v, (results fn tmps).run Try.prog W = .ok v W) : ∀ (Ds : List Nat) (W : World), Marks n0 A W Ds →
    (∀ W', Steady n0 A W W' → (∀ {T X : Nat → Prop} {A0 : Gh} {w : World}, w.heap.size ≤ n0 → Ext T X A0 w A W → Ext T X A0 w A W') → ∀ v, R (.returned v) W') → LeavesInM Fence.wide n Try.prog fn tmps R (Ds.map mk1) .returning W
  | [], W, _, h => by
    obtain ⟨v, hv⟩ := hres W
    exact ⟨v, hv, h W (Steady.refl _ _ _) (fun _ h => h) v⟩
  | D :: r, W, hm, h => by
    obtain ⟨hnd, hall⟩ := hm
    obtain ⟨h1, h2, h3⟩ := hall D (List.mem_cons_self ..)
    obtain ⟨hD, hnd⟩ := List.nodup_cons.1 hnd
    refine ⟨by simp, .inl ⟨D, _, rfl, run_takeDeferred h3, ?_⟩⟩
    have hs : Steady n0 A W (W.putObj D (.deferred none)) := Steady.put _ h3 rfl h1 h2
    refine leaves_marks (n0 := n0) (A := A) (w := w) hres r _ ⟨hnd, fun E hE => ?_⟩ (fun W' hs' hx v => h W' (hs.trans hs') (fun hn hE => hx hn (hE.putNew (by omega) _)) v)
    obtain ⟨i1, i2, i3⟩ := hall E (List.mem_cons_of_mem _ hE)
    exact ⟨i1, i2, (World.putObj_heap_other (fun e => hD (by subst e; exact hE))).trans i3⟩

/-- A slice of function values. -/
def StepsAt (T : Nat → Prop) (A : Gh) (w : World) (vs : Value) (xs : List Value) : Prop :=
  ∃ ad cap, vs = .slice ad xs.length cap ∧ xs.length ≤ 1099511627776 ∧ ∀ i x, xs[i]? = some x → ∃ r, ad = some ⟨r, 0, none⟩ ∧ w.cell? ⟨r, i, none⟩ = some x ∧ A r ≠ .free ∧ ∀ t g, A r = .own t g → ¬ T t
theorem StepsAt.ext {T T' X : Nat → Prop} {A B : Gh} {w w' : World} {vs : Value} {xs : List Value} (h : StepsAt T A w vs xs) (hE : Ext T X A w B w') (hX : ∀ b, X b → A b = .free) : StepsAt T B w' vs xs := by
  obtain ⟨ad, cap, rfl, hl, hc⟩ := h
  refine ⟨ad, cap, rfl, hl, fun i x hx => ?_⟩
  obtain ⟨r, rfl, h1, h2, h3⟩ := hc i x hx
  have hr : r < w.heap.size := World.block_lt_of_cell? w ⟨r, i, none⟩ h1
  obtain ⟨j1, j2⟩ := hE.same hX hr h2 h3
  exact ⟨r, rfl, (World.cell?_of_block (a := ⟨r, i, none⟩) j1).trans h1, by rw [j2]; exact h2, by rw [j2]; exact h3⟩

theorem flatten_at {α : Type} : ∀ (l : List (List α)) (i k : Nat) (us : List α) (u : α), l[i]? = some us → us[k]? = some u → l.flatten[(l.take i).flatten.length + k]? = some u
  | [], i, k, us, u, h, _ => by simp at h
  | x :: r, 0, k, us, u, h, hk => by
    have e : x = us := by simpa using h
    subst e
    have hlt := (List.getElem?_eq_some_iff.1 hk).1
    simp [List.getElem?_append_left hlt, hk]
  | x :: r, i + 1, k, us, u, h, hk => by
    have := flatten_at r i k us u (by simpa using h) hk
    rw [List.flatten_cons, List.take_succ_cons, List.flatten_cons, List.length_append, Nat.add_assoc, List.getElem?_append_right (by omega), Nat.add_sub_cancel_left]
    exact this
theorem flatten_take {α : Type} (l : List (List α)) (i : Nat) (us : List α) (h : l[i]? = some us) : (l.take (i + 1)).flatten.length = (l.take i).flatten.length + us.length := by
  have hlt := (List.getElem?_eq_some_iff.1 h).1
  rw [List.take_succ_eq_append_getElem hlt]
  have : l[i] = us := by have := List.getElem?_eq_getElem hlt; rw [h] at this; exact (Option.some.inj this).symm
  rw [this]
  simp

set_option maxHeartbeats 4000000 in
theorem seq_pending {T : Nat → Prop} {A0 : Gh} {w0 : World} {bd p : Nat} {vs : Value} {xs : List Value} {uss : List (List U)} (hbd : w0.cell? ⟨bd, 0, none⟩ = some (.pointer (some ⟨p, 0, none⟩))) (hnb : nown A0 bd)
    (hst : w0.cell? ⟨p, 3, none⟩ = some vs) (hpf : ∀ t g, A0 p = .own t g → ¬ T t) (hrow : StepsAt T A0 w0 vs xs) (hlen : xs.length = uss.length) (hseqs : ∀ (i : Nat) x us, xs[i]? = some x → uss[i]? = some us → SeqU T A0 w0 x us) :
    SeqU T A0 w0 (.func (.func 51) #[] #[.pointer (some ⟨bd, 0, none⟩)]) uss.flatten := by
  refine ⟨_, _, rfl, fun _ _ => rfl, fun X l J Jx A W hE hd hJ hJx hX hY h0 => ?_⟩
  have HL := Lib.hid hlen
  clear hlen
  obtain ⟨h1, _⟩ := cell_ext hE hbd hnb (fun h => h)
  have hp0 : p < w0.heap.size := World.block_lt_of_cell? w0 ⟨p, 3, none⟩ hst
  have h3 : W.cell? ⟨p, 3, none⟩ = some vs := (World.cell?_of_block (a := ⟨p, 3, none⟩) (hE.keep p hp0 (fun h => h) hpf)).trans hst
  have hrow1 := hrow.ext (T' := T) hE (fun _ h => h.elim)
  obtain ⟨ad, cap, rfl, hl40, hcells⟩ := id hrow1
  refine (callsIn_wide (n := 2)).1 ?_
  refine callsIn_of_wp_marks Try.func51 rfl trivial ?_ rfl
  simp only [Try.ntmps51, List.size_toArray, List.length_cons, List.length_nil, Nat.reduceAdd, Nat.reduceSub, Array.replicate_succ, Array.replicate_zero, List.push_toArray, List.append_toArray, List.nil_append, List.cons_append]
  have hpW : p < W.heap.size := World.block_lt_of_cell? W ⟨p, 3, none⟩ h3
  have h3' : (W.alloc (.cells #[.func (.yield l) #[] #[]] 91)).cell? ⟨p, 3, none⟩ = some (.slice ad xs.length cap) := (World.cell?_of_block (a := ⟨p, 3, none⟩) (Below.heap_alloc W _ p hpW)).trans h3
  have hbW : bd < W.heap.size := World.block_lt_of_cell? W ⟨bd, 0, none⟩ h1
  have h1' : (W.alloc (.cells #[.func (.yield l) #[] #[]] 91)).cell? ⟨bd, 0, none⟩ = some (.pointer (some ⟨p, 0, none⟩)) := (World.cell?_of_block (a := ⟨bd, 0, none⟩) (Below.heap_alloc W _ bd hbW)).trans h1
  clear h1 h3
  gi_wp2
  have hby : (W.alloc (.cells #[.func (.yield l) #[] #[]] 91)).cell? ⟨W.heap.size, 0, none⟩ = some (.func (.yield l) #[] #[]) := cell_new W _ _ 0
  have hEW : Ext T noX A W A (W.alloc (.cells #[.func (.yield l) #[] #[]] 91)) := Ext.of_below ((Below.refl _ W).alloc (Nat.le_refl _) _)
  have hJW := hJ _ _ _ _ h0 (Steady.of_below ((Below.refl _ W).alloc (Nat.le_refl _) (.cells #[.func (.yield l) #[] #[]] 91)))
  refine wpIn_loop (fun a' w' => ∃ (i : Nat) (u4 u12 u13 u14 u15 u21 : Value) (Ds : List Nat) (Ai : Gh),
    a' = { tmps := #[.func (.yield l) #[] #[], .pointer (some ⟨bd, 0, none⟩), .pointer (some ⟨W.heap.size, 0, none⟩), undef, u4, undef, .pointer (some ⟨p, 0, none⟩), .pointer (some ⟨p, 0, none⟩), .pointer (some ⟨p, 3, none⟩), .slice ad xs.length cap, .int .i64 (xs.length : Int), .int .i64 (i : Int), u12, u13, u14, u15, undef, undef, undef, undef, undef, u21], defers := Ds.map mk1 } ∧
    i ≤ xs.length ∧ Ext T noX A W Ai w' ∧ J (uss.take i).flatten.length Ai w' ∧ w'.cell? ⟨W.heap.size, 0, none⟩ = some (.func (.yield l) #[] #[]) ∧ Ai W.heap.size = .free ∧ Marks W.heap.size Ai w' Ds)
    (fun a' _ => xs.length - (intOf (a'.tmps.getD 11 undef)).toNat) ⟨0, undef, undef, undef, undef, undef, undef, [], A, rfl, Nat.zero_le _, hEW, by simpa using hJW, hby, hd.free (Nat.le_refl _), List.nodup_nil, fun D hD => by cases hD⟩ ?_
  rintro a' wr ⟨i, u4, u12, u13, u14, u15, u21, Ds, Ai, rfl, hi, hEi, hJi, hyi, hfi, hMi⟩
  have hdi := hEi.dom hd
  by_cases hlt : i < xs.length
  · obtain ⟨x, hx⟩ : ∃ x, xs[i]? = some x := ⟨_, List.getElem?_eq_getElem hlt⟩
    obtain ⟨us, hus⟩ : ∃ us, uss[i]? = some us := ⟨_, List.getElem?_eq_getElem (by have := HL.out; omega)⟩
    obtain ⟨r, rfl, hcr, hr1, hr2⟩ := hcells i x hx
    have hrW : r < W.heap.size := World.block_lt_of_cell? W ⟨r, i, none⟩ hcr
    have hcri : wr.cell? ⟨r, i, none⟩ = some x := (World.cell?_of_block (a := ⟨r, i, none⟩) (hEi.keep r hrW (fun h => h) hr2)).trans hcr
    gi_wp2
    have hMlt : ∀ D ∈ Ds, D < wr.heap.size := fun D hD => (Array.getElem?_eq_some_iff.1 (hMi.2 D hD).2.2).1
    have freeX : ∀ b, X b → Ai b = .free ∧ b < wr.heap.size := fun b hb => by
      obtain ⟨x1, x2⟩ := hX b hb
      exact ⟨(hEi.gh b x2 (fun t g e => by rw [x1] at e; cases e)).trans x1, Nat.lt_of_lt_of_le x2 hEi.size⟩
    refine wp_range (T := T) (X := X) (n := 2) (A0 := A0) (w0 := w0) (A := Ai) (us := us) (by omega) rfl (hseqs i x us hx hus) (hE.trans hEi) hdi freeX
      (fun k A' W' => J ((uss.take i).flatten.length + k) A' W' ∧ W'.cell? ⟨W.heap.size, 0, none⟩ = some (.func (.yield l) #[] #[]) ∧ A' W.heap.size = .free ∧ Marks W.heap.size A' W' Ds)
      (fun k A' W' => Jx ((uss.take i).flatten.length + k) A' W' ∧ Marks W.heap.size A' W' Ds) ?_ ?_ ⟨hJi, hyi, hfi, hMi⟩
      (fun z => { tmps := #[.func (.yield l) #[] #[], .pointer (some ⟨bd, 0, none⟩), .pointer (some ⟨W.heap.size, 0, none⟩), undef, x, z, .pointer (some ⟨p, 0, none⟩), .pointer (some ⟨p, 0, none⟩), .pointer (some ⟨p, 3, none⟩), .slice (some ⟨r, 0, none⟩) xs.length cap, .int .i64 (xs.length : Int), .int .i64 (i : Int), .bool true, .pointer (some ⟨r, i, none⟩), x, x, z, undef, undef, undef, undef, u21], defers := [] }) ?_ ?_ ?_ ?_
    · rintro k B V V' ⟨j1, j2, j3, j4⟩ hs
      exact ⟨hJ _ _ _ _ j1 (hs.mono hEi.size), hs.cell j2, j3, j4.steady hs hMlt⟩
    · rintro k B V V' ⟨j1, j4⟩ hs
      exact ⟨hJx _ _ _ _ j1 (hs.mono hEi.size), j4.steady hs hMlt⟩
    · intro l' z V K hK
      gi_wp2
      exact hK
    · rintro l' k z u B V hu ⟨j1, j2, j3, j4⟩ hEV hdV hU hl'
      obtain ⟨fn, tmps, assign, body, hy, hR⟩ := hY _ z u B V (flatten_at uss i k us u hus hu) j1 (hEi.trans hEV) hU
      gi_wp2
      refine ⟨rfl, RoundIn.mono (F := Fence.wide.inRound l') hR ?_⟩
      clear hy hR fn tmps assign body
      rintro e V' ⟨B', (⟨rfl, hx', hj⟩ | ⟨rfl, hx', hj⟩)⟩
      · gi_wp2
        have hlt2 : W.heap.size < V.heap.size := World.block_lt_of_cell? V ⟨W.heap.size, 0, none⟩ j2
        exact ⟨B', hx', by rw [Nat.add_assoc] at hj; exact hj, (cell_ext hx' j2 (fun t g e => by rw [j3] at e; cases e) (fun h => h)).1, (hx'.gh _ hlt2 (fun t g e => by rw [j3] at e; cases e)).trans j3, j4.ext hx' (fun _ h => h.elim)⟩
      · gi_wp2
        exact ⟨B', hx', by rw [Nat.add_assoc] at hj; exact hj, j4.ext hx' (fun b hb => (hX b hb).2)⟩
    · rintro D B V hD ⟨j1, j2, j3, j4⟩ hEV hfr hK
      gi_wp2
      refine ⟨⟨i + 1, x, .bool true, .pointer (some ⟨r, i, none⟩), x, x, .int .i64 ((i : Int) + 1), D :: Ds, B, by rw [show ((i + 1 : Nat) : Int) = (i : Int) + 1 from by omega]; rfl, hlt, hEi.trans hEV, by rw [flatten_take uss i us hus]; exact j1, j2, j3, ?_⟩, by simp [intOf]; omega⟩
      exact ⟨List.nodup_cons.2 ⟨fun h => by have := hMlt D h; omega, j4.1⟩, fun D' hD' => by
        rcases List.mem_cons.1 hD' with rfl | h
        · exact ⟨by have := hEi.size; omega, hfr, hK⟩
        · exact j4.2 D' h⟩
    · rintro D k B V hD hk ⟨j1, j4⟩ hEV hfr hK
      gi_wp2
      refine leaves_marks (n0 := W.heap.size) (A := B) (w := W) (fun _ => ⟨_, results_none rfl _ _ _⟩) (D :: Ds) V ⟨List.nodup_cons.2 ⟨fun h => by have := hMlt D h; omega, j4.1⟩, fun D' hD' => by
        rcases List.mem_cons.1 hD' with rfl | h
        · exact ⟨by have := hEi.size; omega, hfr, hK⟩
        · exact j4.2 D' h⟩ (fun V' hs hx v => ⟨⟨_, rfl⟩, B, .inr ⟨_, ?_, hJx _ _ _ _ j1 hs, hx (Nat.le_refl _) ((hEi.mono0 (fun _ h => h)).trans hEV)⟩⟩)
      have h5 := flatten_take uss i us hus
      have h6 : (uss.take (i + 1)).flatten.length ≤ uss.flatten.length := by
        conv => rhs; rw [← List.take_append_drop (i + 1) uss, List.flatten_append, List.length_append]
        omega
      omega
  · obtain rfl : i = xs.length := by omega
    gi_wp2
    rw [HL.out, List.take_length] at hJi
    exact leaves_marks (n0 := W.heap.size) (A := Ai) (w := W) (fun _ => ⟨_, results_none rfl _ _ _⟩) Ds wr hMi (fun V' hs hx v => ⟨⟨_, rfl⟩, Ai, .inl ⟨hJ _ _ _ _ hJi hs, hx (Nat.le_refl _) hEi⟩⟩)
end Go.Proofs.Ytfmigkmkdhciiaa.K
