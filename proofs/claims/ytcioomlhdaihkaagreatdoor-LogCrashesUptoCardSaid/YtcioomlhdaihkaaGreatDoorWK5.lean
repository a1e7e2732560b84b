/-
  Disks: all steps' units, one after the other.
-/
import Derived.Test.YtcioomlhdaihkaaGreatDoorKP
import Derived.Test.YtcioomlhdaihkaaGreatDoorKC
import Derived.LoopTactic
import Derived.Deep.QuietTactic
namespace Go.Proofs.YtcioomlhdaihkaaGreatDoor.K
set_option linter.unusedVariables false
set_option linter.unusedSimpArgs false
set_option maxRecDepth 100000
open Go Go.RowKit Go.Maps Go.MapKept Go.ChangeMaps Go.Shelf
set_option maxRecDepth 100000
set_option linter.unusedVariables false
set_option linter.unusedSimpArgs false
attribute [local go_sem] Oper.semAt_some

def mk1 (D : Nat) : Deferred := { target := .collected D, args := #[] }
/-- The marks that ranges have left. -/
def Marks (n0 : Nat) (A : Gh) (W : World) (Ds : List Nat) : Prop := Ds.Nodup ∧ ∀ D ∈ Ds, n0 ≤ D ∧ A D = .free ∧ W.heap[D]? = some (.deferred (some []))
theorem Marks.ext {T X : Nat → Prop} {n0 : Nat} {A B : Gh} {W W' : World} {Ds : List Nat} (h : Marks n0 A W Ds) (hE : Ext T X A W B W') (hX : ∀ b, X b → b < n0) : Marks n0 B W' Ds := by
  refine ⟨h.1, fun D hD => ?_⟩
  obtain ⟨h1, h2, h3⟩ := h.2 D hD
  have hlt := (Array.getElem?_eq_some_iff.1 h3).1
  have hn : ∀ t g, A D = .own t g → ¬ T t := fun t g e => by rw [h2] at e; cases e
  exact ⟨h1, (hE.gh D hlt hn).trans h2, (hE.keep D hlt (fun hx => by have := hX D hx; omega) hn).trans h3⟩
theorem Marks.steady {n0 n1 : Nat} {A : Gh} {W W' : World} {Ds : List Nat} (h : Marks n0 A W Ds) (hs : Steady n1 A W W') (hlt : ∀ D ∈ Ds, D < n1) : Marks n0 A W' Ds :=
  ⟨h.1, fun D hD => by obtain ⟨h1, h2, h3⟩ := h.2 D hD; exact ⟨h1, h2, hs.same D _ h3 (.inl (hlt D hD))⟩⟩
theorem leaves_marks {n n0 : Nat} {fn : Func} {tmps : Array Value} {R : Ending → World → Prop} {A : Gh} {w : World} (hres : ∀ W, ∃ v, (results fn tmps).run Tryz.prog W = .ok v W) : ∀ (Ds : List Nat) (W : World), Marks n0 A W Ds →
    (∀ W', Steady n0 A W W' → (∀ {T X : Nat → Prop} {A0 : Gh} {w : World}, w.heap.size ≤ n0 → Ext T X A0 w A W → Ext T X A0 w A W') → ∀ v, R (.returned v) W') → LeavesInM Fence.wide n Tryz.prog fn tmps R (Ds.map mk1) .returning W
  | [], W, _, h => by
    obtain ⟨v, hv⟩ := hres W
    exact ⟨v, hv, h W (Steady.refl _ _ _) (fun _ h => h) v⟩
  | D :: r, W, hm, h => by
    obtain ⟨hnd, hall⟩ := hm
    obtain ⟨h1, h2, h3⟩ := hall D (List.mem_cons_self ..)
    obtain ⟨hD, hnd⟩ := List.nodup_cons.1 hnd
    refine ⟨by simp, .inl ⟨D, _, rfl, run_takeDeferred h3, ?_⟩⟩
    have hs : Steady n0 A W (W.putObj D (.deferred none)) := Steady.put _ h3 rfl h1 h2
    refine leaves_marks (n0 := n0) (A := A) (w := w) hres r _ ⟨hnd, fun E hE => ?_⟩ (fun W' hs' hx v => h W' (hs.trans hs') (fun hn hE => hx hn (hE.putNew (by omega) _)) v)
    obtain ⟨i1, i2, i3⟩ := hall E (List.mem_cons_of_mem _ hE)
    exact ⟨i1, i2, (World.putObj_heap_other (fun e => hD (by subst e; exact hE))).trans i3⟩

/-- A slice of function values. -/
def StepsAt (T : Nat → Prop) (A : Gh) (w : World) (vs : Value) (xs : List Value) : Prop :=
  ∃ ad cap, vs = .slice ad xs.length cap ∧ xs.length ≤ 1099511627776 ∧ ∀ i x, xs[i]? = some x → ∃ r, ad = some ⟨r, 0, none⟩ ∧ w.cell? ⟨r, i, none⟩ = some x ∧ A r ≠ .free ∧ ∀ t g, A r = .own t g → ¬ T t
theorem StepsAt.ext {T T' X : Nat → Prop} {A B : Gh} {w w' : World} {vs : Value} {xs : List Value} (h : StepsAt T A w vs xs) (hE : Ext T X A w B w') (hX : ∀ b, X b → A b = .free) : StepsAt T B w' vs xs := by
  obtain ⟨ad, cap, rfl, hl, hc⟩ := h
  refine ⟨ad, cap, rfl, hl, fun i x hx => ?_⟩
  obtain ⟨r, rfl, h1, h2, h3⟩ := hc i x hx
  have hr : r < w.heap.size := World.block_lt_of_cell? w ⟨r, i, none⟩ h1
  obtain ⟨j1, j2⟩ := hE.same hX hr h2 h3
  exact ⟨r, rfl, (World.cell?_of_block (a := ⟨r, i, none⟩) j1).trans h1, by rw [j2]; exact h2, by rw [j2]; exact h3⟩

theorem flatten_at {α : Type} : ∀ (l : List (List α)) (i k : Nat) (us : List α) (u : α), l[i]? = some us → us[k]? = some u → l.flatten[(l.take i).flatten.length + k]? = some u
  | [], i, k, us, u, h, _ => by simp at h
  | x :: r, 0, k, us, u, h, hk => by
    have e : x = us := by simpa using h
    subst e
    have hlt := (List.getElem?_eq_some_iff.1 hk).1
    simp [List.getElem?_append_left hlt, hk]
  | x :: r, i + 1, k, us, u, h, hk => by
    have := flatten_at r i k us u (by simpa using h) hk
    rw [List.flatten_cons, List.take_succ_cons, List.flatten_cons, List.length_append, Nat.add_assoc, List.getElem?_append_right (by omega), Nat.add_sub_cancel_left]
    exact this
theorem flatten_take {α : Type} (l : List (List α)) (i : Nat) (us : List α) (h : l[i]? = some us) : (l.take (i + 1)).flatten.length = (l.take i).flatten.length + us.length := by
  have hlt := (List.getElem?_eq_some_iff.1 h).1
  rw [List.take_succ_eq_append_getElem hlt]
  have : l[i] = us := by have := List.getElem?_eq_getElem hlt; rw [h] at this; exact (Option.some.inj this).symm
  rw [this]
  simp

set_option maxHeartbeats 4000000 in
theorem seq_pending {T : Nat → Prop} {A0 : Gh} {w0 : World} {bd p : Nat} {vs : Value} {xs : List Value} {uss : List (List U)} (hbd : w0.cell? ⟨bd, 0, none⟩ = some (.pointer (some ⟨p, 0, none⟩))) (hnb : nown A0 bd)
    (hst : w0.cell? ⟨p, 3, none⟩ = some vs) (hpf : ∀ t g, A0 p = .own t g → ¬ T t) (hrow : StepsAt T A0 w0 vs xs) (hlen : xs.length = uss.length) (hseqs : ∀ (i : Nat) x us, xs[i]? = some x → uss[i]? = some us → SeqU T A0 w0 x us) :
    SeqU T A0 w0 (.func (.func 63) #[] #[.pointer (some ⟨bd, 0, none⟩)]) uss.flatten := by
  refine ⟨_, _, rfl, fun _ _ => rfl, fun X l J Jx A W hE hd hJ hJx hX hY h0 => ?_⟩
  have HL := Lib.hid hlen
  clear hlen
  obtain ⟨h1, _⟩ := cell_ext hE hbd hnb (fun h => h)
  have hp0 : p < w0.heap.size := World.block_lt_of_cell? w0 ⟨p, 3, none⟩ hst
  have h3 : W.cell? ⟨p, 3, none⟩ = some vs := (World.cell?_of_block (a := ⟨p, 3, none⟩) (hE.keep p hp0 (fun h => h) hpf)).trans hst
  have hrow1 := hrow.ext (T' := T) hE (fun _ h => h.elim)
  obtain ⟨ad, cap, rfl, hl40, hcells⟩ := id hrow1
  refine (callsIn_wide (n := 2)).1 ?_
  refine callsIn_of_wp_marks Tryz.func63 rfl trivial ?_ rfl
  simp only [Tryz.ntmps63, List.size_toArray, List.length_cons, List.length_nil, Nat.reduceAdd, Nat.reduceSub, Array.replicate_succ, Array.replicate_zero, List.push_toArray, List.append_toArray, List.nil_append, List.cons_append]
  have hpW : p < W.heap.size := World.block_lt_of_cell? W ⟨p, 3, none⟩ h3
  have h3' : (W.alloc (.cells #[.func (.yield l) #[] #[]] 93)).cell? ⟨p, 3, none⟩ = some (.slice ad xs.length cap) := (World.cell?_of_block (a := ⟨p, 3, none⟩) (Below.heap_alloc W _ p hpW)).trans h3
  have hbW : bd < W.heap.size := World.block_lt_of_cell? W ⟨bd, 0, none⟩ h1
  have h1' : (W.alloc (.cells #[.func (.yield l) #[] #[]] 93)).cell? ⟨bd, 0, none⟩ = some (.pointer (some ⟨p, 0, none⟩)) := (World.cell?_of_block (a := ⟨bd, 0, none⟩) (Below.heap_alloc W _ bd hbW)).trans h1
  clear h1 h3
  gi_wp2
  have hby : (W.alloc (.cells #[.func (.yield l) #[] #[]] 93)).cell? ⟨W.heap.size, 0, none⟩ = some (.func (.yield l) #[] #[]) := cell_new W _ _ 0
  have hEW : Ext T noX A W A (W.alloc (.cells #[.func (.yield l) #[] #[]] 93)) := Ext.of_below ((Below.refl _ W).alloc (Nat.le_refl _) _)
  have hJW := hJ _ _ _ _ h0 (Steady.of_below ((Below.refl _ W).alloc (Nat.le_refl _) (.cells #[.func (.yield l) #[] #[]] 93)))
  refine wpIn_loop (fun a' w' => ∃ (i : Nat) (u4 u12 u13 u14 u15 u21 : Value) (Ds : List Nat) (Ai : Gh),
    a' = { tmps := #[.func (.yield l) #[] #[], .pointer (some ⟨bd, 0, none⟩), .pointer (some ⟨W.heap.size, 0, none⟩), undef, u4, undef, .pointer (some ⟨p, 0, none⟩), .pointer (some ⟨p, 0, none⟩), .pointer (some ⟨p, 3, none⟩), .slice ad xs.length cap, .int .i64 (xs.length : Int), .int .i64 (i : Int), u12, u13, u14, u15, undef, undef, undef, undef, undef, u21], defers := Ds.map mk1 } ∧
    i ≤ xs.length ∧ Ext T noX A W Ai w' ∧ J (uss.take i).flatten.length Ai w' ∧ w'.cell? ⟨W.heap.size, 0, none⟩ = some (.func (.yield l) #[] #[]) ∧ Ai W.heap.size = .free ∧ Marks W.heap.size Ai w' Ds)
    (fun a' _ => xs.length - (intOf (a'.tmps.getD 11 undef)).toNat) ⟨0, undef, undef, undef, undef, undef, undef, [], A, rfl, Nat.zero_le _, hEW, by simpa using hJW, hby, hd.free (Nat.le_refl _), List.nodup_nil, fun D hD => by cases hD⟩ ?_
  rintro a' wr ⟨i, u4, u12, u13, u14, u15, u21, Ds, Ai, rfl, hi, hEi, hJi, hyi, hfi, hMi⟩
  have hdi := hEi.dom hd
  by_cases hlt : i < xs.length
  · obtain ⟨x, hx⟩ : ∃ x, xs[i]? = some x := ⟨_, List.getElem?_eq_getElem hlt⟩
    obtain ⟨us, hus⟩ : ∃ us, uss[i]? = some us := ⟨_, List.getElem?_eq_getElem (by have := HL.out; omega)⟩
    obtain ⟨r, rfl, hcr, hr1, hr2⟩ := hcells i x hx
    have hrW : r < W.heap.size := World.block_lt_of_cell? W ⟨r, i, none⟩ hcr
    have hcri : wr.cell? ⟨r, i, none⟩ = some x := (World.cell?_of_block (a := ⟨r, i, none⟩) (hEi.keep r hrW (fun h => h) hr2)).trans hcr
    gi_wp2
    have hMlt : ∀ D ∈ Ds, D < wr.heap.size := fun D hD => (Array.getElem?_eq_some_iff.1 (hMi.2 D hD).2.2).1
    have freeX : ∀ b, X b → Ai b = .free ∧ b < wr.heap.size := fun b hb => by
      obtain ⟨x1, x2⟩ := hX b hb
      exact ⟨(hEi.gh b x2 (fun t g e => by rw [x1] at e; cases e)).trans x1, Nat.lt_of_lt_of_le x2 hEi.size⟩
    refine wp_range (T := T) (X := X) (n := 2) (A0 := A0) (w0 := w0) (A := Ai) (us := us) (by omega) rfl (hseqs i x us hx hus) (hE.trans hEi) hdi freeX
      (fun k A' W' => J ((uss.take i).flatten.length + k) A' W' ∧ W'.cell? ⟨W.heap.size, 0, none⟩ = some (.func (.yield l) #[] #[]) ∧ A' W.heap.size = .free ∧ Marks W.heap.size A' W' Ds)
      (fun k A' W' => Jx ((uss.take i).flatten.length + k) A' W' ∧ Marks W.heap.size A' W' Ds) ?_ ?_ ⟨hJi, hyi, hfi, hMi⟩
      (fun z => { tmps := #[.func (.yield l) #[] #[], .pointer (some ⟨bd, 0, none⟩), .pointer (some ⟨W.heap.size, 0, none⟩), undef, x, z, .pointer (some ⟨p, 0, none⟩), .pointer (some ⟨p, 0, none⟩), .pointer (some ⟨p, 3, none⟩), .slice (some ⟨r, 0, none⟩) xs.length cap, .int .i64 (xs.length : Int), .int .i64 (i : Int), .bool true, .pointer (some ⟨r, i, none⟩), x, x, z, undef, undef, undef, undef, u21], defers := [] }) ?_ ?_ ?_ ?_
    · rintro k B V V' ⟨j1, j2, j3, j4⟩ hs
      exact ⟨hJ _ _ _ _ j1 (hs.mono hEi.size), hs.cell j2, j3, j4.steady hs hMlt⟩
    · rintro k B V V' ⟨j1, j4⟩ hs
      exact ⟨hJx _ _ _ _ j1 (hs.mono hEi.size), j4.steady hs hMlt⟩
    · intro l' z V K hK
      gi_wp2
      exact hK
    · rintro l' k z u B V hu ⟨j1, j2, j3, j4⟩ hEV hdV hU hl'
      obtain ⟨fn, tmps, assign, body, hy, hR⟩ := hY _ z u B V (flatten_at uss i k us u hus hu) j1 (hEi.trans hEV) hU
      gi_wp2
      refine ⟨rfl, RoundIn.mono (F := Fence.wide.inRound l') hR ?_⟩
      clear hy hR fn tmps assign body
      rintro e V' ⟨B', (⟨rfl, hx', hj⟩ | ⟨rfl, hx', hj⟩)⟩
      · gi_wp2
        have hlt2 : W.heap.size < V.heap.size := World.block_lt_of_cell? V ⟨W.heap.size, 0, none⟩ j2
        exact ⟨B', hx', by rw [Nat.add_assoc] at hj; exact hj, (cell_ext hx' j2 (fun t g e => by rw [j3] at e; cases e) (fun h => h)).1, (hx'.gh _ hlt2 (fun t g e => by rw [j3] at e; cases e)).trans j3, j4.ext hx' (fun _ h => h.elim)⟩
      · gi_wp2
        exact ⟨B', hx', by rw [Nat.add_assoc] at hj; exact hj, j4.ext hx' (fun b hb => (hX b hb).2)⟩
    · rintro D B V hD ⟨j1, j2, j3, j4⟩ hEV hfr hK
      gi_wp2
      refine ⟨⟨i + 1, x, .bool true, .pointer (some ⟨r, i, none⟩), x, x, .int .i64 ((i : Int) + 1), D :: Ds, B, by rw [show ((i + 1 : Nat) : Int) = (i : Int) + 1 from by omega]; rfl, hlt, hEi.trans hEV, by rw [flatten_take uss i us hus]; exact j1, j2, j3, ?_⟩, by simp [intOf]; omega⟩
      exact ⟨List.nodup_cons.2 ⟨fun h => by have := hMlt D h; omega, j4.1⟩, fun D' hD' => by
        rcases List.mem_cons.1 hD' with rfl | h
        · exact ⟨by have := hEi.size; omega, hfr, hK⟩
        · exact j4.2 D' h⟩
    · rintro D k B V hD hk ⟨j1, j4⟩ hEV hfr hK
      gi_wp2
      refine leaves_marks (n0 := W.heap.size) (A := B) (w := W) (fun _ => ⟨_, results_none rfl _ _ _⟩) (D :: Ds) V ⟨List.nodup_cons.2 ⟨fun h => by have := hMlt D h; omega, j4.1⟩, fun D' hD' => by
        rcases List.mem_cons.1 hD' with rfl | h
        · exact ⟨by have := hEi.size; omega, hfr, hK⟩
        · exact j4.2 D' h⟩ (fun V' hs hx v => ⟨⟨_, rfl⟩, B, .inr ⟨_, ?_, hJx _ _ _ _ j1 hs, hx (Nat.le_refl _) ((hEi.mono0 (fun _ h => h)).trans hEV)⟩⟩)
      have h5 := flatten_take uss i us hus
      have h6 : (uss.take (i + 1)).flatten.length ≤ uss.flatten.length := by
        conv => rhs; rw [← List.take_append_drop (i + 1) uss, List.flatten_append, List.length_append]
        omega
      omega
  · obtain rfl : i = xs.length := by omega
    gi_wp2
    rw [HL.out, List.take_length] at hJi
    exact leaves_marks (n0 := W.heap.size) (A := Ai) (w := W) (fun _ => ⟨_, results_none rfl _ _ _⟩) Ds wr hMi (fun V' hs hx v => ⟨⟨_, rfl⟩, Ai, .inl ⟨hJ _ _ _ _ hJi hs, hx (Nat.le_refl _) hEi⟩⟩)
end Go.Proofs.YtcioomlhdaihkaaGreatDoor.K

namespace Go.Proofs.YtcioomlhdaihkaaGreatDoor.K
set_option linter.unusedVariables false
set_option linter.unusedSimpArgs false
set_option maxRecDepth 100000
open Go Go.RowKit Go.Maps Go.MapKept Go.ChangeMaps

set_option maxRecDepth 100000
set_option linter.unusedVariables false
set_option linter.unusedSimpArgs false
theorem clip_some (g n cap : Nat) (hn : n ≤ cap) (h0 : 0 < n) (hc : cap ≤ maxLen) (w : World) : Calls Tryz.prog 62 #[.slice (some ⟨g, 0, none⟩) n cap] w fun e w' => e = .returned (.slice (some ⟨g, 0, none⟩) n n) ∧ w = w' := by
  unfold maxLen at hc
  have hr : (Instr.slice 83 (.slice (some ⟨g, 0, none⟩) n cap) none (some (.int .i64 (n : Int))) (some (.int .i64 (n : Int)))).run Tryz.prog w = .ok (.slice (some ⟨g, 0, none⟩) n n) w := by
    obtain ⟨i0, hi, hz0, hz1, hz2⟩ := info_parts infoU8
    have h1 : ¬ (n : Int) < 0 := by omega
    have h2 : (n : Int) ≤ (cap : Int) := by omega
    have h3 : ¬ n = 0 := by omega
    simp [Instr.slice, run_underlying Tryz.underlying83, Instr.sliceBounds, Instr.sliceBound, asIntOf, sizeOf, typeInfo, hi, hz1, h1, h2, hn, h3, add0]
  go_enter Tryz.func62, Tryz.ntmps62
  go_wp2
  go_ret
  exact ⟨rfl, rfl⟩
theorem clip_none (w : World) : Calls Tryz.prog 62 #[.slice none 0 0] w fun e w' => e = .returned (.slice none 0 0) ∧ w = w' := by
  go_enter Tryz.func62, Tryz.ntmps62
  go_wp2
  go_ret
  exact ⟨rfl, rfl⟩

/-- What a map of files holds. -/
def Form (v : Value) : Prop := v = .slice none 0 0 ∨ ∃ g n cap, v = .slice (some ⟨g, 0, none⟩) n cap ∧ 0 < n ∧ n ≤ cap ∧ cap ≤ maxLen
def clipV : Value → Value
  | .slice ad n _ => .slice ad n n
  | v => v
def lenV : Value → Nat
  | .slice _ n _ => n
  | _ => 0
theorem clip_any {v : Value} (h : Form v) (w : World) : Calls Tryz.prog 62 #[v] w fun e w' => e = .returned (clipV v) ∧ w = w' := by
  rcases h with rfl | ⟨g, n, cap, rfl, h0, h1, h2⟩
  · exact clip_none w
  · exact clip_some g n cap h1 h0 h2 w
theorem BytesV.form {A : Gh} {w : World} {v : Value} {c : Str} (h : BytesV A w v c) : Form v ∧ lenV v = c.length := by
  rcases h with ⟨rfl, rfl⟩ | ⟨g, cap, rfl, h0, h1, h2, _⟩
  · exact ⟨.inl rfl, rfl⟩
  · exact ⟨.inr ⟨g, _, cap, rfl, h0, h1, h2⟩, rfl⟩

/-- The step of a range over files. -/
theorem next_files (w : World) {ops : Array Oper} {rest : List Oper} {o : Oper} {a : Act} {Q : Exit → Act → World → Prop} (hg : o.guard = none) (it : Operand) (hop : o.op = Op.next it false)
    (b r n : Nat) (D : DataW Value) (left : Lit → Bool) (cnt : Nat) (hit : a.eval it = .pointer (some ⟨r, 0, none⟩)) (h : w.ranges Tryz.prog 9 hv b r n D left cnt)
    (hDone : cnt = 0 → (∀ kl, left kl = false) → wpList Tryz.prog ops Q rest (a.put o.dst (.tuple #[.bool false])) w)
    (hMore : ∀ (x : Str) (v : Value) (w' : World) (cnt' : Nat), x.length ≤ maxLen → left (.string x) = true → (∀ z, D.atKey (.string x) z = .held v) → w'.ranges Tryz.prog 9 hv b r n D (fun z => left z && !z.sameKey (.string x)) cnt' → cnt' < cnt →
      w.grownBy w' (some r) → w'.heap.size = w.heap.size → (Instr.entry (.pointer (some ⟨r, 0, none⟩))).run Tryz.prog w' = .ok (.tuple #[strV x, v]) w' → wpList Tryz.prog ops Q rest (a.put o.dst (.tuple #[.bool true, strV x, v])) w') :
    wpList Tryz.prog ops Q (o :: rest) a w :=
  wpList_next_ranges w hg it hop 9 strK hv (fun (x : Str) => strV x) (fun v => v) (fun key kl hkey => by obtain ⟨x, rfl, _⟩ := Maps.keyOf_str Tryz.underlying9 hkey; exact ⟨x, rfl⟩) (fun v y _ => ⟨v, rfl⟩)
    b r n D left cnt hit h hDone (fun x c kl y w' cnt' hkey hlk hv hat hrg hlt hgr hsz hen => by
      obtain ⟨x', ex, rfl, hwx⟩ := Maps.keyOf_str Tryz.underlying9 hkey
      have ex' : x = x' := by simpa using ex
      subst ex'
      have hy : y = (.held c, []) := by simpa [K.hv] using hv.symm
      exact hMore x c w' cnt' hwx hlk (fun z => by rw [hat z, hy]) hrg hlt hgr hsz hen)

theorem sameKey_str {s x : Str} (hx : x.length ≤ maxLen) : (Lit.string s).sameKey (.string x) = decide (s = x) := by
  by_cases e : s = x
  · subst e; rw [WideAt.sameKey_self (isKey hx)]; simp
  · rw [sameKey_ne (fun h => e (by injection h))]; simp [e]
end Go.Proofs.YtcioomlhdaihkaaGreatDoor.K

namespace Go.Proofs.YtcioomlhdaihkaaGreatDoor.K
set_option linter.unusedVariables false
set_option linter.unusedSimpArgs false
set_option maxRecDepth 100000
open Go Go.RowKit Go.Maps Go.MapKept Go.ChangeMaps

set_option maxRecDepth 100000
set_option linter.unusedVariables false
set_option linter.unusedSimpArgs false
/-- A disk's cells. -/
def dcells (room : Nat) (ms mv vs : Value) (units left : Nat) (down : Bool) : Array Value := #[.int .i64 (room : Int), ms, mv, vs, .int .i64 (units : Int), .int .i64 (left : Int), .bool down]

theorem none_nil (w : World) : Calls Tryz.prog 25 #[.pointer none] w fun e w' => e = .returned (.bool true) ∧ w = w' := by
  go_enter Tryz.func25, Tryz.ntmps25
  go_wp2
  go_ret
  exact ⟨rfl, rfl⟩
theorem eqm_some (m : Nat) (W : World) : (binOp .eql 50 (.map (some m)) (.map none)).run Tryz.prog W = .ok (.bool false) W := by
  obtain ⟨k, hk⟩ : ∃ k, Op.maxDepth = k + 1 := ⟨Op.maxDepth - 1, by decide⟩
  simp [binOp, Op.equal, hk, Op.equalIn, run_underlying Tryz.underlying50]
theorem eqm_none (W : World) : (binOp .eql 50 (.map none) (.map none)).run Tryz.prog W = .ok (.bool true) W := by
  obtain ⟨k, hk⟩ : ∃ k, Op.maxDepth = k + 1 := ⟨Op.maxDepth - 1, by decide⟩
  simp [binOp, Op.equal, hk, Op.equalIn, run_underlying Tryz.underlying50]
theorem none_some (p m : Nat) (w : World) (h : w.cell? ⟨p, 1, none⟩ = some (.map (some m))) : Calls Tryz.prog 25 #[.pointer (some ⟨p, 0, none⟩)] w fun e w' => e = .returned (.bool false) ∧ w = w' := by
  have hq := eqm_some m w
  go_enter Tryz.func25, Tryz.ntmps25
  go_wp2
  go_ret
  exact ⟨rfl, rfl⟩
theorem none_empty (p : Nat) (w : World) (h : w.cell? ⟨p, 1, none⟩ = some (.map none)) : Calls Tryz.prog 25 #[.pointer (some ⟨p, 0, none⟩)] w fun e w' => e = .returned (.bool true) ∧ w = w' := by
  have hq := eqm_none w
  go_enter Tryz.func25, Tryz.ntmps25
  go_wp2
  go_ret
  exact ⟨rfl, rfl⟩

def usedL (left : Lit → Bool) : Fs → Nat
  | [] => 0
  | (s, c) :: r => (if left (.string s) then 0 else c.length) + usedL left r
theorem usedL_start {left : Lit → Bool} : ∀ {fs : Fs}, (∀ p ∈ fs, left (.string p.1) = true) → usedL left fs = 0
  | [], _ => rfl
  | (s, c) :: r, h => by
    rw [usedL, h (s, c) (List.mem_cons_self ..), usedL_start (fun p hp => h p (List.mem_cons_of_mem _ hp))]; rfl
theorem usedL_end {left : Lit → Bool} (h : ∀ kl, left kl = false) : ∀ fs : Fs, usedL left fs = used fs
  | [] => rfl
  | (s, c) :: r => by rw [usedL, h, usedL_end h r]; simp [used]
theorem usedL_other {left left' : Lit → Bool} : ∀ {fs : Fs}, (∀ p ∈ fs, left (.string p.1) = left' (.string p.1)) → usedL left fs = usedL left' fs
  | [], _ => rfl
  | (s, c) :: r, h => by
    rw [usedL, usedL, h (s, c) (List.mem_cons_self ..), usedL_other (fun p hp => h p (List.mem_cons_of_mem _ hp))]
theorem usedL_step {left : Lit → Bool} {x c : Str} (hx : x.length ≤ maxLen) (hl : left (.string x) = true) : ∀ {fs : Fs}, Sorted fs → get fs x = some c → usedL (fun z => left z && !z.sameKey (.string x)) fs = usedL left fs + c.length
  | [], _, h => by cases h
  | (s, d) :: r, hs, h => by
    obtain ⟨h1, h2⟩ := List.pairwise_cons.1 hs
    unfold get at h
    rw [usedL, usedL]
    by_cases e : s = x
    · rw [if_pos e] at h
      cases h
      subst e
      rw [sameKey_str hx, hl]
      have : usedL (fun z => left z && !z.sameKey (.string s)) r = usedL left r := usedL_other (fun p hp => by
        have hne : p.1 ≠ s := fun e => by have := h1 p hp; rw [e] at this; exact lt_irrefl _ this
        rw [sameKey_str hx]; simp [hne])
      rw [this]
      simp
      omega
    · rw [if_neg e] at h
      rw [sameKey_str hx, usedL_step hx hl h2 h]
      simp [e]
      omega
theorem usedL_le (left : Lit → Bool) : ∀ fs : Fs, usedL left fs ≤ used fs
  | [] => Nat.le_refl _
  | (s, c) :: r => by
    have := usedL_le left r
    rw [usedL]
    have e : used ((s, c) :: r) = c.length + used r := by simp [used]
    rw [e]
    split <;> omega

/-- The slices of a map are as long as the files. -/
def Lens (f : Str → Option Value) (fs : Fs) : Prop := ∀ s c, get fs s = some c → ∃ v, f s = some v ∧ Form v ∧ lenV v = c.length
theorem Files.lens {t : Nat} {A : Gh} {w : World} {m : Nat} {fs : Fs} {f : Str → Option Value} (h : Files t A w m fs f) : Lens f fs := fun s c hc => by
  obtain ⟨v, hv, hb⟩ := h.holds s c hc
  exact ⟨v, hv, hb.form⟩

theorem len_form {v : Value} (h : Form v) (ty : TypeId) (w : World) : (Builtin.len_ #[83] ty #[v]).run Tryz.prog w = .ok (.int .i64 (lenV v : Int)) w := by
  rcases h with rfl | ⟨g, n, cap, rfl, _⟩ <;> simp [Builtin.len_, run_underlying Tryz.underlying83, goInt, lenV]

set_option maxHeartbeats 1000000 in
theorem disk_Used {p mv n : Nat} {ms : Nat} {w : World} {f : Str → Option Value} {fs : Fs} (h1 : w.cell? ⟨p, 1, none⟩ = some (.map (some ms))) (h2 : w.cell? ⟨p, 2, none⟩ = some (.map (some mv))) (hm : MapAt w mv n f) (hs : Sorted fs) (hf : Same f fs) (hL : Lens f fs) (hu : used fs ≤ 1099511627776) :
    Calls Tryz.prog 53 #[.pointer (some ⟨p, 0, none⟩)] w fun e w' => e = .returned (.int .i64 (used fs : Int)) ∧ Below w.heap.size w w' := by
  obtain ⟨D, hown, hD⟩ := hm
  have hstart : ∀ q ∈ fs, Maps.has D (.string q.1) = true := fun q hq => by
    obtain ⟨v, hv, _⟩ := hL q.1 q.2 (get_of_mem hs hq)
    exact ((hD q.1 (nm (hf.1 q hq))).2 v hv).1
  have HD := Lib.hid hD
  have HL := Lib.hid hL
  have HS := Lib.hid hstart
  have HU := Lib.hid hu
  have HF := Lib.hid hf
  clear hD hL hstart hu hf
  go_enter Tryz.func53, Tryz.ntmps53
  go_wp2_with (first
    | (go_at_call 25; refine (none_some p ms w h1).mono ?_; rintro e w' ⟨rfl, rfl⟩)
    | (at_range; refine wpList_range_own _ rfl _ 50 rfl 9 83 strK Tryz.underlying50 hv mv n D rfl hown ?_; intro w0 hrg0 hg0 hs0)
    | go_in)
  go_frame
  go_loopw [3] (fun u wr => ∃ (left : Lit → Bool) (cnt : Nat), wr.ranges Tryz.prog 9 hv mv w.heap.size n D left cnt ∧ u = .int .i64 (usedL left fs : Int) ∧ Below w.heap.size w wr)
    (fun _ wr => wr.rangeLeft mv w.heap.size)
  case atStart => exact ⟨_, _, hrg0, by rw [usedL_start HS.out]; rfl, (Below.refl _ w).grown hg0 (Nat.le_refl _) (fun k e => by cases e)⟩
  case round =>
    obtain ⟨left, cnt, hrg, rfl, hbw⟩ := hrel
    go_wp2_with (first
      | (at_next; refine next_files _ rfl _ rfl mv w.heap.size n D left cnt rfl hrg ?_ ?_)
      | go_in)
    · intro _ hl0
      have E := Lib.hid (usedL_end hl0 fs)
      go_wp2
      go_ret
      exact ⟨by show Ending.returned (.int .i64 (usedL left fs : Int)) = _; rw [E.out], hbw⟩
    · intro x v w1 cnt1 hx hlx hat hrg1 hlt hg1 hs1 hen
      obtain ⟨c, hc⟩ : ∃ c, get fs x = some c := by
        cases hfx : f x with
        | none =>
          have h3 := (HD.out x hx).1 hfx
          have := hat .nil
          rw [atKey_of_not_has h3] at this
          cases this
        | some v' =>
          have := HF.out.2 x hx
          rw [hfx] at this
          exact Option.isSome_iff_exists.1 this.symm
      obtain ⟨v', hv', hform, hlen⟩ := HL.out x c hc
      obtain rfl : v = v' := by
        have := ((HD.out x hx).2 v' hv').2 .nil
        rw [hat] at this
        injection this
      have hstep := usedL_step hx hlx hs hc
      have hle := usedL_le (fun z => left z && !z.sameKey (.string x)) fs
      have hln := fun ty => len_form hform ty w1
      rw [hlen] at hln
      have hb0 : (0 : Int) ≤ (usedL left fs : Int) + (c.length : Int) := by omega
      have hb9 : (usedL left fs : Int) + (c.length : Int) ≤ 1099511627776 := by have := HU.out; omega
      have HST := Lib.hid hstep
      clear hstep hle hlen
      go_wp2
      go_roundw
      case rel => exact ⟨_, cnt1, hrg1, by rw [HST.out]; rfl, hbw.trans ⟨hg1.os, hg1.tape, hg1.output, hg1.size, fun k hk => hg1.block k (by have := hbw.size; omega) (fun e => by cases e; omega)⟩⟩
      case measure => rw [hrg1.left_eq, hrg.left_eq]; exact hlt
end Go.Proofs.YtcioomlhdaihkaaGreatDoor.K
