/-
  Disks: functions that are ranged over: their contract, by units.
-/
import Derived.Test.YtcioomlhdaihkaaGreatDoorKC
import Derived.RangeFuncNested
import Derived.RangeFuncBound
import Derived.RangeFuncCalls
import Derived.RangeFuncLeaves
import Derived.Shelf.Abstract
import Derived.Shelf.RegionOpen
import Derived.OwnWalkIn
import Derived.TacticsInMore
import Derived.LoopNIn
import Derived.LoopIn
import Derived.Lib.ConvBytes
namespace Go.Proofs.YtcioomlhdaihkaaGreatDoor.K
set_option linter.unusedVariables false
set_option linter.unusedSimpArgs false
set_option maxRecDepth 100000
open Go Go.RowKit Go.Maps Go.MapKept Go.ChangeMaps Go.Shelf
set_option maxRecDepth 100000
set_option linter.unusedVariables false
set_option linter.unusedSimpArgs false
attribute [local go_sem] Oper.semAt_some

/-- What was there is there, but for blocks from n0 on that are no cells and nobody's. -/
structure Steady (n0 : Nat) (A : Gh) (W W' : World) : Prop where
  os : W'.os = W.os
  tape : W'.tape = W.tape
  output : W'.output = W.output
  size : W.heap.size ≤ W'.heap.size
  same : ∀ b o, W.heap[b]? = some o → (b < n0 ∨ o.isCells = true ∨ A b ≠ .free) → W'.heap[b]? = some o
theorem Steady.of_below {n0 : Nat} {A : Gh} {W W' : World} (h : Below W.heap.size W W') : Steady n0 A W W' :=
  ⟨h.os, h.tape, h.output, h.size, fun b o ho _ => (h.block b (Array.getElem?_eq_some_iff.1 ho).1).trans ho⟩
theorem Steady.refl (n0 : Nat) (A : Gh) (W : World) : Steady n0 A W W := Steady.of_below (Below.refl _ _)
theorem Steady.trans {n0 : Nat} {A : Gh} {a b c : World} (h : Steady n0 A a b) (k : Steady n0 A b c) : Steady n0 A a c :=
  ⟨k.os.trans h.os, k.tape.trans h.tape, k.output.trans h.output, Nat.le_trans h.size k.size, fun b o ho hc => k.same b o (h.same b o ho hc) hc⟩
theorem Steady.put {n0 : Nat} {A : Gh} {W : World} {l : Nat} {o : Obj} (o' : Obj) (hl : W.heap[l]? = some o) (ho : o.isCells = false) (hn : n0 ≤ l) (hA : A l = .free) : Steady n0 A W (W.putObj l o') := by
  refine ⟨rfl, rfl, rfl, (grownBy_putObj' W l o').size, fun b x hx hc => ?_⟩
  by_cases e : b = l
  · subst e
    rw [hl] at hx
    cases hx
    rcases hc with h | h | h
    · omega
    · rw [ho] at h; cases h
    · exact absurd hA h
  · exact (World.putObj_heap_other (by omega)).trans hx
theorem Steady.mono {n0 n1 : Nat} {A : Gh} {W W' : World} (h : Steady n1 A W W') (hn : n0 ≤ n1) : Steady n0 A W W' := ⟨h.os, h.tape, h.output, h.size, fun b o ho hc => h.same b o ho (by rcases hc with h | h | h; exact .inl (by omega); exact .inr (.inl h); exact .inr (.inr h))⟩

abbrev Jd := Nat → Gh → World → Prop
def Abides (n0 : Nat) (J : Jd) : Prop := ∀ k A W W', J k A W → Steady n0 A W W' → J k A W'
theorem Abides.mono {n0 n1 : Nat} {J : Jd} (h : Abides n0 J) (hn : n0 ≤ n1) : Abides n1 J := fun k A W W' hJ hs => h k A W W' hJ (hs.mono hn)

abbrev YU (T X : Nat → Prop) (us : List U) (l : Nat) (J Jx : Jd) (A : Gh) (W : World) : Prop :=
  ∀ k x u A1 W1, us[k]? = some u → J k A1 W1 → Ext T noX A W A1 W1 → UnitAt A1 W1 x u → YieldAt Fence.wide 0 Tryz.prog l #[x] W1 fun e W' => ∃ A',
    (e = .returned (.bool true) ∧ Ext T noX A1 W1 A' W' ∧ J (k + 1) A' W') ∨ (e = .returned (.bool false) ∧ Ext T X A1 W1 A' W' ∧ Jx (k + 1) A' W')
def EndU (T X : Nat → Prop) (us : List U) (l : Nat) (J Jx : Jd) (A : Gh) (W : World) (e : Ending) (W' : World) : Prop :=
  (∃ v, e = .returned v) ∧ ∃ A', (J us.length A' W' ∧ Ext T noX A W A' W') ∨ ∃ k, k ≤ us.length ∧ Jx k A' W' ∧ Ext T X A W A' W'
/-- Ranged over, a function value hands on these units, one after the other, until it is told that there is no more wanted. -/
def SeqU (T : Nat → Prop) (A0 : Gh) (w0 : World) (v : Value) (us : List U) : Prop :=
  ∃ g lb, v = .func (.func g) #[] lb ∧ (∀ (args : Array Value) (w : World), (callFunc g args).run Tryz.prog w = .ok (.enter g args) w) ∧
  ∀ (X : Nat → Prop) (l : Nat) (J Jx : Jd) (A : Gh) (W : World), Ext T noX A0 w0 A W → Dom A W → Abides W.heap.size J → Abides W.heap.size Jx → (∀ b, X b → A b = .free ∧ b < W.heap.size) →
    YU T X us l J Jx A W → J 0 A W → Calls Tryz.prog g (#[.func (.yield l) #[] #[]] ++ lb) W (EndU T X us l J Jx A W)

set_option maxHeartbeats 1000000 in
theorem seq_single {T : Nat → Prop} {A0 : Gh} {w0 : World} {b : Nat} {x : Value} {u : U} (hc : w0.cell? ⟨b, 0, none⟩ = some x) (hn : nown A0 b) (hU : UnitAt A0 w0 x u) :
    SeqU T A0 w0 (.func (.func 117) #[] #[.pointer (some ⟨b, 0, none⟩)]) [u] := by
  refine ⟨_, _, rfl, fun _ _ => rfl, fun X l J Jx A W hE hd hJ hJx hX hY h0 => ?_⟩
  obtain ⟨h1, _⟩ := cell_ext hE hc hn (fun h => h)
  have hU1 := hU.ext hE (fun _ _ h => h)
  obtain ⟨fn, tmps, assign, body, hy, hR⟩ := hY 0 x u A W rfl h0 (Ext.refl _ _ _ _) hU1
  refine (callsIn_wide (n := 1)).1 ?_
  refine callsIn_of_wp Tryz.func117 rfl trivial ?_ rfl
  simp only [Tryz.ntmps117, List.size_toArray, List.length_cons, List.length_nil, Nat.reduceAdd, Nat.reduceSub, Array.replicate_succ, Array.replicate_zero, List.push_toArray, List.append_toArray, List.nil_append, List.cons_append]
  gi_wp2
  refine hR.mono ?_
  rintro e W' ⟨A', (⟨rfl, hx, hj⟩ | ⟨rfl, hx, hj⟩)⟩
  · gi_wp2
    go_end0
    exact ⟨⟨_, rfl⟩, A', .inl ⟨hj, hx⟩⟩
  · gi_wp2
    go_end0
    exact ⟨⟨_, rfl⟩, A', .inr ⟨1, Nat.le_refl _, hj, hx⟩⟩

set_option maxHeartbeats 2000000 in
theorem seq_append {T : Nat → Prop} {A0 : Gh} {w0 : World} {be : Nat} {ex : Bool} {p q : Value} {n s : Str} (hc : w0.cell? ⟨be, 0, none⟩ = some (.bool ex)) (hn : nown A0 be) (hp : StrAt A0 w0 p n) (hq : StrAt A0 w0 q s) (hs : s.length ≤ 1099511627776) :
    SeqU T A0 w0 (.func (.func 81) #[] #[.pointer (some ⟨be, 0, none⟩), p, q]) (appendUs n s ex) := by
  refine ⟨_, _, rfl, fun _ _ => rfl, fun X l J Jx A W hE hd hJ hJx hX hY h0 => ?_⟩
  obtain ⟨h1, _⟩ := cell_ext hE hc hn (fun h => h)
  have hp' := hp.ext hE (fun _ _ h => h)
  have hq' := hq.ext hE (fun _ _ h => h)
  clear hp hq
  obtain ⟨_, bp, rfl, hcp, hnp⟩ := id hp'
  obtain ⟨_, bq, rfl, hcq, hnq⟩ := id hq'
  have hsz : (⟨s.toArray⟩ : ByteArray).size = s.length := by simp [ByteArray.size]
  have hconv : ∀ V : World, (convert 9 83 (.string ⟨s.toArray⟩)).run Tryz.prog V = .ok (.slice (some ⟨V.heap.size, 0, none⟩) s.length (grownCap V s.length 0 5)) (Lib.bytesWorld V 5 ⟨s.toArray⟩) := fun V => by
    have := Lib.run_convert_string_bytes (P := Tryz.prog) V 9 83 5 ⟨s.toArray⟩ Tryz.underlying9 Tryz.underlying83 Tryz.underlying5
    rwa [hsz] at this
  have hbw : ∀ V : World, Below V.heap.size V (Lib.bytesWorld V 5 ⟨s.toArray⟩) := fun V => ⟨rfl, rfl, rfl, by rw [Lib.bytesWorld_size]; omega, fun b hb => Lib.bytesWorld_at_old _ _ _ b hb⟩
  have hcsV : ∀ (V : World) k (x : UInt8), s[k]? = some x → (Lib.bytesCells V 5 ⟨s.toArray⟩)[k]? = some (u8v x) := fun V k x hx => by
    have hk := (List.getElem?_eq_some_iff.1 hx).1
    unfold Lib.bytesCells
    rw [Array.getElem?_append_left (by simpa using hk)]
    simp [hx, u8v]
  refine (callsIn_wide (n := 1)).1 ?_
  refine callsIn_of_wp Tryz.func81 rfl trivial ?_ rfl
  simp only [Tryz.ntmps81, List.size_toArray, List.length_cons, List.length_nil, Nat.reduceAdd, Nat.reduceSub, Array.replicate_succ, Array.replicate_zero, List.push_toArray, List.append_toArray, List.nil_append, List.cons_append]
  cases ex with
  | true =>
    have hlen : (appendUs n s true).length = 0 + s.length := by simp [appendUs]
    have hat : ∀ k (x : UInt8), s[k]? = some x → (appendUs n s true)[0 + k]? = some (U.byte n x) := fun k x hx => by simp [appendUs, hx]
    have hg0 := Lib.bytesWorld_at_new W 5 ⟨s.toArray⟩
    have hgA : A W.heap.size = .free := by
      cases hc : A W.heap.size with
      | free => rfl
      | fixed => have := hd.1 W.heap.size (by rw [hc]; simp); omega
      | own t g => have := hd.1 W.heap.size (by rw [hc]; simp); omega
    have hEs : Ext T noX A W A (Lib.bytesWorld W 5 ⟨s.toArray⟩) := Ext.of_below (hbw W)
    have hJs := hJ _ _ _ _ h0 (Steady.of_below (hbw W))
    have hconvW := hconv W
    clear hconv
    gi_wp2
    refine ⟨fun _ h => (by cases h), ?_⟩
    gi_wp2
    gi_loopw [18] (fun i wr => ∃ (k : Nat) (A1 : Gh), k ≤ s.length ∧ i = .int .i64 k ∧ Ext T noX A W A1 wr ∧ J (0 + k) A1 wr ∧ A1 W.heap.size = .free ∧ wr.heap[W.heap.size]? = some (.cells (Lib.bytesCells W 5 ⟨s.toArray⟩) 5  ((Lib.bytesCells W 5 ⟨s.toArray⟩).size, (Lib.bytesCells W 5 ⟨s.toArray⟩).size + 1))) (fun i _ => s.length - (intOf i).toNat)
    case atStart => exact ⟨0, _, Nat.zero_le _, rfl, hEs, hJs, hgA, hg0⟩
    case round =>
      obtain ⟨k, A1, hk, rfl, hE1, hJ1, hA1, hrow⟩ := hrel
      have hd1 := hE1.dom hd
      by_cases hlt : k < s.length
      · obtain ⟨x, hx⟩ : ∃ x, s[k]? = some x := ⟨_, List.getElem?_eq_getElem hlt⟩
        have hcx : wr.cell? ⟨W.heap.size, k, none⟩ = some (u8v x) := (cell_row hrow k).trans (hcsV W k x hx)
        have hb1 : Below wr.heap.size wr (wr.alloc (.cells #[u8v x] 5)) := (Below.refl _ wr).alloc (Nat.le_refl _) _
        have hJ2 := hJ _ _ _ _ hJ1 (Steady.of_below hb1)
        have hE2 : Ext T noX A1 wr A1 _ := Ext.of_below hb1
        have hbx : (wr.alloc (.cells #[u8v x] 5)).cell? ⟨wr.heap.size, 0, none⟩ = some (u8v x) := cell_new wr #[u8v x] _ 0
        have hfree : A1 wr.heap.size = .free := by
          cases hc : A1 wr.heap.size with
          | free => rfl
          | fixed => have := hd1.1 wr.heap.size (by rw [hc]; simp); omega
          | own t g => have := hd1.1 wr.heap.size (by rw [hc]; simp); omega
        have hU : UnitAt A1 (wr.alloc (.cells #[u8v x] 5)) (.func (.func 83) #[] #[.pointer (some ⟨bp, 0, none⟩), .pointer (some ⟨wr.heap.size, 0, none⟩)]) (.byte n x) :=
          ⟨_, _, rfl, (hp'.ext hE1 (fun _ _ h => h)).ext hE2 (fun _ _ h => h), hbx, fun t g e => by rw [hfree] at e; cases e⟩
        obtain ⟨fn, tmps, assign, body, hy, hR⟩ := hY (0 + k) _ _ A1 _ (hat k x hx) hJ2 (hE1.trans hE2) hU
        unfold u8v at hy hR hcx
        gi_wp2
        refine hR.mono ?_
        rintro e W' ⟨A', (⟨rfl, hx', hj⟩ | ⟨rfl, hx', hj⟩)⟩
        · have hb2 : W.heap.size < wr.heap.size := (Array.getElem?_eq_some_iff.1 hrow).1
          have hk1 := hx'.keep W.heap.size (Nat.lt_of_lt_of_le hb2 hb1.size) (fun h => h) (fun t g e => by rw [hA1] at e; cases e)
          have hk2 := hx'.gh W.heap.size (Nat.lt_of_lt_of_le hb2 hb1.size) (fun t g e => by rw [hA1] at e; cases e)
          gi_wp2
          go_roundw
          case rel => exact ⟨k + 1, A', hlt, by go_num, (hE1.trans hE2).trans hx', hj, hk2.trans hA1, hk1.trans ((hb1.block W.heap.size hb2).trans hrow)⟩
          case measure => simp [intOf]; omega
        · gi_wp2
          refine bodyPost_ret (results_none rfl _ _ _) rfl ?_
          exact ⟨⟨_, rfl⟩, A', .inr ⟨0 + k + 1, by rw [hlen]; omega, hj, ((hE1.mono0 (fun _ h => h)).trans (hE2.mono0 (fun _ h => h))).trans hx'⟩⟩
      · obtain rfl : k = s.length := by omega
        gi_wp2
        go_end0
        exact ⟨⟨_, rfl⟩, A1, .inl ⟨by rw [hlen]; exact hJ1, hE1⟩⟩
  | false =>
    have hU0 : UnitAt A W (.func (.func 82) #[] #[.pointer (some ⟨bp, 0, none⟩)]) (.mk n) := ⟨_, rfl, hp'⟩
    obtain ⟨fn, tmps, assign, body, hy, hR⟩ := hY 0 _ _ A W rfl h0 (Ext.refl _ _ _ _) hU0
    gi_wp2
    refine hR.mono ?_
    clear hy hR fn tmps assign body
    rintro e V ⟨B, (⟨rfl, hxV, hjV⟩ | ⟨rfl, hxV, hjV⟩)⟩
    rotate_left
    · gi_wp2
      refine bodyPost_ret (results_none rfl _ _ _) rfl ?_
      exact ⟨⟨_, rfl⟩, B, .inr ⟨1, by simp [appendUs], hjV, hxV⟩⟩
    have hdV := hxV.dom hd
    have hq2 := hq'.ext hxV (fun _ _ h => h)
    obtain ⟨_, bq', e', hcqV, _⟩ := hq2
    cases e'
    have hlen : (appendUs n s false).length = 1 + s.length := by simp [appendUs]; omega
    have hat : ∀ k (x : UInt8), s[k]? = some x → (appendUs n s false)[1 + k]? = some (U.byte n x) := fun k x hx => by rw [Nat.add_comm]; simp [appendUs, hx]
    have hg0 := Lib.bytesWorld_at_new V 5 ⟨s.toArray⟩
    have hgA : B V.heap.size = .free := by
      cases hc : B V.heap.size with
      | free => rfl
      | fixed => have := hdV.1 V.heap.size (by rw [hc]; simp); omega
      | own t g => have := hdV.1 V.heap.size (by rw [hc]; simp); omega
    have hEs : Ext T noX A W B (Lib.bytesWorld V 5 ⟨s.toArray⟩) := hxV.trans (Ext.of_below (hbw V))
    have hJs := hJ _ _ _ _ hjV (Steady.of_below (hbw V))
    have hconvW := hconv V
    clear hconv hcq
    gi_wp2
    gi_loopw [18] (fun i wr => ∃ (k : Nat) (A1 : Gh), k ≤ s.length ∧ i = .int .i64 k ∧ Ext T noX A W A1 wr ∧ J (1 + k) A1 wr ∧ A1 V.heap.size = .free ∧ wr.heap[V.heap.size]? = some (.cells (Lib.bytesCells V 5 ⟨s.toArray⟩) 5  ((Lib.bytesCells V 5 ⟨s.toArray⟩).size, (Lib.bytesCells V 5 ⟨s.toArray⟩).size + 1))) (fun i _ => s.length - (intOf i).toNat)
    case atStart => exact ⟨0, _, Nat.zero_le _, rfl, hEs, hJs, hgA, hg0⟩
    case round =>
      obtain ⟨k, A1, hk, rfl, hE1, hJ1, hA1, hrow⟩ := hrel
      have hd1 := hE1.dom hd
      by_cases hlt : k < s.length
      · obtain ⟨x, hx⟩ : ∃ x, s[k]? = some x := ⟨_, List.getElem?_eq_getElem hlt⟩
        have hcx : wr.cell? ⟨V.heap.size, k, none⟩ = some (u8v x) := (cell_row hrow k).trans (hcsV V k x hx)
        have hb1 : Below wr.heap.size wr (wr.alloc (.cells #[u8v x] 5)) := (Below.refl _ wr).alloc (Nat.le_refl _) _
        have hJ2 := hJ _ _ _ _ hJ1 (Steady.of_below hb1)
        have hE2 : Ext T noX A1 wr A1 _ := Ext.of_below hb1
        have hbx : (wr.alloc (.cells #[u8v x] 5)).cell? ⟨wr.heap.size, 0, none⟩ = some (u8v x) := cell_new wr #[u8v x] _ 0
        have hfree : A1 wr.heap.size = .free := by
          cases hc : A1 wr.heap.size with
          | free => rfl
          | fixed => have := hd1.1 wr.heap.size (by rw [hc]; simp); omega
          | own t g => have := hd1.1 wr.heap.size (by rw [hc]; simp); omega
        have hU : UnitAt A1 (wr.alloc (.cells #[u8v x] 5)) (.func (.func 83) #[] #[.pointer (some ⟨bp, 0, none⟩), .pointer (some ⟨wr.heap.size, 0, none⟩)]) (.byte n x) :=
          ⟨_, _, rfl, (hp'.ext hE1 (fun _ _ h => h)).ext hE2 (fun _ _ h => h), hbx, fun t g e => by rw [hfree] at e; cases e⟩
        obtain ⟨fn, tmps, assign, body, hy, hR⟩ := hY (1 + k) _ _ A1 _ (hat k x hx) hJ2 (hE1.trans hE2) hU
        unfold u8v at hy hR hcx
        gi_wp2
        refine hR.mono ?_
        rintro e W' ⟨A', (⟨rfl, hx', hj⟩ | ⟨rfl, hx', hj⟩)⟩
        · have hb2 : V.heap.size < wr.heap.size := (Array.getElem?_eq_some_iff.1 hrow).1
          have hk1 := hx'.keep V.heap.size (Nat.lt_of_lt_of_le hb2 hb1.size) (fun h => h) (fun t g e => by rw [hA1] at e; cases e)
          have hk2 := hx'.gh V.heap.size (Nat.lt_of_lt_of_le hb2 hb1.size) (fun t g e => by rw [hA1] at e; cases e)
          gi_wp2
          go_roundw
          case rel => exact ⟨k + 1, A', hlt, by go_num, (hE1.trans hE2).trans hx', hj, hk2.trans hA1, hk1.trans ((hb1.block V.heap.size hb2).trans hrow)⟩
          case measure => simp [intOf]; omega
        · gi_wp2
          refine bodyPost_ret (results_none rfl _ _ _) rfl ?_
          exact ⟨⟨_, rfl⟩, A', .inr ⟨1 + k + 1, by rw [hlen]; omega, hj, ((hE1.mono0 (fun _ h => h)).trans (hE2.mono0 (fun _ h => h))).trans hx'⟩⟩
      · obtain rfl : k = s.length := by omega
        gi_wp2
        go_end0
        exact ⟨⟨_, rfl⟩, A1, .inl ⟨by rw [hlen]; exact hJ1, hE1⟩⟩
end Go.Proofs.YtcioomlhdaihkaaGreatDoor.K

namespace Go.Proofs.YtcioomlhdaihkaaGreatDoor.K
set_option linter.unusedVariables false
set_option linter.unusedSimpArgs false
set_option maxRecDepth 100000
open Go Go.RowKit Go.Maps Go.MapKept Go.ChangeMaps Go.Shelf
set_option maxRecDepth 100000
set_option linter.unusedVariables false
set_option linter.unusedSimpArgs false
attribute [local go_sem] Oper.semAt_some

theorem Ext.putNew {T X : Nat → Prop} {A B : Gh} {w W : World} (h : Ext T X A w B W) {l : Nat} (hl : w.heap.size ≤ l) (o : Obj) : Ext T X A w B (W.putObj l o) := by
  have hb : ∀ b, b < w.heap.size → (W.putObj l o).heap[b]? = W.heap[b]? := fun b hb => World.putObj_heap_other (by omega)
  have hs : (W.putObj l o).heap.size = W.heap.size := by simp [World.putObj]
  exact ⟨h.os, h.tape, h.output, by rw [hs]; exact h.size, fun b hlt hx hn => (hb b hlt).trans (h.keep b hlt hx hn), h.gh, fun b t g hlt hA hT => by
    obtain ⟨g', h1, h2, h3⟩ := h.own b t g hlt hA hT
    exact ⟨g', h1, h2, fun i hi => (World.cell?_of_block (a := ⟨b, i, none⟩) (hb b hlt)).trans (h3 i hi)⟩, fun hd => by
    have := h.dom hd
    exact ⟨by rw [hs]; exact this.1, by rw [hs]; exact this.2⟩⟩
theorem Ext.shrink {T X X' : Nat → Prop} {A B : Gh} {w W : World} (h : Ext T X A w B W) (hX : ∀ b, b < w.heap.size → X b → X' b) : Ext T X' A w B W :=
  ⟨h.os, h.tape, h.output, h.size, fun b hlt hx hn => h.keep b hlt (fun hx' => hx (hX b hlt hx')) hn, h.gh, h.own, h.dom⟩
theorem Dom.free {A : Gh} {w : World} (h : Dom A w) {b : Nat} (hb : w.heap.size ≤ b) : A b = .free := by
  cases hc : A b with
  | free => rfl
  | fixed => have := h.1 b (by rw [hc]; simp); omega
  | own t g => have := h.1 b (by rw [hc]; simp); omega

/-- How the body of a round may be left. -/
def postR (T X : Nat → Prop) (I Ix : Jd) (k : Nat) (A1 : Gh) (W : World) : Exit → Act → World → Prop
  | .normal, _, W' => ∃ A', Ext T noX A1 W A' W' ∧ I k A' W'
  | .ret, _, W' => ∃ A', Ext T X A1 W A' W' ∧ Ix k A' W'
  | _, _, _ => False

theorem wp_range {T X : Nat → Prop} {n : Nat} {g : Operand} {s : Tmp} {assign body : Code} {Q : Exit → Act → World → Prop} {a : Act} {A0 A : Gh} {w0 w : World} {us : List U} {v0 : Value} (h1 : 1 ≤ n)
    (hg : a.eval g = v0) (hseq : SeqU T A0 w0 v0 us) (hE0 : Ext T noX A0 w0 A w) (hd : Dom A w) (hX : ∀ b, X b → A b = .free ∧ b < w.heap.size)
    (I Ix : Jd) (hI : Abides w.heap.size I) (hIx : Abides w.heap.size Ix) (h0 : I 0 A w) (a₁ : Value → Act)
    (hassign : ∀ (l : Nat) (x : Value) (W : World) (K : Act → World → Prop), K (a₁ x) W →
      assign.wpIn (Fence.wide.inRound l) 0 Tryz.prog (Exit.then K (fun _ _ _ => False)) { tmps := (#[s].zip #[x]).foldl (fun t (p, v) => t.setIfInBounds p v) a.tmps, defers := [] } W)
    (hbody : ∀ (l k : Nat) (x : Value) (u : U) (A1 : Gh) (W : World), us[k]? = some u → I k A1 W → Ext T noX A w A1 W → Dom A1 W → UnitAt A1 W x u → w.heap.size ≤ l → body.wpIn (Fence.wide.inRound l) 0 Tryz.prog (postR T X I Ix (k + 1) A1 W) (a₁ x) W)
    (hdone : ∀ (D : Nat) (A' : Gh) (W : World), w.heap.size ≤ D → I us.length A' W → Ext T noX A w A' W → A' D = .free → W.heap[D]? = some (.deferred (some [])) → Q .normal { a with defers := { target := .collected D, args := #[] } :: a.defers } W)
    (hstop : ∀ (D k : Nat) (A' : Gh) (W : World), w.heap.size ≤ D → k ≤ us.length → Ix k A' W → Ext T X A w A' W → A' D = .free → W.heap[D]? = some (.deferred (some [])) → Code.ret.wpIn Fence.wide n Tryz.prog Q { a with defers := { target := .collected D, args := #[] } :: a.defers } W) :
    (Code.rangeFunc g #[s] assign body).wpIn Fence.wide n Tryz.prog Q a w := by
  obtain ⟨gf, lb, rfl, eg, hseq⟩ := hseq
  refine wpIn_rangeFunc ?_
  intro fn hfn
  rw [show Fence.wide.round = none from rfl]
  obtain ⟨rec, hrec⟩ : ∃ rec : LoopState → Option Code → Loop, rec = fun st pe => { state := st, pending := pe, fn, tmps := a.tmps, params := #[s], assign, body, defers := w.heap.size } := ⟨_, rfl⟩
  obtain ⟨W1, hW1⟩ : ∃ W1, (w.alloc (.deferred (some []))).alloc (.loop (rec .ready none)) = W1 := ⟨_, rfl⟩
  have hL1 : W1.heap[w.heap.size + 1]? = some (.loop (rec .ready none)) := by
    rw [← hW1]; have := World.alloc_heap_new (w.alloc (.deferred (some []))) (.loop (rec .ready none)); rwa [World.size_alloc] at this
  have hK1 : W1.heap[w.heap.size]? = some (.deferred (some [])) := by
    rw [← hW1]; exact (Below.heap_alloc _ _ _ (by simp)).trans (World.alloc_heap_new w _)
  have hbw : Below w.heap.size w W1 := by rw [← hW1]; exact ((Below.refl _ w).alloc (Nat.le_refl _) _).alloc (by simp) _
  have hsz1 : W1.heap.size = w.heap.size + 2 := by rw [← hW1]; simp
  have hE1 : ∀ Y, Ext T Y A w A W1 := fun Y => Ext.of_below hbw
  have hI1 : I 0 A W1 := hI _ _ _ _ h0 (Steady.of_below hbw)
  have hfl : A (w.heap.size + 1) = .free := hd.free (by omega)
  have hfD : A w.heap.size = .free := hd.free (Nat.le_refl _)
  refine ⟨w.heap.size + 1, [{ target := .collected w.heap.size, args := #[] }], W1, { target := .fn (.func gf) lb, args := #[.func (.yield (w.heap.size + 1)) #[] #[]] }, W1, gf,
    #[.func (.yield (w.heap.size + 1)) #[] #[]] ++ lb, W1, ?_, ?_, ?_, ?_, fun _ => h1, ?_⟩
  · rw [← hW1, hrec]; exact run_enterLoop_outer _ _ _ _ _
  · simp only [resolve, hg]
    simp [go_sem]
  · intro f' hf'; trivial
  · simp [invoke, go_sem, eg]
  · have free_keep : ∀ {Y : Nat → Prop} {A1 A2 : Gh} {Wa Wb : World} {b : Nat}, Ext T Y A1 Wa A2 Wb → b < Wa.heap.size → A1 b = .free → A2 b = .free := fun h hb hf => (h.gh _ hb (fun t g e => by rw [hf] at e; cases e)).trans hf
    refine (callsIn_wide.2 (hseq (fun b => b = w.heap.size + 1 ∨ X b) (w.heap.size + 1)
      (fun k A1 W => I k A1 W ∧ W.heap[w.heap.size + 1]? = some (.loop (rec .ready none)) ∧ W.heap[w.heap.size]? = some (.deferred (some [])) ∧ A1 (w.heap.size + 1) = .free ∧ A1 w.heap.size = .free)
      (fun k A1 W => Ix k A1 W ∧ W.heap[w.heap.size + 1]? = some (.loop (rec .done (some .ret))) ∧ W.heap[w.heap.size]? = some (.deferred (some [])) ∧ A1 (w.heap.size + 1) = .free ∧ A1 w.heap.size = .free)
      A W1 (hE0.trans (hE1 _)) ((hE1 noX).dom hd) ?_ ?_ ?_ ?_ ⟨hI1, hL1, hK1, hfl, hfD⟩)).mono ?_
    · rintro k A1 W W' ⟨i1, i2, i3, i4, i5⟩ hs
      exact ⟨hI _ _ _ _ i1 (hs.mono (by omega)), hs.same _ _ i2 (.inl (by omega)), hs.same _ _ i3 (.inl (by omega)), i4, i5⟩
    · rintro k A1 W W' ⟨i1, i2, i3, i4, i5⟩ hs
      exact ⟨hIx _ _ _ _ i1 (hs.mono (by omega)), hs.same _ _ i2 (.inl (by omega)), hs.same _ _ i3 (.inl (by omega)), i4, i5⟩
    · rintro b (rfl | hb)
      · exact ⟨hfl, by omega⟩
      · have := hX b hb
        exact ⟨this.1, by omega⟩
    · -- ONE ROUND
      rintro k x u A1 W hu ⟨hi, hl, hk, hf1, hf2⟩ hEW hU
      have hlt : w.heap.size + 1 < W.heap.size := (Array.getElem?_eq_some_iff.1 hl).1
      have hy := run_yield (P := Tryz.prog) (args := #[x]) hl (by rw [hrec]; rfl)
      rw [hrec] at hy
      refine ⟨fn, _, assign, body, hy, roundIn_of_wpIn hfn (hassign _ x W _ ⟨_, run_beginRound hl (by rw [hrec]), ?_⟩)⟩
      obtain ⟨W2, hW2⟩ : ∃ W2, W.putObj (w.heap.size + 1) (.loop { rec .ready none with state := .busy }) = W2 := ⟨_, rfl⟩
      have hl2 : W2.heap[w.heap.size + 1]? = some (.loop { rec .ready none with state := .busy }) := hW2 ▸ World.putObj_heap_same hlt
      have hk2 : W2.heap[w.heap.size]? = some (.deferred (some [])) := by rw [← hW2]; exact (World.putObj_heap_other (by omega)).trans hk
      have hs2 : W2.heap.size = W.heap.size := by rw [← hW2]; simp [World.putObj]
      have ho2 : ∀ b, b ≠ w.heap.size + 1 → W2.heap[b]? = W.heap[b]? := fun b hb => by rw [← hW2]; exact World.putObj_heap_other (by omega)
      have hi2 : I k A1 W2 := by rw [← hW2]; exact hI _ _ _ _ hi (Steady.put _ hl rfl (by omega) hf1)
      have hE2 : Ext T noX A w A1 W2 := by rw [← hW2]; exact ((hE1 noX).trans hEW).putNew (by omega) _
      have hd2 : Dom A1 W2 := hE2.dom hd
      have hx2 : Ext T (· = w.heap.size + 1) A1 W A1 W2 := by
        refine ⟨by rw [← hW2]; rfl, by rw [← hW2]; rfl, by rw [← hW2]; rfl, by omega, fun b _ hb _ => ho2 b hb, fun _ _ _ => rfl, fun b t g hb hA hT => ⟨g, Nat.le_refl _, hA, fun i _ => World.cell?_of_block (a := ⟨b, i, none⟩) (ho2 b (fun e => by rw [e, hf1] at hA; cases hA))⟩, fun hdd => ⟨by rw [hs2]; exact hdd.1, by rw [hs2]; exact hdd.2⟩⟩
      have hU2 : UnitAt A1 W2 x u := hU.ext hx2 (fun b ⟨v, hv⟩ e => by
        subst e
        simp [World.cell?, hl] at hv)
      have hb := hbody (w.heap.size + 1) k x u A1 W2 hu hi2 hE2 hd2 hU2 (by omega)
      refine wpIn_mono (Eq.mpr (congrArg (fun V => Code.wpIn (Fence.wide.inRound (w.heap.size + 1)) 0 Tryz.prog body (postR T X I Ix (k + 1) A1 W2) (a₁ x) V) hW2) hb) ?_
      rintro e a3 W3 hp
      cases e with
      | normal =>
        obtain ⟨A', hE3, hi3⟩ := hp
        have hlt2 : w.heap.size + 1 < W2.heap.size := by omega
        have no1 : ∀ t g, A1 (w.heap.size + 1) = .own t g → ¬ T t := fun t g e => by rw [hf1] at e; cases e
        have no2 : ∀ t g, A1 w.heap.size = .own t g → ¬ T t := fun t g e => by rw [hf2] at e; cases e
        have hl3 := (hE3.keep _ hlt2 (fun h => h) no1).trans hl2
        have hk3 := (hE3.keep w.heap.size (by omega) (fun h => h) no2).trans hk2
        have hg1 := free_keep hE3 hlt2 hf1
        have hg2 := free_keep hE3 (show w.heap.size < W2.heap.size by omega) hf2
        have hr := run_endRound (P := Tryz.prog) none hl3
        have hlt3 : w.heap.size + 1 < W3.heap.size := (Array.getElem?_eq_some_iff.1 hl3).1
        have hsp := Steady.put (A := A') (n0 := w.heap.size) (.loop (rec .ready none)) hl3 rfl (by omega) hg1
        rw [hrec] at hr hl3 hsp
        refine ⟨_, _, hr, A', .inl ⟨rfl, ?_, hI _ _ _ _ hi3 hsp, ?_, ?_, hg1, hg2⟩⟩
        · have hlast : (W3.putObj (w.heap.size + 1) (.loop (rec .ready none))).heap[w.heap.size + 1]? = some (.loop (rec .ready none)) := World.putObj_heap_same hlt3
          have hoth : ∀ b, b ≠ w.heap.size + 1 → (W3.putObj (w.heap.size + 1) (.loop (rec .ready none))).heap[b]? = W3.heap[b]? := fun b hb => World.putObj_heap_other (by omega)
          have hs3 : (W3.putObj (w.heap.size + 1) (.loop (rec .ready none))).heap.size = W3.heap.size := by simp [World.putObj]
          have key : Ext T noX A1 W A' (W3.putObj (w.heap.size + 1) (.loop (rec .ready none))) := by
            refine ⟨hE3.os.trans hx2.os, hE3.tape.trans hx2.tape, hE3.output.trans hx2.output, by have := hE3.size; omega, fun b hb _ hn => ?_, fun b hb hn => hE3.gh b (by omega) hn, fun b t g hb hA hT => ?_, fun hdd => ?_⟩
            · by_cases e : b = w.heap.size + 1
              · subst e; exact hlast.trans hl.symm
              · exact (hoth b e).trans ((hE3.keep b (by omega) (fun h => h) hn).trans (ho2 b e))
            · obtain ⟨g', j1, j2, j3⟩ := hE3.own b t g (by omega) hA hT
              have hne : b ≠ w.heap.size + 1 := fun e => by rw [e, hf1] at hA; cases hA
              exact ⟨g', j1, j2, fun i hi => (World.cell?_of_block (a := ⟨b, i, none⟩) (hoth b hne)).trans ((j3 i hi).trans (World.cell?_of_block (a := ⟨b, i, none⟩) (ho2 b hne)))⟩
            · have := hE3.dom hd2
              exact ⟨by rw [hs3]; exact this.1, by rw [hs3]; exact this.2⟩
          rw [hrec] at key
          exact key
        · rw [hrec]; exact World.putObj_heap_same hlt3
        · exact (World.putObj_heap_other (by omega)).trans hk3
      | ret =>
        obtain ⟨A', hE3, hi3⟩ := hp
        have hlt2 : w.heap.size + 1 < W2.heap.size := by omega
        have nx1 : ¬ X (w.heap.size + 1) := fun h => by have := (hX _ h).2; omega
        have nx2 : ¬ X w.heap.size := fun h => by have := (hX _ h).2; omega
        have no1 : ∀ t g, A1 (w.heap.size + 1) = .own t g → ¬ T t := fun t g e => by rw [hf1] at e; cases e
        have no2 : ∀ t g, A1 w.heap.size = .own t g → ¬ T t := fun t g e => by rw [hf2] at e; cases e
        have hl3 := (hE3.keep _ hlt2 nx1 no1).trans hl2
        have hk3 := (hE3.keep w.heap.size (by omega) nx2 no2).trans hk2
        have hg1 := free_keep hE3 hlt2 hf1
        have hg2 := free_keep hE3 (show w.heap.size < W2.heap.size by omega) hf2
        have hr := run_endRound (P := Tryz.prog) (some .ret) hl3
        have hlt3 : w.heap.size + 1 < W3.heap.size := (Array.getElem?_eq_some_iff.1 hl3).1
        have hsp := Steady.put (A := A') (n0 := w.heap.size) (.loop (rec .done (some .ret))) hl3 rfl (by omega) hg1
        rw [hrec] at hr hl3 hsp
        refine ⟨_, _, hr, A', .inr ⟨rfl, ?_, hIx _ _ _ _ hi3 hsp, ?_, ?_, hg1, hg2⟩⟩
        · have hoth : ∀ b, b ≠ w.heap.size + 1 → (W3.putObj (w.heap.size + 1) (.loop (rec .done (some .ret)))).heap[b]? = W3.heap[b]? := fun b hb => World.putObj_heap_other (by omega)
          have hs3 : (W3.putObj (w.heap.size + 1) (.loop (rec .done (some .ret)))).heap.size = W3.heap.size := by simp [World.putObj]
          have key : Ext T (fun b => b = w.heap.size + 1 ∨ X b) A1 W A' (W3.putObj (w.heap.size + 1) (.loop (rec .done (some .ret)))) := by
            refine ⟨hE3.os.trans hx2.os, hE3.tape.trans hx2.tape, hE3.output.trans hx2.output, by have := hE3.size; omega, fun b hb hx hn => ?_, fun b hb hn => hE3.gh b (by omega) hn, fun b t g hb hA hT => ?_, fun hdd => ?_⟩
            · have e : b ≠ w.heap.size + 1 := fun e => hx (.inl e)
              exact (hoth b e).trans ((hE3.keep b (by omega) (fun h => hx (.inr h)) hn).trans (ho2 b e))
            · obtain ⟨g', j1, j2, j3⟩ := hE3.own b t g (by omega) hA hT
              have hne : b ≠ w.heap.size + 1 := fun e => by rw [e, hf1] at hA; cases hA
              exact ⟨g', j1, j2, fun i hi => (World.cell?_of_block (a := ⟨b, i, none⟩) (hoth b hne)).trans ((j3 i hi).trans (World.cell?_of_block (a := ⟨b, i, none⟩) (ho2 b hne)))⟩
            · have := hE3.dom hd2
              exact ⟨by rw [hs3]; exact this.1, by rw [hs3]; exact this.2⟩
          rw [hrec] at key
          exact key
        · rw [hrec]; exact World.putObj_heap_same hlt3
        · exact (World.putObj_heap_other (by omega)).trans hk3
      | exit id => exact hp.elim
      | goto t => exact hp.elim
      | panic ch => exact hp.elim
      | outgrown => exact hp.elim
    · -- BEHIND THE ITERATOR
      rintro e W2 ⟨⟨v, rfl⟩, A', (⟨⟨hi, hl, hk, hf1, hf2⟩, hE⟩ | ⟨k, hkl, ⟨hi, hl, hk, hf1, hf2⟩, hE⟩)⟩
      · refine ⟨none, _, by have := run_endLoop (P := Tryz.prog) hl (by rw [hrec]; simp); rw [hrec] at this; exact this, hdone _ A' _ (Nat.le_refl _) (hI _ _ _ _ hi (Steady.put _ hl rfl (by omega) hf1)) (((hE1 noX).trans hE).putNew (by omega) _) hf2 ((World.putObj_heap_other (by omega)).trans hk)⟩
      · refine ⟨some .ret, _, by have := run_endLoop (P := Tryz.prog) hl (by rw [hrec]; simp); rw [hrec] at this; exact this, hstop _ k A' _ (Nat.le_refl _) hkl (hIx _ _ _ _ hi (Steady.put _ hl rfl (by omega) hf1)) ((((hE1 _).trans hE).shrink (fun b hb hx => hx.elim (fun e => absurd e (by omega)) (fun h => h))).putNew (by omega) _) hf2 ((World.putObj_heap_other (by omega)).trans hk)⟩
end Go.Proofs.YtcioomlhdaihkaaGreatDoor.K
