/-
  Disks: functions that are ranged over: their contract, by units.
-/
import Derived.Test.YtfmigkmkdhciiaaKC
import Derived.RangeFuncNested
import Derived.RangeFuncBound
import Derived.RangeFuncCalls
import Derived.RangeFuncLeaves
import Derived.Shelf.Abstract
import Derived.Shelf.RegionOpen
import Derived.OwnWalkIn
import Derived.TacticsInMore
import Derived.LoopNIn
import Derived.LoopIn
import Derived.Lib.ConvBytes
namespace Go.Proofs.Ytfmigkmkdhciiaa.K
set_option linter.unusedVariables false
set_option linter.unusedSimpArgs false
set_option maxRecDepth 100000
open Go Go.RowKit Go.Maps Go.MapKept Go.ChangeMaps Go.Shelf
attribute [local go_sem] Oper.semAt_some

/-- What was there is there, but for blocks from n0 on that are no cells and nobody's. -/
structure Steady (n0 : Nat) (A : Gh) (W W' : World) : Prop where
  os : W'.os = W.os
  tape : W'.tape = W.tape
  output : W'.output = W.output
  size : W.heap.size ≤ W'.heap.size
  same : ∀ b o, W.heap[b]? = some o → (b < n0 ∨ o.isCells = true ∨ A b ≠ .free) → W'.heap[b]? = some o
theorem Steady.of_below {n0 : Nat} {A : Gh} {W W' : World} (h : Below W.heap.size W W') : Steady n0 A W W' :=
  ⟨h.os, h.tape, h.output, h.size, fun b o ho _ => (h.block b (Array.getElem?_eq_some_iff.1 ho).1).trans ho⟩
theorem Steady.refl (n0 : Nat) (A : Gh) (W : World) : Steady n0 A W W := Steady.of_below (Below.refl _ _)
theorem Steady.trans {n0 : Nat} {A : Gh} {a b c : World} (h : Steady n0 A a b) (k : Steady n0 A b c) : Steady n0 A a c :=
  ⟨k.os.trans h.os, k.tape.trans h.tape, k.output.trans h.output, Nat.le_trans h.size k.size, fun b o ho hc => k.same b o (h.same b o ho hc) hc⟩
theorem Steady.put {n0 : Nat} {A : Gh} {W : World} {l : Nat} {o : Obj} (o' : Obj) (hl : W.heap[l]? = some o) (ho : o.isCells = false) (hn : n0 ≤ l) (hA : A l = .free) : Steady n0 A W (W.putObj l o') := by
  refine ⟨rfl, rfl, rfl, (grownBy_putObj' W l o').size, fun b x hx hc => ?_⟩
  by_cases e : b = l
  · subst e
    rw [hl] at hx
    cases hx
    rcases hc with h | h | h
    · omega
    · rw [ho] at h; cases h
    · exact absurd hA h
  · exact (World.putObj_heap_other (by omega)).trans hx
theorem Steady.mono {n0 n1 : Nat} {A : Gh} {W W' : World} (h : Steady n1 A W W') (hn : n0 ≤ n1) : Steady n0 A W W' := ⟨h.os, h.tape, h.output, h.size, fun b o ho hc => h.same b o ho (by rcases hc with h | h | h; exact .inl (by omega); exact .inr (.inl h); exact .inr (.inr h))⟩

abbrev Jd := Nat → Gh → World → Prop
def Abides (n0 : Nat) (J : Jd) : Prop := ∀ k A W W', J k A W → Steady n0 A W W' → J k A W'
theorem Abides.mono {n0 n1 : Nat} {J : Jd} (h : Abides n0 J) (hn : n0 ≤ n1) : Abides n1 J := fun k A W W' hJ hs => h k A W W' hJ (hs.mono hn)

abbrev YU (T X : Nat → Prop) (us : List U) (l : Nat) (J Jx : Jd) (A : Gh) (W : World) : Prop :=
  ∀ k x u A1 W1, us[k]? = some u → J k A1 W1 → Ext T noX A W A1 W1 → UnitAt A1 W1 x u → YieldAt Fence.wide 0 Try.prog l #[x] W1 fun e W' => ∃ A',
    (e = .returned (.bool true) ∧ Ext T noX A1 W1 A' W' ∧ J (k + 1) A' W') ∨ (e = .returned (.bool false) ∧ Ext T X A1 W1 A' W' ∧ Jx (k + 1) A' W')
def EndU (T X : Nat → Prop) (us : List U) (l : Nat) (J Jx : Jd) (A : Gh) (W : World) (e : Ending) (W' : World) : Prop :=
  (∃ v, e = .returned v) ∧ ∃ A', (J us.length A' W' ∧ Ext T noX A W A' W') ∨ ∃ k, k ≤ us.length ∧ Jx k A' W' ∧ Ext T X A W A' W'
/-- Ranged over, a function value hands on these units, one after the other, until it is told that there is no more wanted. -/
def SeqU (T : Nat → Prop) (A0 : Gh) (w0 : World) (v : Value) (us : List U) : Prop :=
  ∃ g lb, v = .func (.func g) #[] lb ∧ (∀ (args : Array Value) (w : World), (callFunc g args).run Try.prog w = .ok (.enter g args) w) ∧
  ∀ (X : Nat → Prop) (l : Nat) (J Jx : Jd) (A : Gh) (W : World), Ext T noX A0 w0 A W → Dom A W → Abides W.heap.size J → Abides W.heap.size Jx → (∀ b, X b → A b = .free ∧ b < W.heap.size) →
    YU T X us l J Jx A W → J 0 A W → Calls Try.prog g (#[.func (.yield l) #[] #[]] ++ lb) W (EndU T X us l J Jx A W)

set_option maxHeartbeats 1000000 in
theorem seq_single {T : Nat → Prop} {A0 : Gh} {w0 : World} {b : Nat} {x : Value} {u : U} (hc : w0.cell? ⟨b, 0, none⟩ = some x) (hn : nown A0 b) (hU : UnitAt A0 w0 x u) :
    SeqU T A0 w0 (.func (.func 63) #[] #[.pointer (some ⟨b, 0, none⟩)]) [u] := by
  refine ⟨_, _, rfl, fun _ _ => rfl, fun X l J Jx A W hE hd hJ hJx hX hY h0 => ?_⟩
  obtain ⟨h1, _⟩ := cell_ext hE hc hn (fun h => h)
  have hU1 := hU.ext hE (fun _ _ h => h)
  obtain ⟨fn, tmps, assign, body, hy, hR⟩ := hY 0 x u A W rfl h0 (Ext.refl _ _ _ _) hU1
  refine (callsIn_wide (n := 1)).1 ?_
  refine callsIn_of_wp Try.func63 rfl trivial ?_ rfl
  simp only [Try.ntmps63, List.size_toArray, List.length_cons, List.length_nil, Nat.reduceAdd, Nat.reduceSub, Array.replicate_succ, Array.replicate_zero, List.push_toArray, List.append_toArray, List.nil_append, List.cons_append]
  gi_wp2
  refine hR.mono ?_
  rintro e W' ⟨A', (⟨rfl, hx, hj⟩ | ⟨rfl, hx, hj⟩)⟩
  · gi_wp2
    go_end0
    exact ⟨⟨_, rfl⟩, A', .inl ⟨hj, hx⟩⟩
  · gi_wp2
    go_end0
    exact ⟨⟨_, rfl⟩, A', .inr ⟨1, Nat.le_refl _, hj, hx⟩⟩

set_option maxHeartbeats 2000000 in
theorem seq_append {T : Nat → Prop} {A0 : Gh} {w0 : World} {be : Nat} {ex : Bool} {p q : Value} {n s : Str} (hc : w0.cell? ⟨be, 0, none⟩ = some (.bool ex)) (hn : nown A0 be) (hp : StrAt A0 w0 p n) (hq : StrAt A0 w0 q s) (hs : s.length ≤ 1099511627776) :
    SeqU T A0 w0 (.func (.func 53) #[] #[.pointer (some ⟨be, 0, none⟩), p, q]) (appendUs n s ex) := by
  refine ⟨_, _, rfl, fun _ _ => rfl, fun X l J Jx A W hE hd hJ hJx hX hY h0 => ?_⟩
  obtain ⟨h1, _⟩ := cell_ext hE hc hn (fun h => h)
  have hp' := hp.ext hE (fun _ _ h => h)
  have hq' := hq.ext hE (fun _ _ h => h)
  clear hp hq
  obtain ⟨_, bp, rfl, hcp, hnp⟩ := id hp'
  obtain ⟨_, bq, rfl, hcq, hnq⟩ := id hq'
  have hsz : (⟨s.toArray⟩ : ByteArray).size = s.length := by simp [ByteArray.size]
  have hconv : ∀ V : World, (convert 9 68 (.string ⟨s.toArray⟩)).run Try.prog V = .ok (.slice (some ⟨V.heap.size, 0, none⟩) s.length (grownCap V s.length 0 5)) (Lib.bytesWorld V 5 ⟨s.toArray⟩) := fun V => by
    have := Lib.run_convert_string_bytes (P := Try.prog) V 9 68 5 ⟨s.toArray⟩ Try.underlying9 Try.underlying68 Try.underlying5
    rwa [hsz] at this
  have hbw : ∀ V : World, Below V.heap.size V (Lib.bytesWorld V 5 ⟨s.toArray⟩) := fun V => ⟨rfl, rfl, rfl, by rw [Lib.bytesWorld_size]; omega, fun b hb => Lib.bytesWorld_at_old _ _ _ b hb⟩
  have hcsV : ∀ (V : World) k (x : UInt8), s[k]? = some x → (Lib.bytesCells V 5 ⟨s.toArray⟩)[k]? = some (u8v x) := fun V k x hx => by
    have hk := (List.getElem?_eq_some_iff.1 hx).1
    unfold Lib.bytesCells
    rw [Array.getElem?_append_left (by simpa using hk)]
    simp [hx, u8v]
  refine (callsIn_wide (n := 1)).1 ?_
  refine callsIn_of_wp Try.func53 rfl trivial ?_ rfl
  simp only [Try.ntmps53, List.size_toArray, List.length_cons, List.length_nil, Nat.reduceAdd, Nat.reduceSub, Array.replicate_succ, Array.replicate_zero, List.push_toArray, List.append_toArray, List.nil_append, List.cons_append]
  cases ex with
  | true =>
    have hlen : (appendUs n s true).length = 0 + s.length := by simp [appendUs]
    have hat : ∀ k (x : UInt8), s[k]? = some x → (appendUs n s true)[0 + k]? = some (U.byte n x) := fun k x hx => by simp [appendUs, hx]
    have hg0 := Lib.bytesWorld_at_new W 5 ⟨s.toArray⟩
    have hgA : A W.heap.size = .free := by
      cases hc : A W.heap.size with
      | free => rfl
      | fixed => have := hd.1 W.heap.size (by rw [hc]; simp); omega
      | own t g => have := hd.1 W.heap.size (by rw [hc]; simp); omega
    have hEs : Ext T noX A W A (Lib.bytesWorld W 5 ⟨s.toArray⟩) := Ext.of_below (hbw W)
    have hJs := hJ _ _ _ _ h0 (Steady.of_below (hbw W))
    have hconvW := hconv W
    clear hconv
    gi_wp2
    refine ⟨fun _ h => (by cases h), ?_⟩
    gi_wp2
    gi_loopw [18] (fun i wr => ∃ (k : Nat) (A1 : Gh), k ≤ s.length ∧ i = .int .i64 k ∧ Ext T noX A W A1 wr ∧ J (0 + k) A1 wr ∧ A1 W.heap.size = .free ∧ wr.heap[W.heap.size]? = some (.cells (Lib.bytesCells W 5 ⟨s.toArray⟩) 5  ((Lib.bytesCells W 5 ⟨s.toArray⟩).size, (Lib.bytesCells W 5 ⟨s.toArray⟩).size + 1))) (fun i _ => s.length - (intOf i).toNat)
    case atStart => exact ⟨0, _, Nat.zero_le _, rfl, hEs, hJs, hgA, hg0⟩
    case round =>
      obtain ⟨k, A1, hk, rfl, hE1, hJ1, hA1, hrow⟩ := hrel
      have hd1 := hE1.dom hd
      by_cases hlt : k < s.length
      · obtain ⟨x, hx⟩ : ∃ x, s[k]? = some x := ⟨_, List.getElem?_eq_getElem hlt⟩
        have hcx : wr.cell? ⟨W.heap.size, k, none⟩ = some (u8v x) := (cell_row hrow k).trans (hcsV W k x hx)
        have hb1 : Below wr.heap.size wr (wr.alloc (.cells #[u8v x] 5)) := (Below.refl _ wr).alloc (Nat.le_refl _) _
        have hJ2 := hJ _ _ _ _ hJ1 (Steady.of_below hb1)
        have hE2 : Ext T noX A1 wr A1 _ := Ext.of_below hb1
        have hbx : (wr.alloc (.cells #[u8v x] 5)).cell? ⟨wr.heap.size, 0, none⟩ = some (u8v x) := cell_new wr #[u8v x] _ 0
        have hfree : A1 wr.heap.size = .free := by
          cases hc : A1 wr.heap.size with
          | free => rfl
          | fixed => have := hd1.1 wr.heap.size (by rw [hc]; simp); omega
          | own t g => have := hd1.1 wr.heap.size (by rw [hc]; simp); omega
        have hU : UnitAt A1 (wr.alloc (.cells #[u8v x] 5)) (.func (.func 55) #[] #[.pointer (some ⟨bp, 0, none⟩), .pointer (some ⟨wr.heap.size, 0, none⟩)]) (.byte n x) :=
          ⟨_, _, rfl, (hp'.ext hE1 (fun _ _ h => h)).ext hE2 (fun _ _ h => h), hbx, fun t g e => by rw [hfree] at e; cases e⟩
        obtain ⟨fn, tmps, assign, body, hy, hR⟩ := hY (0 + k) _ _ A1 _ (hat k x hx) hJ2 (hE1.trans hE2) hU
        unfold u8v at hy hR hcx
        gi_wp2
        refine hR.mono ?_
        rintro e W' ⟨A', (⟨rfl, hx', hj⟩ | ⟨rfl, hx', hj⟩)⟩
        · have hb2 : W.heap.size < wr.heap.size := (Array.getElem?_eq_some_iff.1 hrow).1
          have hk1 := hx'.keep W.heap.size (Nat.lt_of_lt_of_le hb2 hb1.size) (fun h => h) (fun t g e => by rw [hA1] at e; cases e)
          have hk2 := hx'.gh W.heap.size (Nat.lt_of_lt_of_le hb2 hb1.size) (fun t g e => by rw [hA1] at e; cases e)
          gi_wp2
          go_roundw
          case rel => exact ⟨k + 1, A', hlt, by go_num, (hE1.trans hE2).trans hx', hj, hk2.trans hA1, hk1.trans ((hb1.block W.heap.size hb2).trans hrow)⟩
          case measure => simp [intOf]; omega
        · gi_wp2
          refine bodyPost_ret (results_none rfl _ _ _) rfl ?_
          exact ⟨⟨_, rfl⟩, A', .inr ⟨0 + k + 1, by rw [hlen]; omega, hj, ((hE1.mono0 (fun _ h => h)).trans (hE2.mono0 (fun _ h => h))).trans hx'⟩⟩
      · obtain rfl : k = s.length := by omega
        gi_wp2
        go_end0
        exact ⟨⟨_, rfl⟩, A1, .inl ⟨by rw [hlen]; exact hJ1, hE1⟩⟩
  | false =>
    have hU0 : UnitAt A W (.func (.func 54) #[] #[.pointer (some ⟨bp, 0, none⟩)]) (.mk n) := ⟨_, rfl, hp'⟩
    obtain ⟨fn, tmps, assign, body, hy, hR⟩ := hY 0 _ _ A W rfl h0 (Ext.refl _ _ _ _) hU0
    gi_wp2
    refine hR.mono ?_
    clear hy hR fn tmps assign body
    rintro e V ⟨B, (⟨rfl, hxV, hjV⟩ | ⟨rfl, hxV, hjV⟩)⟩
    rotate_left
    · gi_wp2
      refine bodyPost_ret (results_none rfl _ _ _) rfl ?_
      exact ⟨⟨_, rfl⟩, B, .inr ⟨1, by simp [appendUs], hjV, hxV⟩⟩
    have hdV := hxV.dom hd
    have hq2 := hq'.ext hxV (fun _ _ h => h)
    obtain ⟨_, bq', e', hcqV, _⟩ := hq2
    cases e'
    have hlen : (appendUs n s false).length = 1 + s.length := by simp [appendUs]; omega
    have hat : ∀ k (x : UInt8), s[k]? = some x → (appendUs n s false)[1 + k]? = some (U.byte n x) := fun k x hx => by rw [Nat.add_comm]; simp [appendUs, hx]
    have hg0 := Lib.bytesWorld_at_new V 5 ⟨s.toArray⟩
    have hgA : B V.heap.size = .free := by
      cases hc : B V.heap.size with
      | free => rfl
      | fixed => have := hdV.1 V.heap.size (by rw [hc]; simp); omega
      | own t g => have := hdV.1 V.heap.size (by rw [hc]; simp); omega
    have hEs : Ext T noX A W B (Lib.bytesWorld V 5 ⟨s.toArray⟩) := hxV.trans (Ext.of_below (hbw V))
    have hJs := hJ _ _ _ _ hjV (Steady.of_below (hbw V))
    have hconvW := hconv V
    clear hconv hcq
    gi_wp2
    gi_loopw [18] (fun i wr => ∃ (k : Nat) (A1 : Gh), k ≤ s.length ∧ i = .int .i64 k ∧ Ext T noX A W A1 wr ∧ J (1 + k) A1 wr ∧ A1 V.heap.size = .free ∧ wr.heap[V.heap.size]? = some (.cells (Lib.bytesCells V 5 ⟨s.toArray⟩) 5  ((Lib.bytesCells V 5 ⟨s.toArray⟩).size, (Lib.bytesCells V 5 ⟨s.toArray⟩).size + 1))) (fun i _ => s.length - (intOf i).toNat)
    case atStart => exact ⟨0, _, Nat.zero_le _, rfl, hEs, hJs, hgA, hg0⟩
    case round =>
      obtain ⟨k, A1, hk, rfl, hE1, hJ1, hA1, hrow⟩ := hrel
      have hd1 := hE1.dom hd
      by_cases hlt : k < s.length
      · obtain ⟨x, hx⟩ : ∃ x, s[k]? = some x := ⟨_, List.getElem?_eq_getElem hlt⟩
        have hcx : wr.cell? ⟨V.heap.size, k, none⟩ = some (u8v x) := (cell_row hrow k).trans (hcsV V k x hx)
        have hb1 : Below wr.heap.size wr (wr.alloc (.cells #[u8v x] 5)) := (Below.refl _ wr).alloc (Nat.le_refl _) _
        have hJ2 := hJ _ _ _ _ hJ1 (Steady.of_below hb1)
        have hE2 : Ext T noX A1 wr A1 _ := Ext.of_below hb1
        have hbx : (wr.alloc (.cells #[u8v x] 5)).cell? ⟨wr.heap.size, 0, none⟩ = some (u8v x) := cell_new wr #[u8v x] _ 0
        have hfree : A1 wr.heap.size = .free := by
          cases hc : A1 wr.heap.size with
          | free => rfl
          | fixed => have := hd1.1 wr.heap.size (by rw [hc]; simp); omega
          | own t g => have := hd1.1 wr.heap.size (by rw [hc]; simp); omega
        have hU : UnitAt A1 (wr.alloc (.cells #[u8v x] 5)) (.func (.func 55) #[] #[.pointer (some ⟨bp, 0, none⟩), .pointer (some ⟨wr.heap.size, 0, none⟩)]) (.byte n x) :=
          ⟨_, _, rfl, (hp'.ext hE1 (fun _ _ h => h)).ext hE2 (fun _ _ h => h), hbx, fun t g e => by rw [hfree] at e; cases e⟩
        obtain ⟨fn, tmps, assign, body, hy, hR⟩ := hY (1 + k) _ _ A1 _ (hat k x hx) hJ2 (hE1.trans hE2) hU
        unfold u8v at hy hR hcx
        gi_wp2
        refine hR.mono ?_
        rintro e W' ⟨A', (⟨rfl, hx', hj⟩ | ⟨rfl, hx', hj⟩)⟩
        · have hb2 : V.heap.size < wr.heap.size := (Array.getElem?_eq_some_iff.1 hrow).1
          have hk1 := hx'.keep V.heap.size (Nat.lt_of_lt_of_le hb2 hb1.size) (fun h => h) (fun t g e => by rw [hA1] at e; cases e)
          have hk2 := hx'.gh V.heap.size (Nat.lt_of_lt_of_le hb2 hb1.size) (fun t g e => by rw [hA1] at e; cases e)
          gi_wp2
          go_roundw
          case rel => exact ⟨k + 1, A', hlt, by go_num, (hE1.trans hE2).trans hx', hj, hk2.trans hA1, hk1.trans ((hb1.block V.heap.size hb2).trans hrow)⟩
          case measure => simp [intOf]; omega
        · gi_wp2
          refine bodyPost_ret (results_none rfl _ _ _) rfl ?_
          exact ⟨⟨_, rfl⟩, A', .inr ⟨1 + k + 1, by rw [hlen]; omega, hj, ((hE1.mono0 (fun _ h => h)).trans (hE2.mono0 (fun _ h => h))).trans hx'⟩⟩
      · obtain rfl : k = s.length := by omega
        gi_wp2
        go_end0
        exact ⟨⟨_, rfl⟩, A1, .inl ⟨by rw [hlen]; exact hJ1, hE1⟩⟩
end Go.Proofs.Ytfmigkmkdhciiaa.K
