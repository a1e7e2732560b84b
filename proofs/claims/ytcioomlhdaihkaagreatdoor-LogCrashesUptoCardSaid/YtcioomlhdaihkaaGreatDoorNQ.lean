/-
  Logs: calls in a great room, with no fuse; acts that are known.
-/
import Derived.Test.YtcioomlhdaihkaaGreatDoorNGr
namespace Go.Proofs.YtcioomlhdaihkaaGreatDoor.L
set_option linter.unusedVariables false
set_option linter.unusedSimpArgs false
set_option maxRecDepth 100000
open Go Go.RowKit Go.Maps Go.MapKept Go.ChangeMaps Go.Shelf Wire
open K (Gh Ext Dom noX Jd Steady)
section
variable {R i N : Nat} {A : List Sg} {dr : Option Bs} {z : Z} {S : List Bs}
theorem Up.mono {M : Nat} (h : Up N A dr z) (hm : N ≤ M) : Up M A dr z :=
  ⟨⟨h.core.ok, h.core.up, h.core.seen, h.core.segs.mono hm, h.core.drl, h.core.fold, h.core.wt⟩, h.nb, h.syn, h.hist.mono (fun f hf => hf.mono hm (List.prefix_refl _)), h.last⟩
theorem Ok.mono {j M : Nat} (h : Ok R i N A dr z) (hj : i ≤ j) (hm : N ≤ M) : Ok R j M A dr z :=
  ⟨h.up.mono hm, h.room, by have := h.left; omega, by have := h.lim; omega, by have := h.steps; omega⟩
theorem app_any (h : Ok 1048576 i N A dr z) (hi : i ≤ 190) (hN : N + 1 < 100) (hW : wgt (z.2.texts ++ S) ≤ 900) : ∃ A' z', mApp (nums A) S z = (z', 0) ∧ Ok 1048576 (i + 1) (N + 1) A' dr z' ∧ z'.2.texts = z.2.texts ++ S ∧ z'.2.synced = z.2.synced ∧ z'.2.limit = z.2.limit ∧ z'.2.disk = z.2.disk ∧ (S ≠ [] → z.2.last = [] → A'.length = A.length + 1) := by
  by_cases hS : S = []
  · subst hS
    exact ⟨A, z, app_nil h.up.nb _, h.mono (Nat.le_succ _) (Nat.le_succ _), by simp, rfl, rfl, rfl, fun h => absurd rfl h⟩
  · obtain ⟨h0, A', k, c', h1, h2, h3⟩ := app_ok h (by omega) hN hW hS (big_room h.up (by omega) hW).1
    refine ⟨A', (mApp (nums A) S z).1, Prod.ext rfl h0, h2, by rw [h3], by rw [h3], by rw [h3], by rw [h3], fun _ hl => ?_⟩
    rw [(h1.of_new hl).1, List.length_append]
    rfl
theorem snap_any (h : Ok 1048576 i N A dr z) (hi : i ≤ 190) (hN : N + 1 < 100) : ∃ z', mSnap (nextNum (nums A)) (nums A ++ [nextNum (nums A)]) z = (z', 0) ∧ Ok 1048576 (i + 1) (N + 1) [snapSg A z.2.texts] none z' ∧ z'.2.texts = z.2.texts ∧ z'.2.synced = z.2.texts.length ∧ z'.2.last = [] ∧ z'.1.units = 0 ∧ z'.2.limit = z.2.limit ∧ z'.2.disk = z.2.disk := by
  obtain ⟨h0, h1, h2, h3⟩ := snap_ok h (by omega) hN (big_room (S := []) h.up (by omega) (by rw [List.append_nil]; exact h.up.core.wt)).2
  exact ⟨_, Prod.ext rfl h0, h1, by rw [h2], by rw [h2], by rw [h2], h3, by rw [h2], by rw [h2]⟩
theorem sync_any (h : Ok 1048576 i N A dr z) (hi : i ≤ 190) : ∃ z', mSyncL z = (z', 0) ∧ Ok 1048576 (i + 1) N A dr z' ∧ z'.2.texts = z.2.texts ∧ z'.2.synced = z.2.texts.length ∧ z'.1.units = 0 ∧ z'.2.limit = z.2.limit ∧ z'.2.disk = z.2.disk := by
  obtain ⟨h0, h1, h2, h3⟩ := sync_ok h (by omega)
  exact ⟨_, Prod.ext rfl h0, h1, by rw [h2], by rw [h2], h3, by rw [h2], by rw [h2]⟩

/-! ### the strings of acts -/
def allL (xs : List ActM) : List Bs := (xs.map (·.L)).flatten
theorem allL_take {xs : List ActM} {j : Nat} {x : ActM} (h : xs[j]? = some x) : allL (xs.take (j + 1)) = allL (xs.take j) ++ x.L := by
  rw [List.take_add_one, h]
  simp [allL]
theorem wgt_allL (xs : List ActM) : wgt (allL xs) ≤ tot9 xs := by
  induction xs with
  | nil => simp [allL, wgt]
  | cons x r ih =>
    have e : allL (x :: r) = x.L ++ allL r := by simp [allL]
    rw [e, wgt_app]
    have e2 : tot9 (x :: r) = gw x + tot9 r := by simp [tot9]
    rw [e2]
    unfold gw
    omega
theorem wgt_allL_take (xs : List ActM) (j : Nat) : wgt (allL (xs.take j)) ≤ tot9 xs := Nat.le_trans (wgt_allL _) (tot9_le xs j)
/-- An act's strings, wherever the argument is seen. -/
theorem acts_sv {w0 : World} {a : Option Addr} {len cap : Nat} {xs : List ActM} (h : IsActs w0 a len cap xs) {j : Nat} {x : ActM} (hx : xs[j]? = some x) : ∃ (ad : Addr) (B O : Nat) (sp : Option Nat) (v : Value), a = some ad ∧ ad.add (j * 5) = ⟨B, O, sp⟩ ∧ Q.SV w0 v x.L ∧ ∀ V, Below w0.heap.size w0 V → V.cell? ⟨B, O + 1, none⟩ = some v ∧ V.cell? ⟨B, O, sp⟩ = some (.int .u8 (x.a : Nat)) ∧ Q.SV V v x.L := by
  obtain ⟨h1, h2, h3, h4, h5⟩ := h
  have hj := (List.getElem?_eq_some_iff.1 hx).1
  cases a with
  | none => have h9 : len = 0 := h5; omega
  | some ad =>
    obtain ⟨B, O, sp, e, hA⟩ := h5 j x hx
    obtain ⟨q0, ⟨v, q1, hs⟩, q3, q4⟩ := hA
    exact ⟨ad, B, O, sp, v, rfl, e, hs, fun V hV => ⟨(hV.cell (acell_lt q1)).trans q1, (hV.cell (acell_lt q0)).trans q0, hs.keep hV⟩⟩
/-- The strings of an act are appended. -/
theorem call_App {w0 w : World} {p q : Nat} {ds : List (Nat × K.St)} {Rb : Bxs} (hz : LZ w0 w p q ds Rb z) (h : Ok 1048576 i N A dr z) (htab : Tab w0) (hi : i ≤ 190) (hN : N + 1 < 100) (hW : wgt (z.2.texts ++ S) ≤ 900) (hlim : z.2.limit ≤ 1048576) {v : Value} (hv : Q.SV w0 v S) :
    Calls Tryz.prog 13 #[.pointer (some ⟨q, 0, none⟩), v] w fun e w' => e = .returned (.int .i64 0) ∧ ∃ A' z', LZ w0 w' p q ds Rb z' ∧ Ok 1048576 (i + 1) (N + 1) A' dr z' ∧ z'.2.texts = z.2.texts ++ S ∧ z'.2.synced = z.2.synced ∧ z'.2.limit = z.2.limit ∧ z'.2.disk = z.2.disk := by
  obtain ⟨A', z', h1, h2, h3, h4, h5, h6, _⟩ := app_any h hi hN hW
  have hc := call_Append hz h.up htab (h.rm (by omega)) hN hW hlim (fun V zz hV => hv.keep hV.1.low)
  rw [h1] at hc
  refine hc.mono ?_
  rintro e w' ⟨rfl, hz'⟩
  exact ⟨rfl, A', z', hz', h2, h3, h4, h5, h6⟩
theorem call_Snap {w0 w : World} {p q : Nat} {ds : List (Nat × K.St)} {Rb : Bxs} (hz : LZ w0 w p q ds Rb z) (h : Ok 1048576 i N A dr z) (htab : Tab w0) (hi : i ≤ 190) (hN : N + 1 < 100) :
    Calls Tryz.prog 15 #[.pointer (some ⟨q, 0, none⟩)] w fun e w' => e = .returned (.int .i64 0) ∧ ∃ z', LZ w0 w' p q ds Rb z' ∧ Ok 1048576 (i + 1) (N + 1) [snapSg A z.2.texts] none z' ∧ z'.2.texts = z.2.texts ∧ z'.2.synced = z.2.texts.length ∧ z'.2.last = [] ∧ z'.1.units = 0 ∧ z'.2.limit = z.2.limit ∧ z'.2.disk = z.2.disk := by
  obtain ⟨z', h1, h2, h3⟩ := snap_any h hi hN
  have hc := call_Snapshot hz h.up htab (h.rm (by omega)) hN
  rw [h1] at hc
  refine hc.mono ?_
  rintro e w' ⟨rfl, hz'⟩
  exact ⟨rfl, z', hz', h2, h3⟩
end
end Go.Proofs.YtcioomlhdaihkaaGreatDoor.L
