/-
  The law of limits.
-/
import Derived.Test.YtcioomlhdaihkaaGreatDoorNS1
namespace Go.Proofs.YtcioomlhdaihkaaGreatDoor.L
set_option linter.unusedVariables false
set_option linter.unusedSimpArgs false
set_option maxRecDepth 100000
open Go Go.RowKit Go.Maps Go.MapKept Go.ChangeMaps Go.Shelf Wire
open K (Gh Ext Dom noX Jd Steady)
attribute [-go_sem] Go.Builtin.append_

/-- Two logs on two disks. -/
def Two (w0 w : World) (p q p2 q2 : Nat) (z z2 : Z) (R : Bxs) : Prop := ∃ tv2 rb2, RowB tv2 z2.2.texts rb2 ∧ z2.2.disk = p2 ∧ LZ w0 w p q [(p2, z2.1)] ((q2, sobj z2.2 tv2) :: (rb2 ++ R)) z
theorem Two.swap {w0 w : World} {p q p2 q2 : Nat} {z z2 : Z} {R : Bxs} (h : Two w0 w p q p2 q2 z z2 R) : Two w0 w p2 q2 p q z2 z R := by
  obtain ⟨tv2, rb2, h1, h2, h3⟩ := h
  obtain ⟨s, x⟩ := z
  obtain ⟨s2, y⟩ := z2
  obtain ⟨tv, rb, i1, i2, i3⟩ := LZ.swap h3 h1 h2
  exact ⟨tv, rb, i1, i2, i3⟩
theorem Two.low {w0 w : World} {p q p2 q2 : Nat} {z z2 : Z} {R : Bxs} (h : Two w0 w p q p2 q2 z z2 R) : Below w0.heap.size w0 w := by
  obtain ⟨tv2, rb2, h1, h2, h3⟩ := h
  exact h3.1.low
theorem Two.below {w0 w w' : World} {p q p2 q2 : Nat} {z z2 : Z} {R : Bxs} (h : Two w0 w p q p2 q2 z z2 R) (hb : Below w.heap.size w w') : Two w0 w' p q p2 q2 z z2 R := by
  obtain ⟨tv2, rb2, h1, h2, h3⟩ := h
  exact ⟨tv2, rb2, h1, h2, h3.below hb⟩
section
variable {w0 w : World} {p q p2 q2 : Nat} {z z2 : Z} {R : Bxs} {i N : Nat} {A : List Sg} {dr : Option Bs} {S : List Bs}
theorem two_App (hz : Two w0 w p q p2 q2 z z2 R) (h : Ok 1048576 i N A dr z) (htab : Tab w0) (hi : i ≤ 190) (hN : N + 1 < 100) (hW : wgt (z.2.texts ++ S) ≤ 900) (hlim : z.2.limit ≤ 1048576) {v : Value} (hv : Q.SV w0 v S) :
    Calls Tryz.prog 13 #[.pointer (some ⟨q, 0, none⟩), v] w fun e w' => e = .returned (.int .i64 0) ∧ ∃ A' z', Two w0 w' p q p2 q2 z' z2 R ∧ Ok 1048576 (i + 1) (N + 1) A' dr z' ∧ z'.2.texts = z.2.texts ++ S ∧ z'.2.limit = z.2.limit := by
  obtain ⟨tv2, rb2, h1, h2, h3⟩ := hz
  refine (call_App h3 h htab hi hN hW hlim hv).mono ?_
  rintro e w' ⟨rfl, A', z', k1, k2, k3, k4, k5, k6⟩
  exact ⟨rfl, A', z', ⟨tv2, rb2, h1, h2, k1⟩, k2, k3, k5⟩
theorem two_Snap (hz : Two w0 w p q p2 q2 z z2 R) (h : Ok 1048576 i N A dr z) (htab : Tab w0) (hi : i ≤ 190) (hN : N + 1 < 100) :
    Calls Tryz.prog 15 #[.pointer (some ⟨q, 0, none⟩)] w fun e w' => e = .returned (.int .i64 0) ∧ ∃ A' dr' z', Two w0 w' p q p2 q2 z' z2 R ∧ Ok 1048576 (i + 1) (N + 1) A' dr' z' ∧ z'.2.texts = z.2.texts ∧ z'.2.limit = z.2.limit := by
  obtain ⟨tv2, rb2, h1, h2, h3⟩ := hz
  refine (call_Snap h3 h htab hi hN).mono ?_
  rintro e w' ⟨rfl, z', k1, k2, k3, k4, k5, k6, k7, k8⟩
  exact ⟨rfl, _, none, z', ⟨tv2, rb2, h1, h2, k1⟩, k2, k3, k7⟩
theorem two_Sync (hz : Two w0 w p q p2 q2 z z2 R) (h : Ok 1048576 i N A dr z) (hi : i ≤ 190) :
    Calls Tryz.prog 14 #[.pointer (some ⟨q, 0, none⟩)] w fun e w' => e = .returned (.int .i64 0) ∧ ∃ z', Two w0 w' p q p2 q2 z' z2 R ∧ Ok 1048576 (i + 1) N A dr z' ∧ z'.2.texts = z.2.texts ∧ z'.2.synced = z.2.texts.length ∧ z'.2.limit = z.2.limit := by
  obtain ⟨tv2, rb2, h1, h2, h3⟩ := hz
  obtain ⟨z', k1, k2, k3, k4, k5, k6, k7⟩ := sync_any h hi
  have hc := call_Sync h3 (h.rm (by omega))
  rw [k1] at hc
  refine hc.mono ?_
  rintro e w' ⟨rfl, hz'⟩
  exact ⟨rfl, z', ⟨tv2, rb2, h1, h2, hz'⟩, k2, k3, k4, k6⟩
theorem two_Texts (hz : Two w0 w p q p2 q2 z z2 R) (hw : wgt z.2.texts ≤ 900) :
    Calls Tryz.prog 17 #[.pointer (some ⟨q, 0, none⟩)] w fun e w' => ∃ v, e = .returned v ∧ OwnS w.heap.size w' v z.2.texts ∧ Below w.heap.size w w' := by
  obtain ⟨tv2, rb2, h1, h2, h3⟩ := hz
  exact call_Texts h3 hw
theorem two_Synced (hz : Two w0 w p q p2 q2 z z2 R) : Calls Tryz.prog 11 #[.pointer (some ⟨q, 0, none⟩)] w fun e w' => e = .returned (.int .i64 (z.2.synced : Nat)) ∧ w = w' := by
  obtain ⟨tv2, rb2, h1, h2, h3⟩ := hz
  exact call_Synced h3
end
end Go.Proofs.YtcioomlhdaihkaaGreatDoor.L
