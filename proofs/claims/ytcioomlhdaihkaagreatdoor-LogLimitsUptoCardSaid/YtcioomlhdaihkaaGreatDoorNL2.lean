/-
  The law of limits, walked.
-/
import Derived.Test.YtcioomlhdaihkaaGreatDoorNL1
namespace Go.Proofs.YtcioomlhdaihkaaGreatDoor.L
set_option linter.unusedVariables false
set_option linter.unusedSimpArgs false
set_option maxRecDepth 100000
open Go Go.RowKit Go.Maps Go.MapKept Go.ChangeMaps Go.Shelf Wire
open K (Gh Ext Dom noX Jd Steady)
attribute [-go_sem] Go.Builtin.append_

/-- A log that lies among the boxes. -/
theorem LZ.other {w0 w : World} {p q : Nat} {z : Z} {ds : List (Nat × K.St)} {R : Bxs} (h : LZ w0 w p q ds R z) {qx : Nat} {x : Lg} {tv : Value} {rb : Bxs} (hx : (qx, sobj x tv) ∈ R) (hr : ∀ y ∈ rb, y ∈ R) (hrow : RowB tv x.texts rb) (hn : Nd ((qx, sobj x tv) :: rb)) : LS w0 w ((p, z.1) :: ds) qx x [] := by
  obtain ⟨⟨tvz, rbz, _, hS, _⟩, _⟩ := h
  refine ⟨tv, rb, hrow, hS.perm (List.Perm.refl _) (fun y hy => ?_), by rw [List.append_nil]; exact hn⟩
  rw [List.append_nil] at hy
  rcases List.mem_cons.1 hy with rfl | hy
  · exact List.mem_cons_of_mem _ (List.mem_append_right _ hx)
  · exact List.mem_cons_of_mem _ (List.mem_append_right _ (hr y hy))
theorem nd_left {a : Nat × Obj} {b c : Bxs} (h : Nd (a :: (b ++ c))) : Nd (a :: b) := by
  unfold Nd at h ⊢
  exact h.sublist (((List.sublist_append_left b c).cons_cons a).map _)
theorem ls_Texts {w0 w0' w : World} {q : Nat} {x : Lg} {ds : List (Nat × K.St)} {T : List Bs} (h : LS w0 w0' ds q x []) (hb : Below w0'.heap.size w0' w) (ht : x.texts = T) (hw : wgt T ≤ 900) :
    Calls Tryz.prog 17 #[.pointer (some ⟨q, 0, none⟩)] w fun e w' => ∃ v, e = .returned v ∧ OwnS w.heap.size w' v T ∧ Below w.heap.size w w' := by
  have := log_Texts (h.below hb) (by rw [ht]; have := wgt_len T; omega) (fun t h => by rw [ht] at h; have := wgt_small hw t h; omega)
  rw [ht] at this
  exact this
/-- The opened logs of the law's end. -/
structure Four (w0 V : World) (T : List Bs) (q q2 q3 q4 : Nat) : Prop where
  x : ∃ ds lg, LS w0 V ds q lg [] ∧ lg.texts = T ∧ lg.synced = T.length
  y : ∃ ds lg, LS w0 V ds q2 lg [] ∧ lg.texts = T
  u : ∃ ds lg, LS w0 V ds q3 lg [] ∧ lg.texts = T
  v : ∃ ds lg, LS w0 V ds q4 lg [] ∧ lg.texts = T
  low : Below w0.heap.size w0 V
theorem Four.tx {w0 V W : World} {T : List Bs} {q q2 q3 q4 : Nat} (h : Four w0 V T q q2 q3 q4) (hb : Below V.heap.size V W) (hw : wgt T ≤ 900) {r : Nat} (hr : r = q ∨ r = q2 ∨ r = q3 ∨ r = q4) :
    Calls Tryz.prog 17 #[.pointer (some ⟨r, 0, none⟩)] W fun e w' => ∃ v, e = .returned v ∧ OwnS W.heap.size w' v T ∧ Below W.heap.size W w' := by
  rcases hr with rfl | rfl | rfl | rfl
  · obtain ⟨ds, lg, h1, h2, _⟩ := h.x; exact ls_Texts h1 hb h2 hw
  · obtain ⟨ds, lg, h1, h2⟩ := h.y; exact ls_Texts h1 hb h2 hw
  · obtain ⟨ds, lg, h1, h2⟩ := h.u; exact ls_Texts h1 hb h2 hw
  · obtain ⟨ds, lg, h1, h2⟩ := h.v; exact ls_Texts h1 hb h2 hw
theorem Four.sy {w0 V W : World} {T : List Bs} {q q2 q3 q4 : Nat} (h : Four w0 V T q q2 q3 q4) (hb : Below V.heap.size V W) :
    Calls Tryz.prog 11 #[.pointer (some ⟨q, 0, none⟩)] W fun e w' => e = .returned (.int .i64 (T.length : Nat)) ∧ W = w' := by
  obtain ⟨ds, lg, h1, h2, h3⟩ := h.x
  have := log_Synced (h1.below hb)
  rw [h3] at this
  exact this
section
variable {w0 w : World} {p q p2 q2 : Nat} {z z2 : Z} {i N i2 N2 : Nat} {A A2 : List Sg} {dr dr2 : Option Bs} {T : List Bs}
/-- Both disks' logs are opened anew. -/
theorem four_open (hz : Two w0 w p q p2 q2 z z2 []) (h : Ok 1048576 i N A dr z) (h2 : Ok 1048576 i2 N2 A2 dr2 z2) (htab : Tab w0) (hi : i ≤ 190) (hi2 : i2 ≤ 190) (hN : N < 100) (hN2 : N2 < 100) (ht : z.2.texts = T) (ht2 : z2.2.texts = T) (hsy : z.2.synced = T.length) (a b : Nat) (ha1 : 1 ≤ a) (ha2 : a ≤ 1048576) (hb1 : 1 ≤ b) (hb2 : b ≤ 1048576) :
    Calls Tryz.prog 10 #[.pointer (some ⟨p, 0, none⟩), .int .i64 (b : Nat)] w fun e w1 => ∃ q3, e = .returned (.tuple #[.pointer (some ⟨q3, 0, none⟩), .int .i64 0]) ∧
      Calls Tryz.prog 10 #[.pointer (some ⟨p2, 0, none⟩), .int .i64 (a : Nat)] w1 fun e w2 => ∃ q4, e = .returned (.tuple #[.pointer (some ⟨q4, 0, none⟩), .int .i64 0]) ∧ Four w0 w2 T q q2 q3 q4 := by
  obtain ⟨tv2, rb2, r2, d2, hlz⟩ := hz
  obtain ⟨s, x⟩ := z
  obtain ⟨s2, y⟩ := z2
  obtain ⟨tv, rb, r1, d1, hS, hN1⟩ := hlz.boxes
  have hnx := nd_left hN1
  have hny : Nd ((q2, sobj y tv2) :: rb2) := by
    have h9 : Nd ((q2, sobj y tv2) :: (rb2 ++ [])) := by
      unfold Nd at hN1 ⊢
      exact hN1.sublist (((List.sublist_append_right ((q, sobj x tv) :: rb) _)).map _)
    exact nd_left h9
  refine (call_Open hS hN1 htab h.up.core (h.rm (by omega)) hN b hb1 hb2).mono ?_
  rintro e w1 ⟨q3, rfl, hu⟩
  refine ⟨q3, rfl, ?_⟩
  obtain ⟨tv3, rb3, r3, d3, hS3, hN3⟩ := hu.boxes
  have hnu := nd_left hN3
  have hS3' := hS3.perm (l' := [(p2, s2), (p, s)]) (bs' := (q3, sobj (mOpen p b s x.texts) tv3) :: (rb3 ++ (q, sobj x tv) :: (rb ++ (q2, sobj y tv2) :: (rb2 ++ [])))) (List.Perm.swap _ _ _) (fun y hy => hy)
  refine (call_Open hS3' hN3 htab h2.up.core (h2.rm (by omega)) hN2 a ha1 ha2).mono ?_
  rintro e w2 ⟨q4, rfl, hv⟩
  have hv' : LZ w0 w2 p2 q4 [(p, s)] ((q3, sobj (mOpen p b s x.texts) tv3) :: (rb3 ++ (q, sobj x tv) :: (rb ++ (q2, sobj y tv2) :: (rb2 ++ [])))) (s2, mOpen p2 a s2 y.texts) := hv
  refine ⟨q4, rfl, ⟨_, x, hv'.other (by simp) (fun y hy => by simp [hy]) r1 hnx, ht, hsy⟩, ⟨_, y, hv'.other (by simp) (fun y hy => by simp [hy]) r2 hny, ht2⟩, ⟨_, mOpen p b s x.texts, hv'.other (by simp) (fun y hy => by simp [hy]) r3 hnu, ht⟩, ⟨_, mOpen p2 a s2 y.texts, hv'.1.drop (fun y hy => by cases hy) (List.nil_sublist _), ht2⟩, hv'.1.low⟩
/-- Both disks' logs are opened. -/
theorem two_open {W : World} (hS : K.Sys w0 W [(p2, K.new 1048576), (p, K.new 1048576)] []) (htab : Tab w0) (a b : Nat) (ha1 : 1 ≤ a) (ha2 : a ≤ 1048576) (hb1 : 1 ≤ b) (hb2 : b ≤ 1048576) :
    Calls Tryz.prog 10 #[.pointer (some ⟨p, 0, none⟩), .int .i64 (a : Nat)] W fun e w1 => ∃ q, e = .returned (.tuple #[.pointer (some ⟨q, 0, none⟩), .int .i64 0]) ∧
      Calls Tryz.prog 10 #[.pointer (some ⟨p2, 0, none⟩), .int .i64 (b : Nat)] w1 fun e w2 => ∃ q2, e = .returned (.tuple #[.pointer (some ⟨q2, 0, none⟩), .int .i64 0]) ∧ Two w0 w2 p q p2 q2 (K.new 1048576, mOpen p a (K.new 1048576) []) (K.new 1048576, mOpen p2 b (K.new 1048576) []) [] := by
  have hS' := hS.perm (l' := [(p, K.new 1048576), (p2, K.new 1048576)]) (bs' := []) (List.Perm.swap _ _ _) (fun y hy => hy)
  refine (call_Open hS' List.nodup_nil htab (new_ok' 1048576 p a).up.core ((new_ok' 1048576 p a).rm (by omega)) (by omega) a ha1 ha2).mono ?_
  rintro e w1 ⟨q, rfl, hx⟩
  refine ⟨q, rfl, ?_⟩
  obtain ⟨tv, rb, r1, d1, hS1, hN1⟩ := hx.boxes
  have hS1' := hS1.perm (l' := [(p2, K.new 1048576), (p, K.new 1048576)]) (bs' := (q, sobj (mOpen p a (K.new 1048576) []) tv) :: (rb ++ [])) (List.Perm.swap _ _ _) (fun y hy => hy)
  refine (call_Open hS1' hN1 htab (new_ok' 1048576 p2 b).up.core ((new_ok' 1048576 p2 b).rm (by omega)) (by omega) b hb1 hb2).mono ?_
  rintro e w2 ⟨q2, rfl, hy⟩
  have ht : Two w0 w2 p2 q2 p q (K.new 1048576, mOpen p2 b (K.new 1048576) []) (K.new 1048576, mOpen p a (K.new 1048576) []) [] := ⟨tv, rb, r1, rfl, hy⟩
  exact ⟨q2, rfl, ht.swap⟩
end
end Go.Proofs.YtcioomlhdaihkaaGreatDoor.L
