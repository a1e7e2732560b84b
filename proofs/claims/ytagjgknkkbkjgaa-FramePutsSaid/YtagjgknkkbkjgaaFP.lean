/-
  frame.Get.
-/
import Derived.Test.YtagjgknkkbkjgaaJN
namespace Go.Proofs.Ytagjgknkkbkjgaa.V
set_option linter.unusedVariables false
set_option linter.unusedSimpArgs false
set_option maxRecDepth 100000
open Go Go.RowKit Go.Maps Wire

/-- frame.Get under way: the reader in block g, the frame in block g7, the result in block B. -/
structure GFx (B : Nat) (w0 w : World) (g g7 : Nat) (st : St) (cs : Array Value) : Prop where
  at_ : RAt w (some g) st
  small : Small st
  fr : w.heap[g7]? = some (.cells cs 27 (0, 0))
  res : w.heap[B]? = some (.cells (fc zeroF) 27 (0, 0))
  below : Below B w0 w
  hB : B < g
  hg : g < g7
theorem GFx.lt {B : Nat} {w0 w : World} {g g7 : Nat} {st : St} {cs : Array Value} (h : GFx B w0 w g g7 st cs) : g7 < w.heap.size := lt_of_heap h.fr
theorem GFx.turn {B : Nat} {w0 w w' : World} {g g7 : Nat} {st st' : St} {cs : Array Value} (h : GFx B w0 w g g7 st cs) (hr : RAt w' (some g) st') (hs : Small st') (hk : KX w.heap.size (fun b => b = g) w w') : GFx B w0 w' g g7 st' cs :=
  ⟨hr, hs, (hk.block g7 h.lt (fun e => by have := h.hg; omega)).trans h.fr, (hk.block B (by have := h.lt; have := h.hg; have := h.hB; omega) (fun e => by have := h.hB; omega)).trans h.res,
    h.below.trans ⟨hk.os, hk.tape, hk.output, hk.size, fun b hb => hk.block b (by have := h.lt; have := h.hg; have := h.hB; omega) (fun e => by have := h.hB; omega)⟩, h.hB, h.hg⟩
theorem GFx.over {B : Nat} {w0 w w' : World} {g g7 : Nat} {st : St} {cs : Array Value} (h : GFx B w0 w g g7 st cs) (hb : Below w.heap.size w w') : GFx B w0 w' g g7 st cs :=
  h.turn (RAt.keep (p := some g) h.at_ hb) h.small (KX.of_below hb (Nat.le_refl _))
theorem endOf_nil {st : St} (h : endOf st = 0) : st = some [] := by
  unfold endOf at h
  split at h
  · assumption
  · cases h
theorem small_opsGo : ∀ (n : Nat) (st : St), Small st → Small (opsGo n st).2.1
  | 0, st, h => h
  | k + 1, st, h => by
    unfold opsGo
    split
    · exact small_opsGo k _ (small_takeText h _)
    · exact small_takeText h _
theorem GFx.call {B : Nat} {w0 w w' : World} {g g7 : Nat} {st st' : St} {cs : Array Value} (h : GFx B w0 w g g7 st cs) (hr : RAt w' (some g) st') (hs : Small st') (hk : Keeps w.heap.size (some g) w w') : GFx B w0 w' g g7 st' cs := h.turn hr hs (kx_of_keeps hk)
theorem GFx.store {B : Nat} {w0 w : World} {g g7 : Nat} {st : St} {cs : Array Value} (h : GFx B w0 w g g7 st cs) (k : Nat) (v : Value) (cs' : Array Value) (e : cs.setIfInBounds k v = cs') : GFx B w0 (w.setCell ⟨g7, k, none⟩ v) g g7 st cs' :=
  ⟨by have := h.at_; have hg := h.hg; unfold RAt at this ⊢; exact heap_n this (by omega), h.small, e ▸ heap_s h.fr, heap_n h.res (by have := h.hg; have := h.hB; omega), h.below.setCell (by have := h.hg; have := h.hB; show B ≤ g7; omega) _, h.hB, h.hg⟩
theorem GFx.cell {B : Nat} {w0 w : World} {g g7 : Nat} {st : St} {cs : Array Value} (h : GFx B w0 w g g7 st cs) (k : Nat) : w.cell? ⟨g7, k, none⟩ = cs[k]? := cell_of_heap h.fr
theorem GFx.free {B : Nat} {w0 w : World} {g g7 : Nat} {st : St} {cs : Array Value} (h : GFx B w0 w g g7 st cs) (k : Nat) : w.frozen? ⟨g7, k, none⟩ = false := freeV h.fr k
theorem GFx.num {B : Nat} {w0 w : World} {g g7 : Nat} {st st' : St} {cs : Array Value} {m n : Nat} (h : GFx B w0 w g g7 st cs) (e : takeNum st m = (n, st')) :
    Calls Try.prog 35 #[.pointer (some ⟨g, 0, none⟩), .int .u64 m] w fun e w' => e = .returned (.int .u64 (n : Int)) ∧ GFx B w0 w' g g7 st' cs :=
  (wire_Num (some g) st m h.small w h.at_).mono fun _ _ ⟨h1, h2, h3⟩ => ⟨by rw [h1, e], h.call (by rw [e] at h2; exact h2) (by have := small_takeNum h.small m; rw [e] at this; exact this) h3⟩
theorem GFx.vec {B : Nat} {w0 w : World} {g g7 : Nat} {st st' : St} {cs : Array Value} {x0 x1 x2 x3 x4 x5 x6 x7 : Nat} (h : GFx B w0 w g g7 st cs) (e : takeVec st = ([x0, x1, x2, x3, x4, x5, x6, x7], st')) :
    Calls Try.prog 36 #[.pointer (some ⟨g, 0, none⟩)] w fun e w' => e = .returned (.agg #[.int .u32 (x0 : Int), .int .u32 (x1 : Int), .int .u32 (x2 : Int), .int .u32 (x3 : Int), .int .u32 (x4 : Int), .int .u32 (x5 : Int), .int .u32 (x6 : Int), .int .u32 (x7 : Int)]) ∧ GFx B w0 w' g g7 st' cs :=
  (wire_Vector (some g) st h.small w h.at_).mono fun _ _ ⟨h1, h2, h3⟩ => ⟨by rw [h1, e]; rfl, h.call (by rw [e] at h2; exact h2) (by have := small_takeVec h.small; rw [e] at this; exact this) h3⟩

set_option maxHeartbeats 1000000 in
theorem frame_Get (b : ByteArray) (hb : b.size ≤ 1000000) (w : World) :
    Calls Try.prog 12 #[.string b] w
      fun e w' => ∃ f l e', e = .returned (.tuple #[.agg (fc f), .int .i64 e']) ∧ GetR b.data.toList f l e' ∧ OpsV w' f.ops l ∧ Below w.heap.size w w' := by
  have hop := fun W => S.sum_Open b hb W
  have hbody := body_ba b
  have hsb : (S.bodyB b).size ≤ 1000000 := by
    have h1 : (S.bodyB b).size = (S.bodyB b).data.toList.length := by simp
    rw [h1, hbody]
    have h2 : b.data.toList.length = b.size := by simp
    unfold Crc.body
    split
    · rw [List.length_take]; omega
    · simp
  have hwo := fun W => wire_Open (S.bodyB b) hsb W
  rw [hbody] at hwo
  have hsm : Small (some (Crc.body b.data.toList)) := by rw [← hbody]; unfold Small; simpa using hsb
  obtain ⟨s0, hs0⟩ : ∃ s : St, some (Crc.body b.data.toList) = s := ⟨_, rfl⟩
  rw [hs0] at hwo hsm
  obtain ⟨na, s1, h0⟩ : ∃ n s, takeNum s0 1 = (n, s) := ⟨_, _, rfl⟩
  obtain ⟨nb, s2, h1⟩ : ∃ n s, takeNum s1 7 = (n, s) := ⟨_, _, rfl⟩
  obtain ⟨nc, s3, h2⟩ : ∃ n s, takeNum s2 7 = (n, s) := ⟨_, _, rfl⟩
  obtain ⟨x0, x1, x2, x3, x4, x5, x6, x7, hv8⟩ := list8 (takeVec s3).1 (takeVec_len s3)
  obtain ⟨s4, h3⟩ : ∃ s, takeVec s3 = ([x0, x1, x2, x3, x4, x5, x6, x7], s) := ⟨_, Prod.ext hv8 rfl⟩
  obtain ⟨ls, s5, n2, h4⟩ : ∃ ls s n, opsGo (takeNum s4 64).1 (takeNum s4 64).2 = (ls, (s, n)) := ⟨_, _, _, rfl⟩
  have hT : takeF s0 = ((na, nb, nc, [x0, x1, x2, x3, x4, x5, x6, x7]), (ls, (s5, n2))) := by
    unfold takeF
    rw [h0]; dsimp only
    rw [h1]; dsimp only
    rw [h2]; dsimp only
    rw [h3]; dsimp only
    rw [h4]
  have la := takeNum_le s0 1
  have lb := takeNum_le s1 7
  have lc := takeNum_le s2 7
  rw [h0] at la
  rw [h1] at lb
  rw [h2] at lc
  dsimp only at la lb lc
  have ua : IntKind.u8.wrap (na : Int) = (na : Int) := by rw [wrap_u8]; omega
  have ub : IntKind.u8.wrap (nb : Int) = (nb : Int) := by rw [wrap_u8]; omega
  have uc : IntKind.u8.wrap (nc : Int) = (nc : Int) := by rw [wrap_u8]; omega
  have HT := hid (show takeF (some (Crc.body b.data.toList)) = ((na, nb, nc, [x0, x1, x2, x3, x4, x5, x6, x7]), (ls, (s5, n2))) by rw [hs0]; exact hT)
  have HSM := hid hsm
  obtain ⟨se, hse⟩ : ∃ se, Crc.isSealed b.data.toList = se := ⟨_, rfl⟩
  have HSE := hid hse
  rw [hse] at hop
  have HZ := hid (heap_alloc_last' w (.cells (fc zeroF) 27))
  generalize S.bodyB b = cb at hop hwo hsb hbody
  clear hT hs0 hv8 hsm hb hbody hsb la lb lc hse
  go_enter Try.func12, Try.ntmps12
  go_upto_region 3 with (first
    | (go_at_call 33; (refine (hop _).mono ?_); rintro e w1 ⟨rfl, hB1⟩; have HB1 := hid hB1; clear hB1 hop)
    | (go_at_call 34; (refine (hwo _).mono ?_); rintro e w2 ⟨g, rfl, hg, hr, hB2⟩; have HO := hid (And.intro hg (And.intro hr hB2)); clear hg hr hB2 hwo))
  go_upto_region 4 with (fail)
  have HG0 := hid (show GFx w.heap.size w (w2.alloc (.cells #[.int .u8 0, .int .u8 0, .int .u8 0, .int .u32 0, .int .u32 0, .int .u32 0, .int .u32 0, .int .u32 0, .int .u32 0, .int .u32 0, .int .u32 0, .slice none 0 0] 27)) g w2.heap.size s0 #[.int .u8 0, .int .u8 0, .int .u8 0, .int .u32 0, .int .u32 0, .int .u32 0, .int .u32 0, .int .u32 0, .int .u32 0, .int .u32 0, .int .u32 0, .slice none 0 0] from by
    have hg := HO.out.1
    have hr := HO.out.2.1
    have hB2 := HO.out.2.2
    have hB1 := HB1.out
    have hs1 := hB1.size
    rw [World.size_alloc] at hs1
    have hz := heap_keep (heap_keep HZ.out hB1) hB2
    exact ⟨hr.keep (below_al _ _), HSM.out, heap_alloc_last' _ _, heap_al hz _, ((below_al w _).trans (hB1.mono (by simp))).trans ((hB2.mono (by omega)).trans ((below_al w2 _).mono (by have := hB2.size; omega))), by omega, lt_of_some hr⟩)
  generalize w2.alloc (.cells #[.int .u8 0, .int .u8 0, .int .u8 0, .int .u32 0, .int .u32 0, .int .u32 0, .int .u32 0, .int .u32 0, .int .u32 0, .int .u32 0, .int .u32 0, .slice none 0 0] 27) = wz at HG0 ⊢
  generalize w2.heap.size = g7 at HG0 ⊢
  clear HO HB1 HZ
  go_upto_region 5 with (first | (go_at_call 35; (refine (HG0.out.num (m := 1) h0).mono ?_); rintro e w3 ⟨rfl, hp⟩; have HP1 := hid hp; clear hp; have c0 := (HP1.out.cell 0).trans (show _ = some (.int .u8 0) from rfl); have zf := fun k => HP1.out.free k))
  have HG1 := hid (show GFx w.heap.size w (w3.setCell ⟨g7, 0, none⟩ (.int .u8 (na : Int))) g g7 s1 #[.int .u8 (na : Int), .int .u8 0, .int .u8 0, .int .u32 0, .int .u32 0, .int .u32 0, .int .u32 0, .int .u32 0, .int .u32 0, .int .u32 0, .int .u32 0, .slice none 0 0] from (HP1.out.store 0 (.int .u8 (na : Int)) #[.int .u8 (na : Int), .int .u8 0, .int .u8 0, .int .u32 0, .int .u32 0, .int .u32 0, .int .u32 0, .int .u32 0, .int .u32 0, .int .u32 0, .int .u32 0, .slice none 0 0] rfl))
  clear HP1 HG0 h0 c0 zf
  go_upto_region 6 with (first | (go_at_call 35; (refine (HG1.out.num (m := 7) h1).mono ?_); rintro e w4 ⟨rfl, hp⟩; have HP2 := hid hp; clear hp; have c1 := (HP2.out.cell 1).trans (show _ = some (.int .u8 0) from rfl); have zf := fun k => HP2.out.free k))
  have HG2 := hid (show GFx w.heap.size w (w4.setCell ⟨g7, 1, none⟩ (.int .u8 (nb : Int))) g g7 s2 #[.int .u8 (na : Int), .int .u8 (nb : Int), .int .u8 0, .int .u32 0, .int .u32 0, .int .u32 0, .int .u32 0, .int .u32 0, .int .u32 0, .int .u32 0, .int .u32 0, .slice none 0 0] from (HP2.out.store 1 (.int .u8 (nb : Int)) #[.int .u8 (na : Int), .int .u8 (nb : Int), .int .u8 0, .int .u32 0, .int .u32 0, .int .u32 0, .int .u32 0, .int .u32 0, .int .u32 0, .int .u32 0, .int .u32 0, .slice none 0 0] rfl))
  clear HP2 HG1 h1 c1 zf
  go_upto_region 7 with (first | (go_at_call 35; (refine (HG2.out.num (m := 7) h2).mono ?_); rintro e w5 ⟨rfl, hp⟩; have HP3 := hid hp; clear hp; have c2 := (HP3.out.cell 2).trans (show _ = some (.int .u8 0) from rfl); have zf := fun k => HP3.out.free k))
  have HG3 := hid (show GFx w.heap.size w (w5.setCell ⟨g7, 2, none⟩ (.int .u8 (nc : Int))) g g7 s3 #[.int .u8 (na : Int), .int .u8 (nb : Int), .int .u8 (nc : Int), .int .u32 0, .int .u32 0, .int .u32 0, .int .u32 0, .int .u32 0, .int .u32 0, .int .u32 0, .int .u32 0, .slice none 0 0] from (HP3.out.store 2 (.int .u8 (nc : Int)) #[.int .u8 (na : Int), .int .u8 (nb : Int), .int .u8 (nc : Int), .int .u32 0, .int .u32 0, .int .u32 0, .int .u32 0, .int .u32 0, .int .u32 0, .int .u32 0, .int .u32 0, .slice none 0 0] rfl))
  clear HP3 HG2 h2 c2 zf
  go_upto_region 8 with (first | (go_at_call 36; (refine (HG3.out.vec h3).mono ?_); rintro e w6 ⟨rfl, hp⟩; have HP4 := hid hp; clear hp; have c3 := (HP4.out.cell 3).trans (show _ = some (.int .u32 0) from rfl); have c4 := (HP4.out.cell 4).trans (show _ = some (.int .u32 0) from rfl); have c5 := (HP4.out.cell 5).trans (show _ = some (.int .u32 0) from rfl); have c6 := (HP4.out.cell 6).trans (show _ = some (.int .u32 0) from rfl); have c7 := (HP4.out.cell 7).trans (show _ = some (.int .u32 0) from rfl); have c8 := (HP4.out.cell 8).trans (show _ = some (.int .u32 0) from rfl); have c9 := (HP4.out.cell 9).trans (show _ = some (.int .u32 0) from rfl); have c10 := (HP4.out.cell 10).trans (show _ = some (.int .u32 0) from rfl); have zf := fun k => HP4.out.free k))
  have HG4 := hid (show GFx w.heap.size w ((((((((w6.setCell ⟨g7, 3, none⟩ (.int .u32 (x0 : Int))).setCell ⟨g7, 4, none⟩ (.int .u32 (x1 : Int))).setCell ⟨g7, 5, none⟩ (.int .u32 (x2 : Int))).setCell ⟨g7, 6, none⟩ (.int .u32 (x3 : Int))).setCell ⟨g7, 7, none⟩ (.int .u32 (x4 : Int))).setCell ⟨g7, 8, none⟩ (.int .u32 (x5 : Int))).setCell ⟨g7, 9, none⟩ (.int .u32 (x6 : Int))).setCell ⟨g7, 10, none⟩ (.int .u32 (x7 : Int))) g g7 s4 #[.int .u8 (na : Int), .int .u8 (nb : Int), .int .u8 (nc : Int), .int .u32 (x0 : Int), .int .u32 (x1 : Int), .int .u32 (x2 : Int), .int .u32 (x3 : Int), .int .u32 (x4 : Int), .int .u32 (x5 : Int), .int .u32 (x6 : Int), .int .u32 (x7 : Int), .slice none 0 0] from ((((((((HP4.out.store 3 (.int .u32 (x0 : Int)) #[.int .u8 (na : Int), .int .u8 (nb : Int), .int .u8 (nc : Int), .int .u32 (x0 : Int), .int .u32 0, .int .u32 0, .int .u32 0, .int .u32 0, .int .u32 0, .int .u32 0, .int .u32 0, .slice none 0 0] rfl).store 4 (.int .u32 (x1 : Int)) #[.int .u8 (na : Int), .int .u8 (nb : Int), .int .u8 (nc : Int), .int .u32 (x0 : Int), .int .u32 (x1 : Int), .int .u32 0, .int .u32 0, .int .u32 0, .int .u32 0, .int .u32 0, .int .u32 0, .slice none 0 0] rfl).store 5 (.int .u32 (x2 : Int)) #[.int .u8 (na : Int), .int .u8 (nb : Int), .int .u8 (nc : Int), .int .u32 (x0 : Int), .int .u32 (x1 : Int), .int .u32 (x2 : Int), .int .u32 0, .int .u32 0, .int .u32 0, .int .u32 0, .int .u32 0, .slice none 0 0] rfl).store 6 (.int .u32 (x3 : Int)) #[.int .u8 (na : Int), .int .u8 (nb : Int), .int .u8 (nc : Int), .int .u32 (x0 : Int), .int .u32 (x1 : Int), .int .u32 (x2 : Int), .int .u32 (x3 : Int), .int .u32 0, .int .u32 0, .int .u32 0, .int .u32 0, .slice none 0 0] rfl).store 7 (.int .u32 (x4 : Int)) #[.int .u8 (na : Int), .int .u8 (nb : Int), .int .u8 (nc : Int), .int .u32 (x0 : Int), .int .u32 (x1 : Int), .int .u32 (x2 : Int), .int .u32 (x3 : Int), .int .u32 (x4 : Int), .int .u32 0, .int .u32 0, .int .u32 0, .slice none 0 0] rfl).store 8 (.int .u32 (x5 : Int)) #[.int .u8 (na : Int), .int .u8 (nb : Int), .int .u8 (nc : Int), .int .u32 (x0 : Int), .int .u32 (x1 : Int), .int .u32 (x2 : Int), .int .u32 (x3 : Int), .int .u32 (x4 : Int), .int .u32 (x5 : Int), .int .u32 0, .int .u32 0, .slice none 0 0] rfl).store 9 (.int .u32 (x6 : Int)) #[.int .u8 (na : Int), .int .u8 (nb : Int), .int .u8 (nc : Int), .int .u32 (x0 : Int), .int .u32 (x1 : Int), .int .u32 (x2 : Int), .int .u32 (x3 : Int), .int .u32 (x4 : Int), .int .u32 (x5 : Int), .int .u32 (x6 : Int), .int .u32 0, .slice none 0 0] rfl).store 10 (.int .u32 (x7 : Int)) #[.int .u8 (na : Int), .int .u8 (nb : Int), .int .u8 (nc : Int), .int .u32 (x0 : Int), .int .u32 (x1 : Int), .int .u32 (x2 : Int), .int .u32 (x3 : Int), .int .u32 (x4 : Int), .int .u32 (x5 : Int), .int .u32 (x6 : Int), .int .u32 (x7 : Int), .slice none 0 0] rfl))
  clear HP4 HG3 h3 c3 c4 c5 c6 c7 c8 c9 c10 zf
  have hgo := fun W h => frame_getOps g s4 HG4.out.small W h
  rw [h4] at hgo
  dsimp only at hgo
  go_upto_region 9 with (first | (go_at_call 37; (refine (hgo _ HG4.out.at_).mono ?_); rintro e w7 ⟨v, l, rfl, hk, hr, ⟨Bo, hv⟩, hc⟩; have HP := hid (HG4.out.turn hr (by have := small_opsGo (takeNum s4 64).1 _ (small_takeNum HG4.out.small 64); rw [h4] at this; exact this) (by simpa using hk)); have HV0 := hid hv; have HC := hid hc; clear hk hr hv hc HG4 h4; have c11 := (HP.out.cell 11).trans (show _ = some (.slice none 0 0) from rfl); have zf := fun k => HP.out.free k; obtain ⟨pv, cv, hform⟩ := HV0.out.form; subst hform))
  go_upto_region 10 with (fail)
  have HG5 := hid (show GFx w.heap.size w (w7.setCell ⟨g7, 11, none⟩ (.slice pv l.length cv)) g g7 s5 (fc (mkF (na, nb, nc, [x0, x1, x2, x3, x4, x5, x6, x7]) (.slice pv l.length cv))) from HP.out.store 11 (.slice pv l.length cv) (fc (mkF (na, nb, nc, [x0, x1, x2, x3, x4, x5, x6, x7]) (.slice pv l.length cv))) rfl)
  have hv1 : OwnOps Bo (w7.setCell ⟨g7, 11, none⟩ (.slice pv l.length cv)) (.slice pv l.length cv) l := HV0.out.same (fun b cs t ht hc => heap_n hc (fun e => by have h1 := HP.out.fr; rw [e, hc] at h1; cases h1; rcases ht with h | h <;> exact absurd h (by decide)))
  have HV := hid (show OpsV (w7.setCell ⟨g7, 11, none⟩ (.slice pv l.length cv)) (mkF (na, nb, nc, [x0, x1, x2, x3, x4, x5, x6, x7]) (.slice pv l.length cv)).ops l from hv1.opsV)
  have HOW := hid hv1
  clear HP HV0 hv1 c11 zf
  generalize w7.setCell ⟨g7, 11, none⟩ (.slice pv l.length cv) = W at HG5 HV HOW ⊢
  obtain ⟨f, hf0⟩ : ∃ f, mkF (na, nb, nc, [x0, x1, x2, x3, x4, x5, x6, x7]) (.slice pv l.length cv) = f := ⟨_, rfl⟩
  rw [hf0] at HG5 HV
  have HFV := hid hf0
  clear hf0
  have HF := hid (show FrAt W g7 f from HG5.out.fr)
  have HAT := hid HG5.out.at_
  refine wp_flow (fun _ => none) (Fa.eq (.bool (se)) :: Fa.eq (.bool (((n2 : Nat) : Int) == 0)) :: Fa.eq (.pointer (some ⟨g, 0, none⟩)) :: Fa.eq (.int .i64 (endOf s5)) :: Fa.eq (.bool (endOf s5 == 0)) :: Fa.eq (.agg (fc f)) :: Fa.eq (.bool (mayF f l)) :: Fa.row 4 4 (bcells [se, ((n2 : Nat) : Int) == 0, endOf s5 == 0, mayF f l]) :: Fa.eq (.bool (([se, ((n2 : Nat) : Int) == 0, endOf s5 == 0, mayF f l] : List Bool).all id)) :: Fa.eq (.bool (!(([se, ((n2 : Nat) : Int) == 0, endOf s5 == 0, mayF f l] : List Bool).all id))) :: []) 51 (by kernel_rfl) rfl (by kernel_rfl) rfl (by kernel_rfl) ?_ ?_ ?_
  · exact fits_plain _ _ rfl
  · refine ⟨?_, ?_, ?_, ?_, ?_, ?_, ?_, ?_, ?_, ?_, trivial⟩
    · exact v_move (.inl rfl) rfl (by kernel_rfl) True.intro (Ev.out (by kernel_rfl) rfl)
    · exact v_move (.inl rfl) rfl (by kernel_rfl) True.intro (Ev.out (by kernel_rfl) rfl)
    · exact v_move (.inl rfl) rfl (by kernel_rfl) True.intro (Ev.out (by kernel_rfl) rfl)
    · exact v_call (vs := #[.pointer (some ⟨g, 0, none⟩)]) (c := .int .i64 (endOf s5)) rfl (fun args w => rfl) (fun w hB => (wire_End (some g) s5 w (RAt.keep (p := some g) (w := W.drew) HAT.out hB)).mono (fun e w' h => ⟨h.1, h.2 ▸ Below.refl _ _⟩)) rfl (by kernel_rfl) True.intro (ev1 (Ev.at (i := 2) (by kernel_rfl) (by kernel_rfl) rfl))
    · exact v_bin (u := .int .i64 (endOf s5)) (v := .int .i64 (0)) (c := .bool (endOf s5 == 0)) rfl (fun w => (by go_simp)) rfl (by kernel_rfl) True.intro (Ev.at (i := 3) (by kernel_rfl) (by kernel_rfl) rfl) Ev.const
    · exact v_load (u := .pointer (some ⟨g7, 0, none⟩)) (c := .agg (fc f)) rfl (fun w hB => ld_fr (HF.out.dr.keep hB)) rfl (by kernel_rfl) True.intro (Ev.out (by kernel_rfl) rfl)
    · exact v_call (vs := #[.agg (fc f)]) (c := .bool (mayF f l)) rfl (fun args w => rfl) (fun w hB => frame_May f l w (HV.out.dr.keep hB)) rfl (by kernel_rfl) True.intro (ev1 (Ev.at (i := 5) (by kernel_rfl) (by kernel_rfl) rfl))
    · exact v_bools (l := [se, ((n2 : Nat) : Int) == 0, endOf s5 == 0, mayF f l]) rfl (by kernel_rfl) rfl (by kernel_rfl) True.intro (Nat.le_of_ble_eq_true rfl) (Nat.le_of_ble_eq_true rfl) ⟨(Ev.at (i := 0) (by kernel_rfl) (by kernel_rfl) rfl), (Ev.at (i := 1) (by kernel_rfl) (by kernel_rfl) rfl), (Ev.at (i := 4) (by kernel_rfl) (by kernel_rfl) rfl), (Ev.at (i := 6) (by kernel_rfl) (by kernel_rfl) rfl), trivial⟩
    · exact v_all (i := 7) (l := [se, ((n2 : Nat) : Int) == 0, endOf s5 == 0, mayF f l]) rfl rfl (Nat.le_of_ble_eq_true rfl) rfl (by kernel_rfl) True.intro (by kernel_rfl) (by kernel_rfl) rfl
    · exact v_not rfl rfl (by kernel_rfl) True.intro (Ev.at (i := 8) (by kernel_rfl) (by kernel_rfl) rfl)
  intro o vs W2 hB hf
  have e0 : vs 0 = .bool (se) := hf 0 (by decide)
  have e1 : vs 1 = .bool (((n2 : Nat) : Int) == 0) := hf 1 (by decide)
  have e2 : vs 2 = .pointer (some ⟨g, 0, none⟩) := hf 2 (by decide)
  have e3 : vs 3 = .int .i64 (endOf s5) := hf 3 (by decide)
  have e4 : vs 4 = .bool (endOf s5 == 0) := hf 4 (by decide)
  have e5 : vs 5 = .agg (fc f) := hf 5 (by decide)
  have e6 : vs 6 = .bool (mayF f l) := hf 6 (by decide)
  have e8 : vs 8 = .bool (([se, ((n2 : Nat) : Int) == 0, endOf s5 == 0, mayF f l] : List Bool).all id) := hf 8 (by decide)
  have e9 : vs 9 = .bool (!(([se, ((n2 : Nat) : Int) == 0, endOf s5 == 0, mayF f l] : List Bool).all id)) := hf 9 (by decide)
  obtain ⟨z, hz⟩ : ∃ z, (!(([se, ((n2 : Nat) : Int) == 0, endOf s5 == 0, mayF f l] : List Bool).all id)) = z := ⟨_, rfl⟩
  rw [hz] at e9
  simp only [fill, List.setIfInBounds_toArray, List.set_cons_zero, List.set_cons_succ, e0, e1, e2, e3, e4, e5, e6, e8, e9]
  have HG6 := hid (HG5.out.over (below_next (Below.refl _ _) hB))
  have HOW2 := hid (HOW.out.keep (below_next (Below.refl _ _) hB))
  clear HG5 HV HOW HF HAT hB hf e0 e1 e2 e3 e4 e5 e6 e8 e9
  cases z with
  | true =>
    go_wp2_with (first
      | (refine wpList_store_row rfl _ _ _ rfl w.heap.size (fc zeroF) rfl rfl 27 (fc zeroF) ?_ (frSize _) rfl (oneF zeroF rfl) ?_; (focus exact HG6.out.res)))
    ((try simp only [Exit.inBlock, Exit.then]); refine bodyPost_ret (results_row_tmp rfl _ _ w.heap.size 27 (fc zeroF) (0, 0) _ _ rfl rfl (setRow_heap _ _ _ _ _ _ HG6.out.res) Try.underlying27 rfl (frSize _)) rfl ?_)
    refine ⟨zeroF, [], 5, rfl, getR_bad (v := .slice pv l.length cv) HT.out HC.out ?_, OpsV.nil _, below_row HG6.out.below (Nat.le_refl _) _⟩
    rw [HFV.out, HSE.out]
    rintro ⟨h1, h2, h3, h4⟩
    subst h1 h2
    rw [h3, h4] at hz
    exact absurd hz (by decide)
  | false =>
    go_wp2_with (first
      | (refine load_fr _ rfl (by kernel_rfl) g7 rfl f HG6.out.fr ?_)
      | (refine wpList_store_row rfl _ _ _ rfl w.heap.size (fc f) rfl rfl 27 (fc zeroF) ?_ (frSize _) rfl (oneF f (HFV.out ▸ rfl)) ?_; (focus exact HG6.out.res)))
    ((try simp only [Exit.inBlock, Exit.then]); refine bodyPost_ret (results_row_tmp rfl _ _ w.heap.size 27 (fc f) (0, 0) _ _ rfl rfl (setRow_heap _ _ _ _ _ _ HG6.out.res) Try.underlying27 rfl (frSize _)) rfl ?_)
    simp only [List.all_cons, List.all_nil, id, Bool.and_true, Bool.not_eq_false', Bool.and_eq_true, beq_iff_eq] at hz
    obtain ⟨h1, h2, h3, h4⟩ := hz
    have h2' : n2 = 0 := by omega
    subst h2'
    refine ⟨f, l, 0, rfl, ?_, ?_, below_row HG6.out.below (Nat.le_refl _) _⟩
    · have ht := HT.out
      rw [endOf_nil h3] at ht
      have := getR_ok (v := .slice pv l.length cv) (HSE.out.trans h1) ht HC.out (by rw [HFV.out]; exact h4)
      rw [HFV.out] at this
      exact this
    · have e : f.ops = .slice pv l.length cv := by rw [← HFV.out]; rfl
      rw [e]
      exact (HOW2.out.same (fun b cs t ht hc => row_ne hc (fun e => by have h1 := HG6.out.res; rw [e, hc] at h1; cases h1; rcases ht with h | h <;> exact absurd h (by decide)))).opsV
end Go.Proofs.Ytagjgknkkbkjgaa.V
