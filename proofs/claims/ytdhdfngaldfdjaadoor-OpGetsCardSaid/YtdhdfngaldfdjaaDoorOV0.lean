/-
  Readers of numbers of a field's type; the state of op.Get.
-/
import Derived.Test.YtdhdfngaldfdjaaDoorOQ
import Derived.Test.YtdhdfngaldfdjaaDoorWireX
namespace Go.Proofs.YtdhdfngaldfdjaaDoor.V
set_option linter.unusedVariables false
set_option linter.unusedSimpArgs false
set_option maxRecDepth 100000
open Go Go.RowKit Go.Maps Wire

def m64 : Nat := 18446744073709551615
theorem op_num64 (p : Option Nat) (st : St) (hs : Small st) (W : World) (h : RAt W p st) :
    Calls Tryd.prog 41 #[rptr p] W fun e w' => e = .returned (.int .u64 ((takeNum st m64).1 : Nat)) ∧ RAt w' p (takeNum st m64).2 ∧ Keeps W.heap.size p W w' := by
  have hw : IntKind.u64.wrap (0 : Int) = 0 := by decide
  go_enter Tryd.func41, Tryd.ntmps41
  go_wp2_with (go_at_call 44; (refine (wire_Num p st m64 hs _ h).mono ?_); rintro e w' ⟨rfl, hr, hk⟩)
  go_ret
  exact ⟨rfl, hr, hk⟩
theorem op_num32 (p : Option Nat) (st : St) (hs : Small st) (W : World) (h : RAt W p st) :
    Calls Tryd.prog 42 #[rptr p] W fun e w' => e = .returned (.int .u32 ((takeNum st m32).1 : Nat)) ∧ RAt w' p (takeNum st m32).2 ∧ Keeps W.heap.size p W w' := by
  have hl := takeNum_le st m32
  have k := wire_Num p st m32 hs W h
  generalize takeNum st m32 = t at hl k ⊢
  obtain ⟨n, st'⟩ := t
  dsimp only at hl k ⊢
  have hw : IntKind.u32.wrap (n : Int) = n := by rw [wrap_u32]; unfold m32 at hl; omega
  clear hl
  go_enter Tryd.func42, Tryd.ntmps42
  go_wp2_with (go_at_call 44; (refine k.mono ?_); rintro e w' ⟨rfl, hr, hk⟩)
  go_ret
  exact ⟨rfl, hr, hk⟩
theorem op_num8 (p : Option Nat) (st : St) (hs : Small st) (W : World) (h : RAt W p st) :
    Calls Tryd.prog 43 #[rptr p] W fun e w' => e = .returned (.int .u8 ((takeNum st m8).1 : Nat)) ∧ RAt w' p (takeNum st m8).2 ∧ Keeps W.heap.size p W w' := by
  have hl := takeNum_le st m8
  have k := wire_Num p st m8 hs W h
  generalize takeNum st m8 = t at hl k ⊢
  obtain ⟨n, st'⟩ := t
  dsimp only at hl k ⊢
  have hw : IntKind.u8.wrap (n : Int) = n := by rw [wrap_u8]; unfold m8 at hl; omega
  clear hl
  go_enter Tryd.func43, Tryd.ntmps43
  go_wp2_with (go_at_call 44; (refine k.mono ?_); rintro e w' ⟨rfl, hr, hk⟩)
  go_ret
  exact ⟨rfl, hr, hk⟩

/-- op.Get under way: the reader in block g, the operation in block g5, the result in block B. -/
structure GS (B : Nat) (w0 w : World) (g g5 : Nat) (st : St) (cs : Array Value) : Prop where
  at_ : RAt w (some g) st
  small : Small st
  op : w.heap[g5]? = some (.cells cs 30 (0, 0))
  res : w.heap[B]? = some (.cells (oc zeroO) 30 (0, 0))
  below : Below B w0 w
  hB : B < g
  hg : g < g5
theorem GS.lt {B : Nat} {w0 w : World} {g g5 : Nat} {st : St} {cs : Array Value} (h : GS B w0 w g g5 st cs) : g5 < w.heap.size := lt_of_heap h.op
theorem GS.call {B : Nat} {w0 w w' : World} {g g5 : Nat} {st st' : St} {cs : Array Value} (h : GS B w0 w g g5 st cs) (hr : RAt w' (some g) st') (hs : Small st') (hk : Keeps w.heap.size (some g) w w') : GS B w0 w' g g5 st' cs :=
  ⟨hr, hs, (hk.block g5 h.lt (fun e => by have := h.hg; cases e; omega)).trans h.op, (hk.block B (by have := h.lt; have := h.hg; have := h.hB; omega) (fun e => by have := h.hB; cases e; omega)).trans h.res,
    h.below.trans ((hk.mono (by have := h.lt; have := h.hg; have := h.hB; omega)).below (fun k e => by have := h.hB; cases e; omega)), h.hB, h.hg⟩
theorem GS.store {B : Nat} {w0 w : World} {g g5 : Nat} {st : St} {cs : Array Value} (h : GS B w0 w g g5 st cs) (k : Nat) (v : Value) : GS B w0 (w.setCell ⟨g5, k, none⟩ v) g g5 st (cs.setIfInBounds k v) :=
  ⟨by have := h.at_; have hg := h.hg; unfold RAt at this ⊢; exact heap_n this (by omega), h.small, heap_s h.op, heap_n h.res (by have := h.hg; have := h.hB; omega), h.below.setCell (by have := h.hg; have := h.hB; show B ≤ g5; omega) _, h.hB, h.hg⟩
theorem GS.base {B : Nat} {w0 w w' : World} {g g5 : Nat} {st : St} {cs : Array Value} (h : GS B w0 w g g5 st cs) (hb : Below (g5 + 1) w w') : GS B w0 w' g g5 st cs :=
  ⟨by have := h.at_; have hg := h.hg; unfold RAt at this ⊢; exact (hb.block g (by omega)).trans this, h.small, (hb.block g5 (by omega)).trans h.op, (hb.block B (by have := h.hg; have := h.hB; omega)).trans h.res, h.below.trans (hb.mono (by have := h.hg; have := h.hB; omega)), h.hB, h.hg⟩
theorem GS.cell {B : Nat} {w0 w : World} {g g5 : Nat} {st : St} {cs : Array Value} (h : GS B w0 w g g5 st cs) (k : Nat) : w.cell? ⟨g5, k, none⟩ = cs[k]? := cell_of_heap h.op
theorem GS.free {B : Nat} {w0 w : World} {g g5 : Nat} {st : St} {cs : Array Value} (h : GS B w0 w g g5 st cs) (k : Nat) : w.frozen? ⟨g5, k, none⟩ = false := freeV h.op k

theorem small_takeDot {st : St} (hs : Small st) : Small (takeDot st).2 := by rw [takeDot_is]; exact small_takeNum (small_takeNum hs _) _
theorem small_takeVec {st : St} (hs : Small st) : Small (takeVec st).2 := by rw [takeVec_is]; exact small_vecGo hs 8
theorem GS.dot {B : Nat} {w0 w : World} {g g5 : Nat} {st st' : St} {cs : Array Value} {a b : Nat} (h : GS B w0 w g g5 st cs) (e : takeDot st = ((a, b), st')) :
    Calls Tryd.prog 39 #[.pointer (some ⟨g, 0, none⟩)] w fun e w' => e = .returned (.agg #[.int .u8 (a : Int), .int .u32 (b : Int)]) ∧ GS B w0 w' g g5 st' cs ∧ Keeps w.heap.size (some g) w w' :=
  (wire_Dot (some g) st h.small w h.at_).mono fun _ _ ⟨h1, h2, h3⟩ => ⟨by rw [h1, e]; rfl, h.call (by rw [e] at h2; exact h2) (by have := small_takeDot h.small; rw [e] at this; exact this) h3, h3⟩
theorem GS.vec {B : Nat} {w0 w : World} {g g5 : Nat} {st st' : St} {cs : Array Value} {x0 x1 x2 x3 x4 x5 x6 x7 : Nat} (h : GS B w0 w g g5 st cs) (e : takeVec st = ([x0, x1, x2, x3, x4, x5, x6, x7], st')) :
    Calls Tryd.prog 40 #[.pointer (some ⟨g, 0, none⟩)] w fun e w' => e = .returned (.agg #[.int .u32 (x0 : Int), .int .u32 (x1 : Int), .int .u32 (x2 : Int), .int .u32 (x3 : Int), .int .u32 (x4 : Int), .int .u32 (x5 : Int), .int .u32 (x6 : Int), .int .u32 (x7 : Int)]) ∧ GS B w0 w' g g5 st' cs ∧ Keeps w.heap.size (some g) w w' :=
  (wire_Vector (some g) st h.small w h.at_).mono fun _ _ ⟨h1, h2, h3⟩ => ⟨by rw [h1, e]; rfl, h.call (by rw [e] at h2; exact h2) (by have := small_takeVec h.small; rw [e] at this; exact this) h3, h3⟩
theorem GS.num {B : Nat} {w0 w : World} {g g5 : Nat} {st st' : St} {cs : Array Value} {m n : Nat} (h : GS B w0 w g g5 st cs) (e : takeNum st m = (n, st')) :
    Calls Tryd.prog 44 #[.pointer (some ⟨g, 0, none⟩), .int .u64 m] w fun e w' => e = .returned (.int .u64 (n : Int)) ∧ GS B w0 w' g g5 st' cs ∧ Keeps w.heap.size (some g) w w' :=
  (wire_Num (some g) st m h.small w h.at_).mono fun _ _ ⟨h1, h2, h3⟩ => ⟨by rw [h1, e], h.call (by rw [e] at h2; exact h2) (by have := small_takeNum h.small m; rw [e] at this; exact this) h3, h3⟩
theorem GS.num64 {B : Nat} {w0 w : World} {g g5 : Nat} {st st' : St} {cs : Array Value} {n : Nat} (h : GS B w0 w g g5 st cs) (e : takeNum st m64 = (n, st')) :
    Calls Tryd.prog 41 #[.pointer (some ⟨g, 0, none⟩)] w fun e w' => e = .returned (.int .u64 (n : Int)) ∧ GS B w0 w' g g5 st' cs ∧ Keeps w.heap.size (some g) w w' :=
  (op_num64 (some g) st h.small w h.at_).mono fun _ _ ⟨h1, h2, h3⟩ => ⟨by rw [h1, e], h.call (by rw [e] at h2; exact h2) (by have := small_takeNum h.small m64; rw [e] at this; exact this) h3, h3⟩
theorem GS.num32 {B : Nat} {w0 w : World} {g g5 : Nat} {st st' : St} {cs : Array Value} {n : Nat} (h : GS B w0 w g g5 st cs) (e : takeNum st m32 = (n, st')) :
    Calls Tryd.prog 42 #[.pointer (some ⟨g, 0, none⟩)] w fun e w' => e = .returned (.int .u32 (n : Int)) ∧ GS B w0 w' g g5 st' cs ∧ Keeps w.heap.size (some g) w w' :=
  (op_num32 (some g) st h.small w h.at_).mono fun _ _ ⟨h1, h2, h3⟩ => ⟨by rw [h1, e], h.call (by rw [e] at h2; exact h2) (by have := small_takeNum h.small m32; rw [e] at this; exact this) h3, h3⟩
theorem GS.num8 {B : Nat} {w0 w : World} {g g5 : Nat} {st st' : St} {cs : Array Value} {n : Nat} (h : GS B w0 w g g5 st cs) (e : takeNum st m8 = (n, st')) :
    Calls Tryd.prog 43 #[.pointer (some ⟨g, 0, none⟩)] w fun e w' => e = .returned (.int .u8 (n : Int)) ∧ GS B w0 w' g g5 st' cs ∧ Keeps w.heap.size (some g) w w' :=
  (op_num8 (some g) st h.small w h.at_).mono fun _ _ ⟨h1, h2, h3⟩ => ⟨by rw [h1, e], h.call (by rw [e] at h2; exact h2) (by have := small_takeNum h.small m8; rw [e] at this; exact this) h3, h3⟩
theorem GS.ended {B : Nat} {w0 w : World} {g g5 : Nat} {st : St} {cs : Array Value} (h : GS B w0 w g g5 st cs) :
    Calls Tryd.prog 45 #[.pointer (some ⟨g, 0, none⟩)] w fun e w' => e = .returned (.int .i64 (endOf st)) ∧ w = w' := wire_End (some g) st w h.at_

/-! ### Rows of claims that the call makes -/
def flatC (l : List Claim) : List Value := l.flatMap fun x => (cl x).toList
theorem flatC_append (l m : List Claim) : flatC (l ++ m) = flatC l ++ flatC m := by simp [flatC]
theorem flatC_one (x : Claim) : flatC [x] = (cl x).toList := by simp [flatC]
theorem flatC_length (l : List Claim) : (flatC l).length = l.length * 4 := by
  induction l with
  | nil => rfl
  | cons x r ih => rw [show x :: r = [x] ++ r from rfl, flatC_append, List.length_append, flatC_one, ih, List.length_append]; simp [cl]; omega
theorem infoClaim : (Tryd.prog.info? 68).map (fun i => (i.zero, i.size, i.bytes)) = some (some (.agg #[.int .u8 0, .int .u32 0, .int .u8 0, .int .u32 0]), 4, 16) := by kernel_rfl
theorem one_claim (x : Claim) : ∀ u ∈ (cl x).toList, u.oneCell' = true := by intro u hu; simp [cl] at hu; rcases hu with rfl | rfl | rfl | rfl <;> rfl
theorem owns_form {w : World} {B : Nat} {v : Value} {n : Nat} {xs : List Value} (h : w.ownsRow B 68 4 v n xs) : ∃ p c, v = .slice p n c := by
  rcases h.2 with ⟨rfl, rfl, _⟩ | ⟨g', cap, cur, rfl, _⟩
  · exact ⟨_, _, rfl⟩
  · exact ⟨_, _, rfl⟩
theorem owns_keeps {w w' : World} {B g : Nat} {v : Value} {n : Nat} {xs : List Value} (h : w.ownsRow B 68 4 v n xs) (hk : Keeps w.heap.size (some g) w w') (hg : g < B) : w'.ownsRow B 68 4 v n xs := by
  refine ⟨h.1, ?_⟩
  rcases h.2 with hn | ⟨g', cap, cur, rfl, hB, hgg, rest⟩
  · exact .inl hn
  · exact .inr ⟨g', cap, cur, rfl, hB, (hk.block g' (lt_of_heap hgg) (fun e => by cases e; omega)).trans hgg, rest⟩
theorem owns_setB {w : World} {B b k : Nat} {v u : Value} {n : Nat} {xs : List Value} (h : w.ownsRow B 68 4 v n xs) (hb : b < B) : (w.setCell ⟨b, k, none⟩ u).ownsRow B 68 4 v n xs := by
  refine ⟨h.1, ?_⟩
  rcases h.2 with hn | ⟨g', cap, cur, rfl, hB, hgg, rest⟩
  · exact .inl hn
  · exact .inr ⟨g', cap, cur, rfl, hB, heap_n hgg (by omega), rest⟩
end Go.Proofs.YtdhdfngaldfdjaaDoor.V
