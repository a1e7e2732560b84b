/-
  The document's operations of a law's head.
-/
import Derived.Test.YtagjgknkkbkjgaaOM
import Derived.Test.YtagjgknkkbkjgaaON
import Derived.Deep.RegionWith
import Derived.Deep.CutRange
import Derived.Test.YtagjgknkkbkjgaaJU
namespace Go.Proofs.Ytagjgknkkbkjgaa.V
set_option linter.unusedVariables false
set_option linter.unusedSimpArgs false
set_option maxRecDepth 100000
open Go Go.RowKit Go.Maps

set_option maxRecDepth 100000
set_option linter.unusedVariables false
set_option linter.unusedSimpArgs false
def genO : OpM := ⟨0, 1, fun _ => 0, 1, 7, 0, 1, 0, 0, 0, 0, 0, 0, 0, 0, 0, 0, 0, 0, 0, 0, .slice none 0 0⟩
def addO : OpM := ⟨0, 2, fun i => if i = 0 then 1 else 0, 2, 7, 0, 1, 3, 0, 1, 0, 0, 0, 0, 0, 0, 0, 0, 5, 3, 100, .slice none 0 0⟩
theorem oneO (o : OpM) (h : o.lv.oneCell' = true) : (oc o).all (·.oneCell') = true := by
  unfold oc
  simp only [Value.oneCell'] at h ⊢
  simp [h]

end Go.Proofs.Ytagjgknkkbkjgaa.V

/-
  The law's head: operations of which the document says whether they may be.
-/
namespace Go.Proofs.Ytagjgknkkbkjgaa.V
set_option linter.unusedVariables false
set_option linter.unusedSimpArgs false
set_option maxRecDepth 100000
open Go Go.RowKit Go.Maps Wire

set_option maxRecDepth 100000
set_option linter.unusedVariables false
set_option linter.unusedSimpArgs false
def zeroO : OpM := ⟨0, 0, fun _ => 0, 0, 0, 0, 0, 0, 0, 0, 0, 0, 0, 0, 0, 0, 0, 0, 0, 0, 0, .slice none 0 0⟩
def addQ : OpM := { addO with qt := 0 }
def addD : OpM := { addO with dep := fun _ => 0 }
def addA : OpM := { addO with ar := 0, an := 1 }
def genW : OpM := { genO with who := 0 }
theorem ok_genO : okO genO := by refine ⟨⟨?_, ?_⟩, ?_, ?_, ?_, ?_, ?_, ?_, ?_, ?_, ?_, ?_, ?_, ?_, ?_, ?_, ?_, ?_, ?_, ?_, ?_, ?_⟩ <;> first | decide | (intro i; show (0 : Nat) < _; decide) | (intro i _; rfl)
theorem ok_addO : okO addO := by refine ⟨⟨?_, ?_⟩, ?_, ?_, ?_, ?_, ?_, ?_, ?_, ?_, ?_, ?_, ?_, ?_, ?_, ?_, ?_, ?_, ?_, ?_, ?_, ?_⟩ <;> first | decide | (intro i; show (if i = 0 then 1 else 0) < _; split <;> decide) | (intro i h; show (if i = 0 then 1 else 0) = 0; rw [if_neg (by omega)])
theorem ok_addQ : okO addQ := { ok_addO with qt := by decide }
theorem ok_addD : okO addD := { ok_addO with dep := ok_genO.dep }
theorem ok_addA : okO addA := { ok_addO with ar := by decide, an := by decide }
theorem ok_genW : okO genW := { ok_genO with who := by decide }
theorem same_0 (W : World) : Calls Try.prog 41 #[.agg (oc addO), .agg (oc addO)] W fun e w' => e = .returned (.bool true) ∧ Below W.heap.size W w' := op_Same addO addO [] [] W (ClaimsV.nil W) (ClaimsV.nil W)
theorem same_1 (W : World) : Calls Try.prog 41 #[.agg (oc addO), .agg (oc addQ)] W fun e w' => e = .returned (.bool false) ∧ Below W.heap.size W w' := op_Same addO addQ [] [] W (ClaimsV.nil W) (ClaimsV.nil W)
theorem put_gen : putM genO [] = ([0, 1, 0, 0, 0, 0, 0, 0, 0, 0, 1, 7, 0, 1, 0, 0, 0, 0, 0, 0, 0, 0, 0, 0, 0, 0, 0, 0, 0], 0) := by decide

theorem row_ne {w : World} {g k : Nat} {cs : Array Value} {o : Option Obj} (h : w.heap[k]? = o) (hne : g ≠ k) : (w.setRow g cs).heap[k]? = o := by
  rw [← h]
  unfold World.setRow
  simp [Array.getElem?_modify, hne]
theorem below_row {B : Nat} {w w' : World} (h : Below B w w') {g : Nat} (hg : B ≤ g) (cs : Array Value) : Below B w (w'.setRow g cs) := Go.Proofs.Ytagjgknkkbkjgaa.Below.setRow h hg cs
theorem al4 (W : World) (a b c d : Obj) : ((((W.alloc a).alloc b).alloc c).alloc d).heap[W.heap.size]? = some a ∧ ((((W.alloc a).alloc b).alloc c).alloc d).heap[W.heap.size + 1]? = some b ∧ ((((W.alloc a).alloc b).alloc c).alloc d).heap[W.heap.size + 2]? = some c ∧ ((((W.alloc a).alloc b).alloc c).alloc d).heap[W.heap.size + 3]? = some d :=
  ⟨heap_al (heap_al (heap_al (heap_alloc_last' _ _) _) _) _, heap_al (heap_al (last2 _ _ _) _) _, heap_al (by have := last2 (W.alloc a) b c; rwa [World.size_alloc] at this) _, by have := last2 ((W.alloc a).alloc b) c d; rwa [World.size_alloc, World.size_alloc] at this⟩
theorem gen_world {P : Program} {ops : Array Oper} {Q : Exit → Act → World → Prop} {l : List Oper} {a : Act} {w : World} (R : World → Prop) (hR : R w) (h : ∀ W, R W → wpList P ops Q l a W) : wpList P ops Q l a w := h w hR
theorem heap_s {w : World} {b k : Nat} {cs : Array Value} {t : TypeId} {v : Value} (h : w.heap[b]? = some (.cells cs t (0, 0))) : (w.setCell ⟨b, k, none⟩ v).heap[b]? = some (.cells (cs.setIfInBounds k v) t (0, 0)) := heap_setCell_same _ _ _ _ _ _ h
theorem heap_n {w : World} {b b' k : Nat} {o : Option Obj} {v : Value} (h : w.heap[b]? = o) (hne : b' ≠ b) : (w.setCell ⟨b', k, none⟩ v).heap[b]? = o := by
  rw [← h]; simp [World.setCell, Array.getElem?_modify, hne]

structure FourB (w w4 X : World) : Prop where
  o0 : OpAt X w4.heap.size addO
  o1 : OpAt X (w4.heap.size + 1) addO
  o2 : OpAt X (w4.heap.size + 1 + 1) addO
  o3 : OpAt X (w4.heap.size + 1 + 1 + 1) genO
  below : Below w.heap.size w X
theorem four_boxes (w w4 : World) (hB : Below w.heap.size w w4) (z0 z1 z2 z3 : Array Value) : FourB w w4 ((((((((w4.alloc (.cells z0 50)).alloc (.cells z1 50)).alloc (.cells z2 50)).alloc (.cells z3 50)).setRow w4.heap.size (oc addO)).setRow (w4.heap.size + 1) (oc addO)).setRow (w4.heap.size + 1 + 1) (oc addO)).setRow (w4.heap.size + 1 + 1 + 1) (oc genO)) := by
  have hs0 := hB.size
  have hs1 : w.heap.size ≤ w4.heap.size + 1 := by omega
  have hs2 : w.heap.size ≤ w4.heap.size + 1 + 1 := by omega
  have hs3 : w.heap.size ≤ w4.heap.size + 1 + 1 + 1 := by omega
  exact ⟨(row_ne (row_ne (row_ne (setRow_heap _ _ _ _ _ _ (al4 w4 _ _ _ _).1) (by omega)) (by omega)) (by omega)), (row_ne (row_ne (setRow_heap _ _ _ _ _ _ (row_ne (al4 w4 _ _ _ _).2.1 (by omega))) (by omega)) (by omega)), (row_ne (setRow_heap _ _ _ _ _ _ (row_ne (row_ne (al4 w4 _ _ _ _).2.2.1 (by omega)) (by omega))) (by omega)), (setRow_heap _ _ _ _ _ _ (row_ne (row_ne (row_ne (al4 w4 _ _ _ _).2.2.2 (by omega)) (by omega)) (by omega))), (below_row (below_row (below_row (below_row ((((hB.alloc hs0 _).alloc (size_alloc_le hs0 _) _).alloc (size_alloc_le (size_alloc_le hs0 _) _) _).alloc (size_alloc_le (size_alloc_le (size_alloc_le hs0 _) _) _) _) hs0 _) hs1 _) hs2 _) hs3 _)⟩
structure FourC (w w4 X : World) : Prop where
  o0 : OpAt X w4.heap.size addQ
  o1 : OpAt X (w4.heap.size + 1) addD
  o2 : OpAt X (w4.heap.size + 1 + 1) addA
  o3 : OpAt X (w4.heap.size + 1 + 1 + 1) genW
  below : Below w.heap.size w X
theorem FourC.next {w w4 X W : World} (h : FourC w w4 X) (hB : Below X.heap.size X W) : FourC w w4 W := ⟨h.o0.keep hB, h.o1.keep hB, h.o2.keep hB, h.o3.keep hB, below_next h.below hB⟩
theorem four_fields (w w4 WX : World) (hw : w.heap.size ≤ w4.heap.size) (h : FourB w w4 WX) : FourC w w4 ((((((((((((WX.setCell ⟨w4.heap.size, 26, none⟩ (.int .u32 0)).setCell ⟨(w4.heap.size + 1), 2, none⟩ (.int .u32 0)).setCell ⟨(w4.heap.size + 1), 3, none⟩ (.int .u32 0)).setCell ⟨(w4.heap.size + 1), 4, none⟩ (.int .u32 0)).setCell ⟨(w4.heap.size + 1), 5, none⟩ (.int .u32 0)).setCell ⟨(w4.heap.size + 1), 6, none⟩ (.int .u32 0)).setCell ⟨(w4.heap.size + 1), 7, none⟩ (.int .u32 0)).setCell ⟨(w4.heap.size + 1), 8, none⟩ (.int .u32 0)).setCell ⟨(w4.heap.size + 1), 9, none⟩ (.int .u32 0)).setCell ⟨(w4.heap.size + 1 + 1), 21, none⟩ (.int .u8 0)).setCell ⟨(w4.heap.size + 1 + 1), 22, none⟩ (.int .u32 1)).setCell ⟨(w4.heap.size + 1 + 1 + 1), 11, none⟩ (.int .u32 0)) := by
  have hs0 := hw
  have hs1 : w.heap.size ≤ w4.heap.size + 1 := by omega
  have hs2 : w.heap.size ≤ w4.heap.size + 1 + 1 := by omega
  have hs3 : w.heap.size ≤ w4.heap.size + 1 + 1 + 1 := by omega
  exact ⟨(heap_n (heap_n (heap_n (heap_n (heap_n (heap_n (heap_n (heap_n (heap_n (heap_n (heap_n (heap_s h.o0) (by omega)) (by omega)) (by omega)) (by omega)) (by omega)) (by omega)) (by omega)) (by omega)) (by omega)) (by omega)) (by omega)), (heap_n (heap_n (heap_n (heap_s (heap_s (heap_s (heap_s (heap_s (heap_s (heap_s (heap_s (heap_n h.o1 (by omega)))))))))) (by omega)) (by omega)) (by omega)), (heap_n (heap_s (heap_s (heap_n (heap_n (heap_n (heap_n (heap_n (heap_n (heap_n (heap_n (heap_n h.o2 (by omega)) (by omega)) (by omega)) (by omega)) (by omega)) (by omega)) (by omega)) (by omega)) (by omega)))) (by omega)), (heap_s (heap_n (heap_n (heap_n (heap_n (heap_n (heap_n (heap_n (heap_n (heap_n (heap_n (heap_n h.o3 (by omega)) (by omega)) (by omega)) (by omega)) (by omega)) (by omega)) (by omega)) (by omega)) (by omega)) (by omega)) (by omega))), ((((((((((((h.below.setCell hs0 _).setCell hs1 _).setCell hs1 _).setCell hs1 _).setCell hs1 _).setCell hs1 _).setCell hs1 _).setCell hs1 _).setCell hs1 _).setCell hs2 _).setCell hs2 _).setCell hs3 _)⟩
theorem conv_zeros (n : Nat) (w : World) (b : Nat) (t : TypeId) (fr : Nat × Nat) (h : w.heap[b]? = some (.cells (Array.replicate n (.int .u8 0)) t fr)) :
    (convert 42 9 (.slice (some ⟨b, 0, none⟩) n n)).run Try.prog w = .ok (.string (ba (List.replicate n 0))) w := by
  have hs : (ba (List.replicate n 0)).size = n := by rw [ba_size]; simp
  have := Lib.run_convert_whole (P := Try.prog) w 42 5 9 Try.underlying42 Try.underlying5 Try.underlying9 b 0 (ba (List.replicate n 0)) (fun i hi => by
    have hi' : i < n := by rw [hs] at hi; exact hi
    rw [Nat.zero_add]
    have hg := ba_get (List.replicate n 0) i hi
    rw [List.getElem?_replicate, if_pos hi'] at hg
    have e : (ba (List.replicate n 0))[i] = 0 := (Option.some.inj hg).symm
    simp [World.cell?, h, e, hi']) n
  rw [hs] at this
  exact this
theorem wpList_conv {ops : Array Oper} {rest : List Oper} {o : Oper} {a : Act} {w : World} {Q : Exit → Act → World → Prop} (hgd : o.guard = none) (x : Operand) (ho : o.op = .convert 42 9 x)
    (n b : Nat) (hx : a.eval x = .slice (some ⟨b, 0, none⟩) n n) (t : TypeId) (fr : Nat × Nat) (hr : w.heap[b]? = some (.cells (Array.replicate n (.int .u8 0)) t fr))
    (h : wpList Try.prog ops Q rest (a.put o.dst (.string (ba (List.replicate n 0)))) w) : wpList Try.prog ops Q (o :: rest) a w :=
  wpList_plain hgd fun _ hK => by
    unfold Oper.wp execOp
    simp only [ho, hx, Sem.run_bind, conv_zeros n w b t fr hr, Result.andThen_ok, Sem.run_pure]
    exact hK _ _ h
theorem want_eq : (⟨#[0, 1]⟩ : ByteArray) ++ ba [0, 0, 0, 0, 0, 0, 0, 0] ++ ⟨#[1, 7, 0, 1, 0]⟩ ++ ba [0, 0, 0, 0, 0, 0, 0, 0, 0, 0, 0, 0, 0, 0] = ba [0, 1, 0, 0, 0, 0, 0, 0, 0, 0, 1, 7, 0, 1, 0, 0, 0, 0, 0, 0, 0, 0, 0, 0, 0, 0, 0, 0, 0] := by
  rw [show (⟨#[0, 1]⟩ : ByteArray) = ba [0, 1] from rfl, show (⟨#[1, 7, 0, 1, 0]⟩ : ByteArray) = ba [1, 7, 0, 1, 0] from rfl, ba_append, ba_append, ba_append]
  rfl
theorem row0 (n : Nat) : rowCells n (fun _ => 0) 0 = Array.replicate n (.int .u8 0) := by
  apply Array.ext
  · simp [rowCells]
  · intro i h1 h2; simp [rowCells]
theorem mk8 (W : World) : (Instr.makeSlice 42 (.int .i64 8) (.int .i64 8)).run Try.prog W = .ok (.slice (some ⟨W.heap.size, 0, none⟩) 8 8) (W.alloc (.cells (Array.replicate 8 (.int .u8 0)) 5)) := by have := make_row 8 (by omega) (fun _ => 0) W; rw [row0] at this; exact this
theorem mk14 (W : World) : (Instr.makeSlice 42 (.int .i64 14) (.int .i64 14)).run Try.prog W = .ok (.slice (some ⟨W.heap.size, 0, none⟩) 14 14) (W.alloc (.cells (Array.replicate 14 (.int .u8 0)) 5)) := by have := make_row 14 (by omega) (fun _ => 0) W; rw [row0] at this; exact this
end Go.Proofs.Ytagjgknkkbkjgaa.V

/-
  Readers of numbers of a field's type; the state of op.Get.
-/
namespace Go.Proofs.Ytagjgknkkbkjgaa.V
set_option linter.unusedVariables false
set_option linter.unusedSimpArgs false
set_option maxRecDepth 100000
open Go Go.RowKit Go.Maps Wire

set_option maxRecDepth 100000
set_option linter.unusedVariables false
set_option linter.unusedSimpArgs false
def m64 : Nat := 18446744073709551615
theorem op_num64 (p : Option Nat) (st : St) (hs : Small st) (W : World) (h : RAt W p st) :
    Calls Try.prog 77 #[rptr p] W fun e w' => e = .returned (.int .u64 ((takeNum st m64).1 : Nat)) ∧ RAt w' p (takeNum st m64).2 ∧ Keeps W.heap.size p W w' := by
  have hw : IntKind.u64.wrap (0 : Int) = 0 := by decide
  go_enter Try.func77, Try.ntmps77
  go_wp2_with (go_at_call 35; (refine (wire_Num p st m64 hs _ h).mono ?_); rintro e w' ⟨rfl, hr, hk⟩)
  go_ret
  exact ⟨rfl, hr, hk⟩
theorem op_num32 (p : Option Nat) (st : St) (hs : Small st) (W : World) (h : RAt W p st) :
    Calls Try.prog 78 #[rptr p] W fun e w' => e = .returned (.int .u32 ((takeNum st m32).1 : Nat)) ∧ RAt w' p (takeNum st m32).2 ∧ Keeps W.heap.size p W w' := by
  have hl := takeNum_le st m32
  have k := wire_Num p st m32 hs W h
  generalize takeNum st m32 = t at hl k ⊢
  obtain ⟨n, st'⟩ := t
  dsimp only at hl k ⊢
  have hw : IntKind.u32.wrap (n : Int) = n := by rw [wrap_u32]; unfold m32 at hl; omega
  clear hl
  go_enter Try.func78, Try.ntmps78
  go_wp2_with (go_at_call 35; (refine k.mono ?_); rintro e w' ⟨rfl, hr, hk⟩)
  go_ret
  exact ⟨rfl, hr, hk⟩
theorem op_num8 (p : Option Nat) (st : St) (hs : Small st) (W : World) (h : RAt W p st) :
    Calls Try.prog 79 #[rptr p] W fun e w' => e = .returned (.int .u8 ((takeNum st m8).1 : Nat)) ∧ RAt w' p (takeNum st m8).2 ∧ Keeps W.heap.size p W w' := by
  have hl := takeNum_le st m8
  have k := wire_Num p st m8 hs W h
  generalize takeNum st m8 = t at hl k ⊢
  obtain ⟨n, st'⟩ := t
  dsimp only at hl k ⊢
  have hw : IntKind.u8.wrap (n : Int) = n := by rw [wrap_u8]; unfold m8 at hl; omega
  clear hl
  go_enter Try.func79, Try.ntmps79
  go_wp2_with (go_at_call 35; (refine k.mono ?_); rintro e w' ⟨rfl, hr, hk⟩)
  go_ret
  exact ⟨rfl, hr, hk⟩

/-- op.Get under way: the reader in block g, the operation in block g5, the result in block B. -/
structure GS (B : Nat) (w0 w : World) (g g5 : Nat) (st : St) (cs : Array Value) : Prop where
  at_ : RAt w (some g) st
  small : Small st
  op : w.heap[g5]? = some (.cells cs 50 (0, 0))
  res : w.heap[B]? = some (.cells (oc zeroO) 50 (0, 0))
  below : Below B w0 w
  hB : B < g
  hg : g < g5
theorem GS.lt {B : Nat} {w0 w : World} {g g5 : Nat} {st : St} {cs : Array Value} (h : GS B w0 w g g5 st cs) : g5 < w.heap.size := lt_of_heap h.op
theorem GS.call {B : Nat} {w0 w w' : World} {g g5 : Nat} {st st' : St} {cs : Array Value} (h : GS B w0 w g g5 st cs) (hr : RAt w' (some g) st') (hs : Small st') (hk : Keeps w.heap.size (some g) w w') : GS B w0 w' g g5 st' cs :=
  ⟨hr, hs, (hk.block g5 h.lt (fun e => by have := h.hg; cases e; omega)).trans h.op, (hk.block B (by have := h.lt; have := h.hg; have := h.hB; omega) (fun e => by have := h.hB; cases e; omega)).trans h.res,
    h.below.trans ((hk.mono (by have := h.lt; have := h.hg; have := h.hB; omega)).below (fun k e => by have := h.hB; cases e; omega)), h.hB, h.hg⟩
theorem GS.store {B : Nat} {w0 w : World} {g g5 : Nat} {st : St} {cs : Array Value} (h : GS B w0 w g g5 st cs) (k : Nat) (v : Value) : GS B w0 (w.setCell ⟨g5, k, none⟩ v) g g5 st (cs.setIfInBounds k v) :=
  ⟨by have := h.at_; have hg := h.hg; unfold RAt at this ⊢; exact heap_n this (by omega), h.small, heap_s h.op, heap_n h.res (by have := h.hg; have := h.hB; omega), h.below.setCell (by have := h.hg; have := h.hB; show B ≤ g5; omega) _, h.hB, h.hg⟩
theorem GS.base {B : Nat} {w0 w w' : World} {g g5 : Nat} {st : St} {cs : Array Value} (h : GS B w0 w g g5 st cs) (hb : Below (g5 + 1) w w') : GS B w0 w' g g5 st cs :=
  ⟨by have := h.at_; have hg := h.hg; unfold RAt at this ⊢; exact (hb.block g (by omega)).trans this, h.small, (hb.block g5 (by omega)).trans h.op, (hb.block B (by have := h.hg; have := h.hB; omega)).trans h.res, h.below.trans (hb.mono (by have := h.hg; have := h.hB; omega)), h.hB, h.hg⟩
theorem GS.cell {B : Nat} {w0 w : World} {g g5 : Nat} {st : St} {cs : Array Value} (h : GS B w0 w g g5 st cs) (k : Nat) : w.cell? ⟨g5, k, none⟩ = cs[k]? := cell_of_heap h.op
theorem GS.free {B : Nat} {w0 w : World} {g g5 : Nat} {st : St} {cs : Array Value} (h : GS B w0 w g g5 st cs) (k : Nat) : w.frozen? ⟨g5, k, none⟩ = false := freeV h.op k

theorem small_takeDot {st : St} (hs : Small st) : Small (takeDot st).2 := by rw [takeDot_is]; exact small_takeNum (small_takeNum hs _) _
theorem small_takeVec {st : St} (hs : Small st) : Small (takeVec st).2 := by rw [takeVec_is]; exact small_vecGo hs 8
theorem GS.dot {B : Nat} {w0 w : World} {g g5 : Nat} {st st' : St} {cs : Array Value} {a b : Nat} (h : GS B w0 w g g5 st cs) (e : takeDot st = ((a, b), st')) :
    Calls Try.prog 76 #[.pointer (some ⟨g, 0, none⟩)] w fun e w' => e = .returned (.agg #[.int .u8 (a : Int), .int .u32 (b : Int)]) ∧ GS B w0 w' g g5 st' cs ∧ Keeps w.heap.size (some g) w w' :=
  (wire_Dot (some g) st h.small w h.at_).mono fun _ _ ⟨h1, h2, h3⟩ => ⟨by rw [h1, e]; rfl, h.call (by rw [e] at h2; exact h2) (by have := small_takeDot h.small; rw [e] at this; exact this) h3, h3⟩
theorem GS.vec {B : Nat} {w0 w : World} {g g5 : Nat} {st st' : St} {cs : Array Value} {x0 x1 x2 x3 x4 x5 x6 x7 : Nat} (h : GS B w0 w g g5 st cs) (e : takeVec st = ([x0, x1, x2, x3, x4, x5, x6, x7], st')) :
    Calls Try.prog 36 #[.pointer (some ⟨g, 0, none⟩)] w fun e w' => e = .returned (.agg #[.int .u32 (x0 : Int), .int .u32 (x1 : Int), .int .u32 (x2 : Int), .int .u32 (x3 : Int), .int .u32 (x4 : Int), .int .u32 (x5 : Int), .int .u32 (x6 : Int), .int .u32 (x7 : Int)]) ∧ GS B w0 w' g g5 st' cs ∧ Keeps w.heap.size (some g) w w' :=
  (wire_Vector (some g) st h.small w h.at_).mono fun _ _ ⟨h1, h2, h3⟩ => ⟨by rw [h1, e]; rfl, h.call (by rw [e] at h2; exact h2) (by have := small_takeVec h.small; rw [e] at this; exact this) h3, h3⟩
theorem GS.num {B : Nat} {w0 w : World} {g g5 : Nat} {st st' : St} {cs : Array Value} {m n : Nat} (h : GS B w0 w g g5 st cs) (e : takeNum st m = (n, st')) :
    Calls Try.prog 35 #[.pointer (some ⟨g, 0, none⟩), .int .u64 m] w fun e w' => e = .returned (.int .u64 (n : Int)) ∧ GS B w0 w' g g5 st' cs ∧ Keeps w.heap.size (some g) w w' :=
  (wire_Num (some g) st m h.small w h.at_).mono fun _ _ ⟨h1, h2, h3⟩ => ⟨by rw [h1, e], h.call (by rw [e] at h2; exact h2) (by have := small_takeNum h.small m; rw [e] at this; exact this) h3, h3⟩
theorem GS.num64 {B : Nat} {w0 w : World} {g g5 : Nat} {st st' : St} {cs : Array Value} {n : Nat} (h : GS B w0 w g g5 st cs) (e : takeNum st m64 = (n, st')) :
    Calls Try.prog 77 #[.pointer (some ⟨g, 0, none⟩)] w fun e w' => e = .returned (.int .u64 (n : Int)) ∧ GS B w0 w' g g5 st' cs ∧ Keeps w.heap.size (some g) w w' :=
  (op_num64 (some g) st h.small w h.at_).mono fun _ _ ⟨h1, h2, h3⟩ => ⟨by rw [h1, e], h.call (by rw [e] at h2; exact h2) (by have := small_takeNum h.small m64; rw [e] at this; exact this) h3, h3⟩
theorem GS.num32 {B : Nat} {w0 w : World} {g g5 : Nat} {st st' : St} {cs : Array Value} {n : Nat} (h : GS B w0 w g g5 st cs) (e : takeNum st m32 = (n, st')) :
    Calls Try.prog 78 #[.pointer (some ⟨g, 0, none⟩)] w fun e w' => e = .returned (.int .u32 (n : Int)) ∧ GS B w0 w' g g5 st' cs ∧ Keeps w.heap.size (some g) w w' :=
  (op_num32 (some g) st h.small w h.at_).mono fun _ _ ⟨h1, h2, h3⟩ => ⟨by rw [h1, e], h.call (by rw [e] at h2; exact h2) (by have := small_takeNum h.small m32; rw [e] at this; exact this) h3, h3⟩
theorem GS.num8 {B : Nat} {w0 w : World} {g g5 : Nat} {st st' : St} {cs : Array Value} {n : Nat} (h : GS B w0 w g g5 st cs) (e : takeNum st m8 = (n, st')) :
    Calls Try.prog 79 #[.pointer (some ⟨g, 0, none⟩)] w fun e w' => e = .returned (.int .u8 (n : Int)) ∧ GS B w0 w' g g5 st' cs ∧ Keeps w.heap.size (some g) w w' :=
  (op_num8 (some g) st h.small w h.at_).mono fun _ _ ⟨h1, h2, h3⟩ => ⟨by rw [h1, e], h.call (by rw [e] at h2; exact h2) (by have := small_takeNum h.small m8; rw [e] at this; exact this) h3, h3⟩
theorem GS.ended {B : Nat} {w0 w : World} {g g5 : Nat} {st : St} {cs : Array Value} (h : GS B w0 w g g5 st cs) :
    Calls Try.prog 38 #[.pointer (some ⟨g, 0, none⟩)] w fun e w' => e = .returned (.int .i64 (endOf st)) ∧ w = w' := wire_End (some g) st w h.at_

/-! ### Rows of claims that the call makes -/
def flatC (l : List Claim) : List Value := l.flatMap fun x => (cl x).toList
theorem flatC_append (l m : List Claim) : flatC (l ++ m) = flatC l ++ flatC m := by simp [flatC]
theorem flatC_one (x : Claim) : flatC [x] = (cl x).toList := by simp [flatC]
theorem flatC_length (l : List Claim) : (flatC l).length = l.length * 4 := by
  induction l with
  | nil => rfl
  | cons x r ih => rw [show x :: r = [x] ++ r from rfl, flatC_append, List.length_append, flatC_one, ih, List.length_append]; simp [cl]; omega
theorem infoClaim : (Try.prog.info? 92).map (fun i => (i.zero, i.size, i.bytes)) = some (some (.agg #[.int .u8 0, .int .u32 0, .int .u8 0, .int .u32 0]), 4, 16) := by kernel_rfl
theorem one_claim (x : Claim) : ∀ u ∈ (cl x).toList, u.oneCell' = true := by intro u hu; simp [cl] at hu; rcases hu with rfl | rfl | rfl | rfl <;> rfl
theorem owns_form {w : World} {B : Nat} {v : Value} {n : Nat} {xs : List Value} (h : w.ownsRow B 92 4 v n xs) : ∃ p c, v = .slice p n c := by
  rcases h.2 with ⟨rfl, rfl, _⟩ | ⟨g', cap, cur, rfl, _⟩
  · exact ⟨_, _, rfl⟩
  · exact ⟨_, _, rfl⟩
theorem owns_keeps {w w' : World} {B g : Nat} {v : Value} {n : Nat} {xs : List Value} (h : w.ownsRow B 92 4 v n xs) (hk : Keeps w.heap.size (some g) w w') (hg : g < B) : w'.ownsRow B 92 4 v n xs := by
  refine ⟨h.1, ?_⟩
  rcases h.2 with hn | ⟨g', cap, cur, rfl, hB, hgg, rest⟩
  · exact .inl hn
  · exact .inr ⟨g', cap, cur, rfl, hB, (hk.block g' (lt_of_heap hgg) (fun e => by cases e; omega)).trans hgg, rest⟩
theorem owns_setB {w : World} {B b k : Nat} {v u : Value} {n : Nat} {xs : List Value} (h : w.ownsRow B 92 4 v n xs) (hb : b < B) : (w.setCell ⟨b, k, none⟩ u).ownsRow B 92 4 v n xs := by
  refine ⟨h.1, ?_⟩
  rcases h.2 with hn | ⟨g', cap, cur, rfl, hB, hgg, rest⟩
  · exact .inl hn
  · exact .inr ⟨g', cap, cur, rfl, hB, heap_n hgg (by omega), rest⟩
end Go.Proofs.Ytagjgknkkbkjgaa.V
