/-
  The law's head: operations of which the document says whether they may be.
-/
import Derived.Test.YtdhdfngaldfdjaaDoorOP
import Derived.Deep.RegionWith
import Derived.Deep.CutRange
namespace Go.Proofs.YtdhdfngaldfdjaaDoor.V
set_option linter.unusedVariables false
set_option linter.unusedSimpArgs false
set_option maxRecDepth 100000
open Go Go.RowKit Go.Maps Wire

def zeroO : OpM := ⟨0, 0, fun _ => 0, 0, 0, 0, 0, 0, 0, 0, 0, 0, 0, 0, 0, 0, 0, 0, 0, 0, 0, .slice none 0 0⟩
def addQ : OpM := { addO with qt := 0 }
def addD : OpM := { addO with dep := fun _ => 0 }
def addA : OpM := { addO with ar := 0, an := 1 }
def genW : OpM := { genO with who := 0 }
theorem ok_genO : okO genO := by refine ⟨⟨?_, ?_⟩, ?_, ?_, ?_, ?_, ?_, ?_, ?_, ?_, ?_, ?_, ?_, ?_, ?_, ?_, ?_, ?_, ?_, ?_, ?_, ?_⟩ <;> first | decide | (intro i; show (0 : Nat) < _; decide) | (intro i _; rfl)
theorem ok_addO : okO addO := by refine ⟨⟨?_, ?_⟩, ?_, ?_, ?_, ?_, ?_, ?_, ?_, ?_, ?_, ?_, ?_, ?_, ?_, ?_, ?_, ?_, ?_, ?_, ?_, ?_⟩ <;> first | decide | (intro i; show (if i = 0 then 1 else 0) < _; split <;> decide) | (intro i h; show (if i = 0 then 1 else 0) = 0; rw [if_neg (by omega)])
theorem ok_addQ : okO addQ := { ok_addO with qt := by decide }
theorem ok_addD : okO addD := { ok_addO with dep := ok_genO.dep }
theorem ok_addA : okO addA := { ok_addO with ar := by decide, an := by decide }
theorem ok_genW : okO genW := { ok_genO with who := by decide }
theorem chk_0 (W : World) (hT : Tab W) : Calls Tryd.prog 7 #[.agg (oc genO), .int .i64 1] W fun e w' => e = .returned (.int .i64 0) ∧ Below W.heap.size W w' :=
  (op_Check genO ok_genO [] 1 W (ClaimsV.nil W) hT).mono fun _ _ ⟨h1, h2⟩ => ⟨h1.trans (ret_int (by decide)), h2⟩
theorem chk_1 (W : World) (hT : Tab W) : Calls Tryd.prog 7 #[.agg (oc addO), .int .i64 3] W fun e w' => e = .returned (.int .i64 0) ∧ Below W.heap.size W w' :=
  (op_Check addO ok_addO [] 3 W (ClaimsV.nil W) hT).mono fun _ _ ⟨h1, h2⟩ => ⟨h1.trans (ret_int (by decide)), h2⟩
theorem chk_2 (W : World) (hT : Tab W) : Calls Tryd.prog 7 #[.agg (oc addO), .int .i64 0] W fun e w' => e = .returned (.int .i64 2) ∧ Below W.heap.size W w' :=
  (op_Check addO ok_addO [] 0 W (ClaimsV.nil W) hT).mono fun _ _ ⟨h1, h2⟩ => ⟨h1.trans (ret_int (by decide)), h2⟩
theorem chk_3 (W : World) (hT : Tab W) : Calls Tryd.prog 7 #[.agg (oc addQ), .int .i64 3] W fun e w' => e = .returned (.int .i64 5) ∧ Below W.heap.size W w' :=
  (op_Check addQ ok_addQ [] 3 W (ClaimsV.nil W) hT).mono fun _ _ ⟨h1, h2⟩ => ⟨h1.trans (ret_int (by decide)), h2⟩
theorem chk_4 (W : World) (hT : Tab W) : Calls Tryd.prog 7 #[.agg (oc addD), .int .i64 3] W fun e w' => e = .returned (.int .i64 5) ∧ Below W.heap.size W w' :=
  (op_Check addD ok_addD [] 3 W (ClaimsV.nil W) hT).mono fun _ _ ⟨h1, h2⟩ => ⟨h1.trans (ret_int (by decide)), h2⟩
theorem chk_5 (W : World) (hT : Tab W) : Calls Tryd.prog 7 #[.agg (oc addA), .int .i64 3] W fun e w' => e = .returned (.int .i64 5) ∧ Below W.heap.size W w' :=
  (op_Check addA ok_addA [] 3 W (ClaimsV.nil W) hT).mono fun _ _ ⟨h1, h2⟩ => ⟨h1.trans (ret_int (by decide)), h2⟩
theorem chk_6 (W : World) (hT : Tab W) : Calls Tryd.prog 7 #[.agg (oc genW), .int .i64 1] W fun e w' => e = .returned (.int .i64 5) ∧ Below W.heap.size W w' :=
  (op_Check genW ok_genW [] 1 W (ClaimsV.nil W) hT).mono fun _ _ ⟨h1, h2⟩ => ⟨h1.trans (ret_int (by decide)), h2⟩
theorem same_0 (W : World) : Calls Tryd.prog 16 #[.agg (oc addO), .agg (oc addO)] W fun e w' => e = .returned (.bool true) ∧ Below W.heap.size W w' := op_Same addO addO [] [] W (ClaimsV.nil W) (ClaimsV.nil W)
theorem same_1 (W : World) : Calls Tryd.prog 16 #[.agg (oc addO), .agg (oc addQ)] W fun e w' => e = .returned (.bool false) ∧ Below W.heap.size W w' := op_Same addO addQ [] [] W (ClaimsV.nil W) (ClaimsV.nil W)
theorem put_gen : putM genO [] = ([0, 1, 0, 0, 0, 0, 0, 0, 0, 0, 1, 7, 0, 1, 0, 0, 0, 0, 0, 0, 0, 0, 0, 0, 0, 0, 0, 0, 0], 0) := by decide

theorem row_ne {w : World} {g k : Nat} {cs : Array Value} {o : Option Obj} (h : w.heap[k]? = o) (hne : g ≠ k) : (w.setRow g cs).heap[k]? = o := by
  rw [← h]
  unfold World.setRow
  simp [Array.getElem?_modify, hne]
theorem below_row {B : Nat} {w w' : World} (h : Below B w w') {g : Nat} (hg : B ≤ g) (cs : Array Value) : Below B w (w'.setRow g cs) := Go.Proofs.YtdhdfngaldfdjaaDoor.Below.setRow h hg cs
theorem al4 (W : World) (a b c d : Obj) : ((((W.alloc a).alloc b).alloc c).alloc d).heap[W.heap.size]? = some a ∧ ((((W.alloc a).alloc b).alloc c).alloc d).heap[W.heap.size + 1]? = some b ∧ ((((W.alloc a).alloc b).alloc c).alloc d).heap[W.heap.size + 2]? = some c ∧ ((((W.alloc a).alloc b).alloc c).alloc d).heap[W.heap.size + 3]? = some d :=
  ⟨heap_al (heap_al (heap_al (heap_alloc_last' _ _) _) _) _, heap_al (heap_al (last2 _ _ _) _) _, heap_al (by have := last2 (W.alloc a) b c; rwa [World.size_alloc] at this) _, by have := last2 ((W.alloc a).alloc b) c d; rwa [World.size_alloc, World.size_alloc] at this⟩
theorem gen_world {P : Program} {ops : Array Oper} {Q : Exit → Act → World → Prop} {l : List Oper} {a : Act} {w : World} (R : World → Prop) (hR : R w) (h : ∀ W, R W → wpList P ops Q l a W) : wpList P ops Q l a w := h w hR
theorem heap_s {w : World} {b k : Nat} {cs : Array Value} {t : TypeId} {v : Value} (h : w.heap[b]? = some (.cells cs t (0, 0))) : (w.setCell ⟨b, k, none⟩ v).heap[b]? = some (.cells (cs.setIfInBounds k v) t (0, 0)) := heap_setCell_same _ _ _ _ _ _ h
theorem heap_n {w : World} {b b' k : Nat} {o : Option Obj} {v : Value} (h : w.heap[b]? = o) (hne : b' ≠ b) : (w.setCell ⟨b', k, none⟩ v).heap[b]? = o := by
  rw [← h]; simp [World.setCell, Array.getElem?_modify, hne]

structure FourB (w w4 X : World) : Prop where
  o0 : OpAt X w4.heap.size addO
  o1 : OpAt X (w4.heap.size + 1) addO
  o2 : OpAt X (w4.heap.size + 1 + 1) addO
  o3 : OpAt X (w4.heap.size + 1 + 1 + 1) genO
  below : Below w.heap.size w X
theorem four_boxes (w w4 : World) (hB : Below w.heap.size w w4) (z0 z1 z2 z3 : Array Value) : FourB w w4 ((((((((w4.alloc (.cells z0 30)).alloc (.cells z1 30)).alloc (.cells z2 30)).alloc (.cells z3 30)).setRow w4.heap.size (oc addO)).setRow (w4.heap.size + 1) (oc addO)).setRow (w4.heap.size + 1 + 1) (oc addO)).setRow (w4.heap.size + 1 + 1 + 1) (oc genO)) := by
  have hs0 := hB.size
  have hs1 : w.heap.size ≤ w4.heap.size + 1 := by omega
  have hs2 : w.heap.size ≤ w4.heap.size + 1 + 1 := by omega
  have hs3 : w.heap.size ≤ w4.heap.size + 1 + 1 + 1 := by omega
  exact ⟨(row_ne (row_ne (row_ne (setRow_heap _ _ _ _ _ _ (al4 w4 _ _ _ _).1) (by omega)) (by omega)) (by omega)), (row_ne (row_ne (setRow_heap _ _ _ _ _ _ (row_ne (al4 w4 _ _ _ _).2.1 (by omega))) (by omega)) (by omega)), (row_ne (setRow_heap _ _ _ _ _ _ (row_ne (row_ne (al4 w4 _ _ _ _).2.2.1 (by omega)) (by omega))) (by omega)), (setRow_heap _ _ _ _ _ _ (row_ne (row_ne (row_ne (al4 w4 _ _ _ _).2.2.2 (by omega)) (by omega)) (by omega))), (below_row (below_row (below_row (below_row ((((hB.alloc hs0 _).alloc (size_alloc_le hs0 _) _).alloc (size_alloc_le (size_alloc_le hs0 _) _) _).alloc (size_alloc_le (size_alloc_le (size_alloc_le hs0 _) _) _) _) hs0 _) hs1 _) hs2 _) hs3 _)⟩
structure FourC (w w4 X : World) : Prop where
  o0 : OpAt X w4.heap.size addQ
  o1 : OpAt X (w4.heap.size + 1) addD
  o2 : OpAt X (w4.heap.size + 1 + 1) addA
  o3 : OpAt X (w4.heap.size + 1 + 1 + 1) genW
  below : Below w.heap.size w X
theorem FourC.next {w w4 X W : World} (h : FourC w w4 X) (hB : Below X.heap.size X W) : FourC w w4 W := ⟨h.o0.keep hB, h.o1.keep hB, h.o2.keep hB, h.o3.keep hB, below_next h.below hB⟩
theorem four_fields (w w4 WX : World) (hw : w.heap.size ≤ w4.heap.size) (h : FourB w w4 WX) : FourC w w4 ((((((((((((WX.setCell ⟨w4.heap.size, 26, none⟩ (.int .u32 0)).setCell ⟨(w4.heap.size + 1), 2, none⟩ (.int .u32 0)).setCell ⟨(w4.heap.size + 1), 3, none⟩ (.int .u32 0)).setCell ⟨(w4.heap.size + 1), 4, none⟩ (.int .u32 0)).setCell ⟨(w4.heap.size + 1), 5, none⟩ (.int .u32 0)).setCell ⟨(w4.heap.size + 1), 6, none⟩ (.int .u32 0)).setCell ⟨(w4.heap.size + 1), 7, none⟩ (.int .u32 0)).setCell ⟨(w4.heap.size + 1), 8, none⟩ (.int .u32 0)).setCell ⟨(w4.heap.size + 1), 9, none⟩ (.int .u32 0)).setCell ⟨(w4.heap.size + 1 + 1), 21, none⟩ (.int .u8 0)).setCell ⟨(w4.heap.size + 1 + 1), 22, none⟩ (.int .u32 1)).setCell ⟨(w4.heap.size + 1 + 1 + 1), 11, none⟩ (.int .u32 0)) := by
  have hs0 := hw
  have hs1 : w.heap.size ≤ w4.heap.size + 1 := by omega
  have hs2 : w.heap.size ≤ w4.heap.size + 1 + 1 := by omega
  have hs3 : w.heap.size ≤ w4.heap.size + 1 + 1 + 1 := by omega
  exact ⟨(heap_n (heap_n (heap_n (heap_n (heap_n (heap_n (heap_n (heap_n (heap_n (heap_n (heap_n (heap_s h.o0) (by omega)) (by omega)) (by omega)) (by omega)) (by omega)) (by omega)) (by omega)) (by omega)) (by omega)) (by omega)) (by omega)), (heap_n (heap_n (heap_n (heap_s (heap_s (heap_s (heap_s (heap_s (heap_s (heap_s (heap_s (heap_n h.o1 (by omega)))))))))) (by omega)) (by omega)) (by omega)), (heap_n (heap_s (heap_s (heap_n (heap_n (heap_n (heap_n (heap_n (heap_n (heap_n (heap_n (heap_n h.o2 (by omega)) (by omega)) (by omega)) (by omega)) (by omega)) (by omega)) (by omega)) (by omega)) (by omega)))) (by omega)), (heap_s (heap_n (heap_n (heap_n (heap_n (heap_n (heap_n (heap_n (heap_n (heap_n (heap_n (heap_n h.o3 (by omega)) (by omega)) (by omega)) (by omega)) (by omega)) (by omega)) (by omega)) (by omega)) (by omega)) (by omega)) (by omega))), ((((((((((((h.below.setCell hs0 _).setCell hs1 _).setCell hs1 _).setCell hs1 _).setCell hs1 _).setCell hs1 _).setCell hs1 _).setCell hs1 _).setCell hs1 _).setCell hs2 _).setCell hs2 _).setCell hs3 _)⟩
theorem conv_zeros (n : Nat) (w : World) (b : Nat) (t : TypeId) (fr : Nat × Nat) (h : w.heap[b]? = some (.cells (Array.replicate n (.int .u8 0)) t fr)) :
    (convert 48 9 (.slice (some ⟨b, 0, none⟩) n n)).run Tryd.prog w = .ok (.string (ba (List.replicate n 0))) w := by
  have hs : (ba (List.replicate n 0)).size = n := by rw [ba_size]; simp
  have := Lib.run_convert_whole (P := Tryd.prog) w 48 5 9 Tryd.underlying48 Tryd.underlying5 Tryd.underlying9 b 0 (ba (List.replicate n 0)) (fun i hi => by
    have hi' : i < n := by rw [hs] at hi; exact hi
    rw [Nat.zero_add]
    have hg := ba_get (List.replicate n 0) i hi
    rw [List.getElem?_replicate, if_pos hi'] at hg
    have e : (ba (List.replicate n 0))[i] = 0 := (Option.some.inj hg).symm
    simp [World.cell?, h, e, hi']) n
  rw [hs] at this
  exact this
theorem wpList_conv {ops : Array Oper} {rest : List Oper} {o : Oper} {a : Act} {w : World} {Q : Exit → Act → World → Prop} (hgd : o.guard = none) (x : Operand) (ho : o.op = .convert 48 9 x)
    (n b : Nat) (hx : a.eval x = .slice (some ⟨b, 0, none⟩) n n) (t : TypeId) (fr : Nat × Nat) (hr : w.heap[b]? = some (.cells (Array.replicate n (.int .u8 0)) t fr))
    (h : wpList Tryd.prog ops Q rest (a.put o.dst (.string (ba (List.replicate n 0)))) w) : wpList Tryd.prog ops Q (o :: rest) a w :=
  wpList_plain hgd fun _ hK => by
    unfold Oper.wp execOp
    simp only [ho, hx, Sem.run_bind, conv_zeros n w b t fr hr, Result.andThen_ok, Sem.run_pure]
    exact hK _ _ h
theorem want_eq : (⟨#[0, 1]⟩ : ByteArray) ++ ba [0, 0, 0, 0, 0, 0, 0, 0] ++ ⟨#[1, 7, 0, 1, 0]⟩ ++ ba [0, 0, 0, 0, 0, 0, 0, 0, 0, 0, 0, 0, 0, 0] = ba [0, 1, 0, 0, 0, 0, 0, 0, 0, 0, 1, 7, 0, 1, 0, 0, 0, 0, 0, 0, 0, 0, 0, 0, 0, 0, 0, 0, 0] := by
  rw [show (⟨#[0, 1]⟩ : ByteArray) = ba [0, 1] from rfl, show (⟨#[1, 7, 0, 1, 0]⟩ : ByteArray) = ba [1, 7, 0, 1, 0] from rfl, ba_append, ba_append, ba_append]
  rfl
theorem row0 (n : Nat) : rowCells n (fun _ => 0) 0 = Array.replicate n (.int .u8 0) := by
  apply Array.ext
  · simp [rowCells]
  · intro i h1 h2; simp [rowCells]
theorem mk8 (W : World) : (Instr.makeSlice 48 (.int .i64 8) (.int .i64 8)).run Tryd.prog W = .ok (.slice (some ⟨W.heap.size, 0, none⟩) 8 8) (W.alloc (.cells (Array.replicate 8 (.int .u8 0)) 5)) := by have := make_row 8 (by omega) (fun _ => 0) W; rw [row0] at this; exact this
theorem mk14 (W : World) : (Instr.makeSlice 48 (.int .i64 14) (.int .i64 14)).run Tryd.prog W = .ok (.slice (some ⟨W.heap.size, 0, none⟩) 14 14) (W.alloc (.cells (Array.replicate 14 (.int .u8 0)) 5)) := by have := make_row 14 (by omega) (fun _ => 0) W; rw [row0] at this; exact this
set_option maxHeartbeats 1000000 in
theorem law_head (w : World) (hT : Tab w) : Calls Tryd.prog 11 #[] w fun e w' => e = .returned (.bool true) ∧ Below w.heap.size w w' := by
  go_enter Tryd.func11, Tryd.ntmps11
  go_upto_region 2 with (first
    | (go_at_call 28; (with_reducible refine (law_add w).mono ?_); rintro e w1 ⟨rfl, hB1⟩; have HB1 := hid hB1; clear hB1)
    | (go_at_call 28; (with_reducible refine (law_add w1).mono ?_); rintro e w2 ⟨rfl, hB2⟩; have HB2 := hid (below_next HB1.out hB2); clear hB2 HB1)
    | (go_at_call 28; (with_reducible refine (law_add w2).mono ?_); rintro e w3 ⟨rfl, hB3⟩; have HB3 := hid (below_next HB2.out hB3); clear hB3 HB2)
    | (go_at_call 29; (with_reducible refine (law_genesis w3).mono ?_); rintro e w4 ⟨rfl, hB4⟩; have HB4 := hid (below_next HB3.out hB4); clear hB4 HB3)
    | (refine wpList_store_row rfl _ _ _ rfl w4.heap.size (oc addO) rfl rfl 30 (oc zeroO) ?_ (opSize _) rfl (oneO _ rfl) ?_; (focus exact (al4 w4 _ _ _ _).1))
    | (refine wpList_store_row rfl _ _ _ rfl (w4.heap.size + 1) (oc addO) rfl rfl 30 (oc zeroO) ?_ (opSize _) rfl (oneO _ rfl) ?_; (focus exact (row_ne (al4 w4 _ _ _ _).2.1 (by omega))))
    | (refine wpList_store_row rfl _ _ _ rfl (w4.heap.size + 1 + 1) (oc addO) rfl rfl 30 (oc zeroO) ?_ (opSize _) rfl (oneO _ rfl) ?_; (focus exact (row_ne (row_ne (al4 w4 _ _ _ _).2.2.1 (by omega)) (by omega))))
    | (refine wpList_store_row rfl _ _ _ rfl (w4.heap.size + 1 + 1 + 1) (oc genO) rfl rfl 30 (oc zeroO) ?_ (opSize _) rfl (oneO _ rfl) ?_; (focus exact (row_ne (row_ne (row_ne (al4 w4 _ _ _ _).2.2.2 (by omega)) (by omega)) (by omega))); refine gen_world (FourB w w4) (four_boxes w w4 HB4.out _ _ _ _) ?_; rintro WX ⟨h0, h1, h2, h3, hBX⟩; have H0 := hid h0; have H1 := hid h1; have H2 := hid h2; have H3 := hid h3; have HBX := hid hBX; clear h0 h1 h2 h3 hBX))
  have z0 := fun k => freeV H0.out k
  have z1 := fun k => freeV H1.out k
  have z2 := fun k => freeV H2.out k
  have z3 := fun k => freeV H3.out k
  have c26 := H0.out.c26
  have c2 := H1.out.c2
  have c3 := H1.out.c3
  have c4 := H1.out.c4
  have c5 := H1.out.c5
  have c6 := H1.out.c6
  have c7 := H1.out.c7
  have c8 := H1.out.c8
  have c9 := H1.out.c9
  have c21 := H2.out.c21
  have c22 := H2.out.c22
  have c11 := H3.out.c11
  have hput := fun W => (op_Put genO ok_genO [] W (ClaimsV.nil W))
  rw [put_gen] at hput
  dsimp only at hput
  go_upto_region 7 with (first
    | (go_at_call 29; (with_reducible refine (law_genesis _).mono ?_); rintro e w5 ⟨rfl, hB5⟩; have HC := hid ((four_fields w w4 WX HB4.out.size ⟨H0.out, H1.out, H2.out, H3.out, HBX.out⟩).next hB5); clear hB5 c26 c21 c22 c11 c2 c3 c4 c5 c6 c7 c8 c9 z0 z1 z2 z3)
    | (go_at_call 12; (with_reducible refine (hput w5).mono ?_); rintro e w6 ⟨rfl, hB6⟩; have HD := hid (HC.out.next hB6); clear hB6 HC hput))
  (try simp only [World.size_alloc])
  go_cut [7] from 23 to 29 (fun c wx => c = .string (ba [0, 1, 0, 0, 0, 0, 0, 0, 0, 0, 1, 7, 0, 1, 0, 0, 0, 0, 0, 0, 0, 0, 0, 0, 0, 0, 0, 0, 0]) ∧ FourC w w4 wx)
  case first =>
    have m8 := mk8
    have m14 := mk14
    have ca8 := conv_zeros 8 (w6.alloc (.cells (Array.replicate 8 (.int .u8 0)) 5)).drew w6.heap.size 5 (0, 0) (heap_alloc_last' _ _)
    have cb8 := fun o => conv_zeros 8 ((w6.alloc (.cells (Array.replicate 8 (.int .u8 0)) 5)).alloc o).drew w6.heap.size 5 (0, 0) (heap_al (heap_alloc_last' _ _) _)
    have cc8 := fun o => conv_zeros 8 ((w6.alloc o).alloc (.cells (Array.replicate 8 (.int .u8 0)) 5)).drew (w6.heap.size + 1) 5 (0, 0) (last2 _ _ _)
    have ca14 := conv_zeros 14 (w6.alloc (.cells (Array.replicate 14 (.int .u8 0)) 5)).drew w6.heap.size 5 (0, 0) (heap_alloc_last' _ _)
    have cb14 := fun o => conv_zeros 14 ((w6.alloc (.cells (Array.replicate 14 (.int .u8 0)) 5)).alloc o).drew w6.heap.size 5 (0, 0) (heap_al (heap_alloc_last' _ _) _)
    have cc14 := fun o => conv_zeros 14 ((w6.alloc o).alloc (.cells (Array.replicate 14 (.int .u8 0)) 5)).drew (w6.heap.size + 1) 5 (0, 0) (last2 _ _ _)
    go_region_with (fail)
    all_goals
      go_wp2_with fail
      go_meet
      exact ⟨congrArg Value.string want_eq, HD.out.next (((Below.refl w6.heap.size w6).alloc (Nat.le_refl _) _).alloc (size_alloc_le (Nat.le_refl _) _) _).drew⟩
  case rest =>
    obtain ⟨rfl, hF⟩ := hcut
    generalize hBY : ba [0, 1, 0, 0, 0, 0, 0, 0, 0, 0, 1, 7, 0, 1, 0, 0, 0, 0, 0, 0, 0, 0, 0, 0, 0, 0, 0, 0, 0] = BY
    clear hBY
    have HT := hid (hT.keep hF.below)
    have HF := hid hF
    clear hF H0 H1 H2 H3 HBX HD HB4 hT
    go_upto_region 8 with (fail)
    refine wp_region_later_n (by kernel_rfl) (by kernel_rfl) ?_
    intro wd hwd
    have hw1 : Below wc.heap.size wc wd := by rw [hwd]; first | exact Below.refl _ _ | exact below_dr _
    clear hwd
    have HW := hid (below_next HF.out.below hw1)
    have tab := fun p : Later wd.heap.size wd => (HT.out.keep hw1).keep p.ok
    have fl0 : ∀ w', (∃ p : Later wd.heap.size wd, w' = p.val) → OpAt w' w4.heap.size addQ := by rintro _ ⟨p, rfl⟩; exact (HF.out.o0.keep hw1).keep p.ok
    have FL0 := hid fl0
    have fl1 : ∀ w', (∃ p : Later wd.heap.size wd, w' = p.val) → OpAt w' (w4.heap.size + 1) addD := by rintro _ ⟨p, rfl⟩; exact (HF.out.o1.keep hw1).keep p.ok
    have FL1 := hid fl1
    have fl2 : ∀ w', (∃ p : Later wd.heap.size wd, w' = p.val) → OpAt w' (w4.heap.size + 1 + 1) addA := by rintro _ ⟨p, rfl⟩; exact (HF.out.o2.keep hw1).keep p.ok
    have FL2 := hid fl2
    have fl3 : ∀ w', (∃ p : Later wd.heap.size wd, w' = p.val) → OpAt w' (w4.heap.size + 1 + 1 + 1) genW := by rintro _ ⟨p, rfl⟩; exact (HF.out.o3.keep hw1).keep p.ok
    have FL3 := hid fl3
    clear hw1 fl0 fl1 fl2 fl3 HF
    repeat (first | (go_big_quiet_want; refine quiet_ld _ rfl w4.heap.size rfl addQ FL0.out ?_; simp only [Act.put, List.setIfInBounds_toArray, List.set_cons_zero, List.set_cons_succ]; go_big_quiet_on) | (go_big_quiet_want; refine quiet_ld _ rfl (w4.heap.size + 1) rfl addD FL1.out ?_; simp only [Act.put, List.setIfInBounds_toArray, List.set_cons_zero, List.set_cons_succ]; go_big_quiet_on) | (go_big_quiet_want; refine quiet_ld _ rfl (w4.heap.size + 1 + 1) rfl addA FL2.out ?_; simp only [Act.put, List.setIfInBounds_toArray, List.set_cons_zero, List.set_cons_succ]; go_big_quiet_on) | (go_big_quiet_want; refine quiet_ld _ rfl (w4.heap.size + 1 + 1 + 1) rfl genW FL3.out ?_; simp only [Act.put, List.setIfInBounds_toArray, List.set_cons_zero, List.set_cons_succ]; go_big_quiet_on) | go_big_quiet_step (first | (go_at_call 7; with_reducible exact Calls.later_of (Nat.le_refl _) (chk_0 _ (tab _))) | (go_at_call 7; with_reducible exact Calls.later_of (Nat.le_refl _) (chk_1 _ (tab _))) | (go_at_call 7; with_reducible exact Calls.later_of (Nat.le_refl _) (chk_2 _ (tab _))) | (go_at_call 7; with_reducible exact Calls.later_of (Nat.le_refl _) (chk_3 _ (tab _))) | (go_at_call 7; with_reducible exact Calls.later_of (Nat.le_refl _) (chk_4 _ (tab _))) | (go_at_call 7; with_reducible exact Calls.later_of (Nat.le_refl _) (chk_5 _ (tab _))) | (go_at_call 7; with_reducible exact Calls.later_of (Nat.le_refl _) (chk_6 _ (tab _))) | (go_at_call 29; with_reducible exact Calls.later_of (Nat.le_refl _) (law_genesis _)) | (go_at_call 28; with_reducible exact Calls.later_of (Nat.le_refl _) (law_add _)) | (go_at_call 16; with_reducible exact Calls.later_of (Nat.le_refl _) (same_0 _)) | (go_at_call 16; with_reducible exact Calls.later_of (Nat.le_refl _) (same_1 _))))
    refine wpQuiet_nil ?_
    rintro _ ⟨p, rfl⟩
    have HP := hid p.ok
    generalize p.val = w2 at HP
    clear tab
    go_wp2
    go_ret
    exact ⟨rfl, HW.out.trans (HP.out.mono HW.out.size)⟩

end Go.Proofs.YtdhdfngaldfdjaaDoor.V
