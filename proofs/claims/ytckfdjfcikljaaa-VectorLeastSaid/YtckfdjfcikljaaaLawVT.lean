/-
  The law VectorTells.
-/
import Derived.Test.YtckfdjfcikljaaaLawVR
namespace Go.Proofs.Ytckfdjfcikljaaa
set_option linter.unusedVariables false
set_option linter.unusedSimpArgs false
open Go Go.RowKit Go.Maps
attribute [local go_sem ↓] Go.wp_at_zero Go.wp_at_succ

/-- The boxes of a law's arguments. -/
structure Boxes (w : World) (a b : Vec) (d : Dot) (W : World) : Prop where
  x : W.heap[w.heap.size]? = some (.cells (vc a) 24 (0, 0))
  y : W.heap[w.heap.size + 1]? = some (.cells (vc b) 24 (0, 0))
  z : W.heap[w.heap.size + 2]? = some (.cells #[.int .u8 (d.1 : Int), .int .u32 (d.2 : Int)] 26 (0, 0))
  below : Below w.heap.size w W
theorem Boxes.keep {w : World} {a b : Vec} {d : Dot} {W W' : World} (h : Boxes w a b d W) (hB : Below W.heap.size W W') : Boxes w a b d W' :=
  ⟨heap_keep h.x hB, heap_keep h.y hB, heap_keep h.z hB, h.below.trans (hB.mono h.below.size)⟩
theorem Boxes.al {w : World} {a b : Vec} {d : Dot} {W W' : World} {o : Obj} (h : Boxes w a b d W) (hB : Below (W.alloc o).heap.size (W.alloc o) W') : Boxes w a b d W' := h.keep (st1 hB)
theorem boxes_start (w : World) (a b : Vec) (d : Dot) : Boxes w a b d (((w.alloc (.cells #[.int .u32 (a 0 : Int), .int .u32 (a 1 : Int), .int .u32 (a 2 : Int), .int .u32 (a 3 : Int), .int .u32 (a 4 : Int), .int .u32 (a 5 : Int), .int .u32 (a 6 : Int), .int .u32 (a 7 : Int)] 24)).alloc (.cells #[.int .u32 (b 0 : Int), .int .u32 (b 1 : Int), .int .u32 (b 2 : Int), .int .u32 (b 3 : Int), .int .u32 (b 4 : Int), .int .u32 (b 5 : Int), .int .u32 (b 6 : Int), .int .u32 (b 7 : Int)] 24)).alloc (.cells #[.int .u8 (d.1 : Int), .int .u32 (d.2 : Int)] 26)) :=
  ⟨heap_al (heap_al (heap_alloc_last' _ _) _) _, heap_al (last2 _ _ _) _, last3 _ _ _ _, below_al3 _ _ _ _⟩
theorem cells8a {w : World} {b : Nat} {v : Vec} {t : TypeId} {fr : Nat × Nat} (h : w.heap[b]? = some (.cells (vc v) t fr)) :
    (∀ o, (w.alloc o).cell? ⟨b, 0, none⟩ = some (.int .u32 (v 0 : Int))) ∧ (∀ o, (w.alloc o).cell? ⟨b, 1, none⟩ = some (.int .u32 (v 1 : Int))) ∧ (∀ o, (w.alloc o).cell? ⟨b, 2, none⟩ = some (.int .u32 (v 2 : Int))) ∧ (∀ o, (w.alloc o).cell? ⟨b, 3, none⟩ = some (.int .u32 (v 3 : Int))) ∧ (∀ o, (w.alloc o).cell? ⟨b, 4, none⟩ = some (.int .u32 (v 4 : Int))) ∧ (∀ o, (w.alloc o).cell? ⟨b, 5, none⟩ = some (.int .u32 (v 5 : Int))) ∧ (∀ o, (w.alloc o).cell? ⟨b, 6, none⟩ = some (.int .u32 (v 6 : Int))) ∧ (∀ o, (w.alloc o).cell? ⟨b, 7, none⟩ = some (.int .u32 (v 7 : Int))) :=
  ⟨fun o => cellV (heap_al h o) (by omega), fun o => cellV (heap_al h o) (by omega), fun o => cellV (heap_al h o) (by omega), fun o => cellV (heap_al h o) (by omega), fun o => cellV (heap_al h o) (by omega), fun o => cellV (heap_al h o) (by omega), fun o => cellV (heap_al h o) (by omega), fun o => cellV (heap_al h o) (by omega)⟩
theorem cells2a {w : World} {b : Nat} {x y : Value} {t : TypeId} {fr : Nat × Nat} (h : w.heap[b]? = some (.cells #[x, y] t fr)) : (∀ o, (w.alloc o).cell? ⟨b, 0, none⟩ = some x) ∧ (∀ o, (w.alloc o).cell? ⟨b, 1, none⟩ = some y) :=
  ⟨fun o => (cells2 (heap_al h o)).1, fun o => (cells2 (heap_al h o)).2⟩
theorem keep_al {W W' : World} {a o : Obj} {g : Nat} (h : W.heap[g]? = some o) (hB : Below (W.alloc a).heap.size (W.alloc a) W') : W'.heap[g]? = some o := heap_keep (heap_al h _) hB
theorem sameD_true (v v' : Value) (l : List Dot) (w : World) (h : DotsV w v l) (h' : DotsV w v' l) :
    Calls Try.prog 22 #[v, v'] w fun e w' => e = .returned (.bool true) ∧ Below w.heap.size w w' := by
  have k := ref_SameV v v' l l w h h'
  rw [show sameB l l = true by simp [sameB]] at k
  exact k
theorem keep_last {W W' : World} {a : Obj} (hB : Below (W.alloc a).heap.size (W.alloc a) W') : W'.heap[W.heap.size]? = some a := heap_keep (heap_alloc_last' _ _) hB

set_option maxHeartbeats 8000000 in
set_option maxRecDepth 100000 in
theorem law_VectorTells (hhead : HeadOk) (a b : Vec) (d : Dot) (w : World) (ha : okV a) (hb : okV b) (hd : d.ok) :
    Calls Try.prog 3 #[.agg #[.int .u32 (a 0 : Int), .int .u32 (a 1 : Int), .int .u32 (a 2 : Int), .int .u32 (a 3 : Int), .int .u32 (a 4 : Int), .int .u32 (a 5 : Int), .int .u32 (a 6 : Int), .int .u32 (a 7 : Int)], .agg #[.int .u32 (b 0 : Int), .int .u32 (b 1 : Int), .int .u32 (b 2 : Int), .int .u32 (b 3 : Int), .int .u32 (b 4 : Int), .int .u32 (b 5 : Int), .int .u32 (b 6 : Int), .int .u32 (b 7 : Int)], .agg #[.int .u8 (d.1 : Int), .int .u32 (d.2 : Int)]] w fun e w' => e = .returned (.bool true) ∧ Below w.heap.size w w' := by
  have hN1 := fun W => vec_Next a d.1 ha hd.1 W
  have hN2 := fun W => ref_Next a d.1 ha hd.1 W
  have hP1 := fun W => vec_Put a d ha hd W
  have hP2 := fun W => ref_Put a d ha hd W
  have hC1 := fun W => vec_Covers a d W
  have hC2 := fun W => ref_Covers a d W
  have hA1 := fun W => vec_Above a b W
  have hA2 := fun W => ref_Above a b W
  have hA3 := fun W => ref_Above b a W
  have hE1 := fun W => vec_Beside a b W
  have hS1 := fun W => vec_Count a ha W
  have hS2 := fun W => ref_Count a ha W
  have hL1 := fun W => vec_Lacks a b ha hb W
  have hL2 := fun W => ref_Lacks a b ha hb W
  have hL3 := fun W => vec_Dots a ha W
  have hL4 : ∀ W, Calls Try.prog 20 #[.agg #[.int .u32 0, .int .u32 0, .int .u32 0, .int .u32 0, .int .u32 0, .int .u32 0, .int .u32 0, .int .u32 0], .agg #[.int .u32 (a 0 : Int), .int .u32 (a 1 : Int), .int .u32 (a 2 : Int), .int .u32 (a 3 : Int), .int .u32 (a 4 : Int), .int .u32 (a 5 : Int), .int .u32 (a 6 : Int), .int .u32 (a 7 : Int)]] W (LackPost W zeroV a) := fun W => ref_Lacks zeroV a ok_zero ha W
  have HK := hid (And.intro (lackL_ok (a := a) hb) (lackL_ok (a := zeroV) ha))
  clear ha hb hd
  unfold LackPost at hL1 hL2 hL3 hL4
  unfold besB at hE1
  obtain ⟨r, n⟩ := d
  dsimp only at hN1 hN2 hP1 hP2 hC1 hC2 ⊢
  have H0 := hid (boxes_start w a b (r, n))
  generalize nextD a r = nd at hN1 hN2
  generalize nextE a r = ne at hN1 hN2
  generalize putV a (r, n) = pv at hP1 hP2
  generalize putE a (r, n) = pe at hP1 hP2
  generalize covB a (r, n) = cv at hC1 hC2
  generalize sumTo a 8 = sc at hS1 hS2
  generalize lackE a b = le1 at hL1 hL2
  generalize lackE zeroV a = le2 at hL3 hL4
  generalize lackL a b = ll1 at hL1 hL2 HK
  generalize lackL zeroV a = ll2 at hL3 hL4 HK
  obtain ⟨x, y⟩ := nd
  dsimp only at hN1 hN2
  have q1 : ∀ W, (binOp .neq 26 (.agg #[.int .u8 (x : Int), .int .u32 (y : Int)]) (.agg #[.int .u8 (x : Int), .int .u32 (y : Int)])).run Try.prog W = .ok (.bool false) W := fun W => by rw [run_neq, eqB_true rfl]; rfl
  have q2 := fun W => neqV (eqV_refl pv) W
  cases hAB : aboveB a b <;> cases hBA : aboveB b a
  all_goals (
    rw [hAB] at hA1 hA2 hE1
    rw [hBA] at hA3 hE1
    simp only [Bool.not_true, Bool.not_false, Bool.and_true, Bool.and_false, Bool.true_and, Bool.false_and, Bool.and_self] at hE1
    clear hAB hBA
    go_enter Try.func3, Try.ntmps3
    go_wp2_with (first
      | (go_at_call 8; (with_reducible refine (hN1 _).mono ?_); rintro e w1 ⟨rfl, hB⟩; have HBX1 := hid (H0.out.keep hB); obtain ⟨a10, a11, a12, a13, a14, a15, a16, a17⟩ := cells8a HBX1.out.x; obtain ⟨b10, b11, b12, b13, b14, b15, b16, b17⟩ := cells8a HBX1.out.y; obtain ⟨d10, d11⟩ := cells2a HBX1.out.z; clear hB)
      | (go_at_call 9; (with_reducible refine (hN2 _).mono ?_); rintro e w2 ⟨rfl, hB⟩; have HBX2 := hid (HBX1.out.al hB); have HX2 := hid (keep_last hB); obtain ⟨a20, a21, a22, a23, a24, a25, a26, a27⟩ := cells8a HBX2.out.x; obtain ⟨b20, b21, b22, b23, b24, b25, b26, b27⟩ := cells8a HBX2.out.y; obtain ⟨d20, d21⟩ := cells2a HBX2.out.z; clear hB a10 b10 a11 b11 a12 b12 a13 b13 a14 b14 a15 b15 a16 b16 a17 b17 d10 d11)
      | (go_at_call 10; (with_reducible refine (hP1 _).mono ?_); rintro e w3 ⟨rfl, hB⟩; have HBX3 := hid (HBX2.out.al hB); have HX3 := hid (keep_al HX2.out hB); have HY3 := hid (keep_last hB); obtain ⟨a30, a31, a32, a33, a34, a35, a36, a37⟩ := cells8a HBX3.out.x; obtain ⟨b30, b31, b32, b33, b34, b35, b36, b37⟩ := cells8a HBX3.out.y; obtain ⟨d30, d31⟩ := cells2a HBX3.out.z; clear hB a20 b20 a21 b21 a22 b22 a23 b23 a24 b24 a25 b25 a26 b26 a27 b27 d20 d21 HX2)
      | (go_at_call 11; (with_reducible refine (hP2 _).mono ?_); rintro e w4 ⟨rfl, hB⟩; have HBX4 := hid (HBX3.out.al hB); have HX4 := hid (keep_al HX3.out hB); have HY4 := hid (keep_al HY3.out hB); have HP4 := hid (keep_last hB); obtain ⟨a40, a41, a42, a43, a44, a45, a46, a47⟩ := cells8a HBX4.out.x; obtain ⟨b40, b41, b42, b43, b44, b45, b46, b47⟩ := cells8a HBX4.out.y; obtain ⟨d40, d41⟩ := cells2a HBX4.out.z; clear hB a30 b30 a31 b31 a32 b32 a33 b33 a34 b34 a35 b35 a36 b36 a37 b37 d30 d31 HX3 HY3))
    refine wp_region_later_n (by kernel_rfl) (by kernel_rfl) ?_
    intro wd hwd
    have HBd := hid (show Boxes w a b (r, n) wd by rw [hwd]; exact HBX4.out.keep (below_al _ _))
    have HXd := hid (show wd.heap[w1.heap.size]? = some (.cells #[.int .u8 (x : Int), .int .u32 (y : Int)] 26 (0, 0)) ∧ wd.heap[w2.heap.size]? = some (.cells #[.int .u8 (x : Int), .int .u32 (y : Int)] 26 (0, 0)) ∧ wd.heap[w3.heap.size]? = some (.cells (vc pv) 24 (0, 0)) ∧ wd.heap[w4.heap.size]? = some (.cells (vc pv) 24 (0, 0)) by
      rw [hwd]; exact ⟨heap_al HX4.out _, heap_al HY4.out _, heap_al HP4.out _, heap_alloc_last' _ _⟩)
    clear hwd a40 b40 a41 b41 a42 b42 a43 b43 a44 b44 a45 b45 a46 b46 a47 b47 d40 d41
    have fa0 : ∀ p : Later wd.heap.size wd, p.val.cell? ⟨w.heap.size, 0, none⟩ = some (.int .u32 (a 0 : Int)) := fun p => cellV (heap_keep HBd.out.x p.ok) (by omega)
    have fa1 : ∀ p : Later wd.heap.size wd, p.val.cell? ⟨w.heap.size, 1, none⟩ = some (.int .u32 (a 1 : Int)) := fun p => cellV (heap_keep HBd.out.x p.ok) (by omega)
    have fa2 : ∀ p : Later wd.heap.size wd, p.val.cell? ⟨w.heap.size, 2, none⟩ = some (.int .u32 (a 2 : Int)) := fun p => cellV (heap_keep HBd.out.x p.ok) (by omega)
    have fa3 : ∀ p : Later wd.heap.size wd, p.val.cell? ⟨w.heap.size, 3, none⟩ = some (.int .u32 (a 3 : Int)) := fun p => cellV (heap_keep HBd.out.x p.ok) (by omega)
    have fa4 : ∀ p : Later wd.heap.size wd, p.val.cell? ⟨w.heap.size, 4, none⟩ = some (.int .u32 (a 4 : Int)) := fun p => cellV (heap_keep HBd.out.x p.ok) (by omega)
    have fa5 : ∀ p : Later wd.heap.size wd, p.val.cell? ⟨w.heap.size, 5, none⟩ = some (.int .u32 (a 5 : Int)) := fun p => cellV (heap_keep HBd.out.x p.ok) (by omega)
    have fa6 : ∀ p : Later wd.heap.size wd, p.val.cell? ⟨w.heap.size, 6, none⟩ = some (.int .u32 (a 6 : Int)) := fun p => cellV (heap_keep HBd.out.x p.ok) (by omega)
    have fa7 : ∀ p : Later wd.heap.size wd, p.val.cell? ⟨w.heap.size, 7, none⟩ = some (.int .u32 (a 7 : Int)) := fun p => cellV (heap_keep HBd.out.x p.ok) (by omega)
    have fb0 : ∀ p : Later wd.heap.size wd, p.val.cell? ⟨w.heap.size + 1, 0, none⟩ = some (.int .u32 (b 0 : Int)) := fun p => cellV (heap_keep HBd.out.y p.ok) (by omega)
    have fb1 : ∀ p : Later wd.heap.size wd, p.val.cell? ⟨w.heap.size + 1, 1, none⟩ = some (.int .u32 (b 1 : Int)) := fun p => cellV (heap_keep HBd.out.y p.ok) (by omega)
    have fb2 : ∀ p : Later wd.heap.size wd, p.val.cell? ⟨w.heap.size + 1, 2, none⟩ = some (.int .u32 (b 2 : Int)) := fun p => cellV (heap_keep HBd.out.y p.ok) (by omega)
    have fb3 : ∀ p : Later wd.heap.size wd, p.val.cell? ⟨w.heap.size + 1, 3, none⟩ = some (.int .u32 (b 3 : Int)) := fun p => cellV (heap_keep HBd.out.y p.ok) (by omega)
    have fb4 : ∀ p : Later wd.heap.size wd, p.val.cell? ⟨w.heap.size + 1, 4, none⟩ = some (.int .u32 (b 4 : Int)) := fun p => cellV (heap_keep HBd.out.y p.ok) (by omega)
    have fb5 : ∀ p : Later wd.heap.size wd, p.val.cell? ⟨w.heap.size + 1, 5, none⟩ = some (.int .u32 (b 5 : Int)) := fun p => cellV (heap_keep HBd.out.y p.ok) (by omega)
    have fb6 : ∀ p : Later wd.heap.size wd, p.val.cell? ⟨w.heap.size + 1, 6, none⟩ = some (.int .u32 (b 6 : Int)) := fun p => cellV (heap_keep HBd.out.y p.ok) (by omega)
    have fb7 : ∀ p : Later wd.heap.size wd, p.val.cell? ⟨w.heap.size + 1, 7, none⟩ = some (.int .u32 (b 7 : Int)) := fun p => cellV (heap_keep HBd.out.y p.ok) (by omega)
    have fd0 : ∀ p : Later wd.heap.size wd, p.val.cell? ⟨w.heap.size + 2, 0, none⟩ = some (.int .u8 (r : Int)) := fun p => (cells2 (heap_keep HBd.out.z p.ok)).1
    have fd1 : ∀ p : Later wd.heap.size wd, p.val.cell? ⟨w.heap.size + 2, 1, none⟩ = some (.int .u32 (n : Int)) := fun p => (cells2 (heap_keep HBd.out.z p.ok)).2
    have fx0 : ∀ p : Later wd.heap.size wd, p.val.cell? ⟨w1.heap.size, 0, none⟩ = some (.int .u8 (x : Int)) := fun p => (cells2 (heap_keep HXd.out.1 p.ok)).1
    have fx1 : ∀ p : Later wd.heap.size wd, p.val.cell? ⟨w1.heap.size, 1, none⟩ = some (.int .u32 (y : Int)) := fun p => (cells2 (heap_keep HXd.out.1 p.ok)).2
    have fy0 : ∀ p : Later wd.heap.size wd, p.val.cell? ⟨w2.heap.size, 0, none⟩ = some (.int .u8 (x : Int)) := fun p => (cells2 (heap_keep HXd.out.2.1 p.ok)).1
    have fy1 : ∀ p : Later wd.heap.size wd, p.val.cell? ⟨w2.heap.size, 1, none⟩ = some (.int .u32 (y : Int)) := fun p => (cells2 (heap_keep HXd.out.2.1 p.ok)).2
    have fp0 : ∀ p : Later wd.heap.size wd, p.val.cell? ⟨w3.heap.size, 0, none⟩ = some (.int .u32 (pv 0 : Int)) := fun p => cellV (heap_keep HXd.out.2.2.1 p.ok) (by omega)
    have fp1 : ∀ p : Later wd.heap.size wd, p.val.cell? ⟨w3.heap.size, 1, none⟩ = some (.int .u32 (pv 1 : Int)) := fun p => cellV (heap_keep HXd.out.2.2.1 p.ok) (by omega)
    have fp2 : ∀ p : Later wd.heap.size wd, p.val.cell? ⟨w3.heap.size, 2, none⟩ = some (.int .u32 (pv 2 : Int)) := fun p => cellV (heap_keep HXd.out.2.2.1 p.ok) (by omega)
    have fp3 : ∀ p : Later wd.heap.size wd, p.val.cell? ⟨w3.heap.size, 3, none⟩ = some (.int .u32 (pv 3 : Int)) := fun p => cellV (heap_keep HXd.out.2.2.1 p.ok) (by omega)
    have fp4 : ∀ p : Later wd.heap.size wd, p.val.cell? ⟨w3.heap.size, 4, none⟩ = some (.int .u32 (pv 4 : Int)) := fun p => cellV (heap_keep HXd.out.2.2.1 p.ok) (by omega)
    have fp5 : ∀ p : Later wd.heap.size wd, p.val.cell? ⟨w3.heap.size, 5, none⟩ = some (.int .u32 (pv 5 : Int)) := fun p => cellV (heap_keep HXd.out.2.2.1 p.ok) (by omega)
    have fp6 : ∀ p : Later wd.heap.size wd, p.val.cell? ⟨w3.heap.size, 6, none⟩ = some (.int .u32 (pv 6 : Int)) := fun p => cellV (heap_keep HXd.out.2.2.1 p.ok) (by omega)
    have fp7 : ∀ p : Later wd.heap.size wd, p.val.cell? ⟨w3.heap.size, 7, none⟩ = some (.int .u32 (pv 7 : Int)) := fun p => cellV (heap_keep HXd.out.2.2.1 p.ok) (by omega)
    have fq0 : ∀ p : Later wd.heap.size wd, p.val.cell? ⟨w4.heap.size, 0, none⟩ = some (.int .u32 (pv 0 : Int)) := fun p => cellV (heap_keep HXd.out.2.2.2 p.ok) (by omega)
    have fq1 : ∀ p : Later wd.heap.size wd, p.val.cell? ⟨w4.heap.size, 1, none⟩ = some (.int .u32 (pv 1 : Int)) := fun p => cellV (heap_keep HXd.out.2.2.2 p.ok) (by omega)
    have fq2 : ∀ p : Later wd.heap.size wd, p.val.cell? ⟨w4.heap.size, 2, none⟩ = some (.int .u32 (pv 2 : Int)) := fun p => cellV (heap_keep HXd.out.2.2.2 p.ok) (by omega)
    have fq3 : ∀ p : Later wd.heap.size wd, p.val.cell? ⟨w4.heap.size, 3, none⟩ = some (.int .u32 (pv 3 : Int)) := fun p => cellV (heap_keep HXd.out.2.2.2 p.ok) (by omega)
    have fq4 : ∀ p : Later wd.heap.size wd, p.val.cell? ⟨w4.heap.size, 4, none⟩ = some (.int .u32 (pv 4 : Int)) := fun p => cellV (heap_keep HXd.out.2.2.2 p.ok) (by omega)
    have fq5 : ∀ p : Later wd.heap.size wd, p.val.cell? ⟨w4.heap.size, 5, none⟩ = some (.int .u32 (pv 5 : Int)) := fun p => cellV (heap_keep HXd.out.2.2.2 p.ok) (by omega)
    have fq6 : ∀ p : Later wd.heap.size wd, p.val.cell? ⟨w4.heap.size, 6, none⟩ = some (.int .u32 (pv 6 : Int)) := fun p => cellV (heap_keep HXd.out.2.2.2 p.ok) (by omega)
    have fq7 : ∀ p : Later wd.heap.size wd, p.val.cell? ⟨w4.heap.size, 7, none⟩ = some (.int .u32 (pv 7 : Int)) := fun p => cellV (heap_keep HXd.out.2.2.2 p.ok) (by omega)
    repeat (go_big_quiet_step (first | (go_at_call 12; with_reducible exact Calls.later_of (Nat.le_refl _) (hC1 _)) | (go_at_call 13; with_reducible exact Calls.later_of (Nat.le_refl _) (hC2 _)) | (go_at_call 14; with_reducible exact Calls.later_of (Nat.le_refl _) (hA1 _)) | (go_at_call 15; with_reducible exact Calls.later_of (Nat.le_refl _) (hA2 _)) | (go_at_call 15; with_reducible exact Calls.later_of (Nat.le_refl _) (hA3 _)) | (go_at_call 16; with_reducible exact Calls.later_of (Nat.le_refl _) (hE1 _)) | (go_at_call 17; with_reducible exact Calls.later_of (Nat.le_refl _) (hS1 _)) | (go_at_call 18; with_reducible exact Calls.later_of (Nat.le_refl _) (hS2 _))))
    refine wpQuiet_nil ?_
    rintro _ ⟨p, rfl⟩
    have HBX5 := hid (HBd.out.keep p.ok)
    generalize p.val = w5 at HBX5
    clear fa0 fa1 fa2 fa3 fa4 fa5 fa6 fa7 fb0 fb1 fb2 fb3 fb4 fb5 fb6 fb7 fp0 fp1 fp2 fp3 fp4 fp5 fp6 fp7 fq0 fq1 fq2 fq3 fq4 fq5 fq6 fq7 fd0 fd1 fx0 fx1 fy0 fy1
    obtain ⟨a50, a51, a52, a53, a54, a55, a56, a57⟩ := cells8 HBX5.out.x; obtain ⟨b50, b51, b52, b53, b54, b55, b56, b57⟩ := cells8 HBX5.out.y; obtain ⟨d50, d51⟩ := cells2 HBX5.out.z; 
    go_wp2_with (first
      | (go_at_call 19; (with_reducible refine (hL1 _).mono ?_); rintro e w6 ⟨u6, rfl, hr, hB⟩; have HD6 := hid (owns_dotsV hr HK.out.1); have HBX6 := hid (HBX5.out.keep hB); obtain ⟨a60, a61, a62, a63, a64, a65, a66, a67⟩ := cells8 HBX6.out.x; obtain ⟨b60, b61, b62, b63, b64, b65, b66, b67⟩ := cells8 HBX6.out.y; obtain ⟨d60, d61⟩ := cells2 HBX6.out.z; clear hB hr)
      | (go_at_call 20; (with_reducible refine (hL2 _).mono ?_); rintro e w7 ⟨u7, rfl, hr, hB⟩; have HD7 := hid (owns_dotsV hr HK.out.1); have HE7 := hid (HD6.out.keep hB); have HBX7 := hid (HBX6.out.keep hB); obtain ⟨a70, a71, a72, a73, a74, a75, a76, a77⟩ := cells8 HBX7.out.x; obtain ⟨b70, b71, b72, b73, b74, b75, b76, b77⟩ := cells8 HBX7.out.y; obtain ⟨d70, d71⟩ := cells2 HBX7.out.z; clear hB hr)
      | (go_at_call 21; (with_reducible refine (hL3 _).mono ?_); rintro e w8 ⟨u8, rfl, hr, hB⟩; have HD8 := hid (owns_dotsV hr HK.out.2); have HE8 := hid (And.intro (HE7.out.keep hB) (HD7.out.keep hB)); have HBX8 := hid (HBX7.out.keep hB); obtain ⟨a80, a81, a82, a83, a84, a85, a86, a87⟩ := cells8 HBX8.out.x; obtain ⟨b80, b81, b82, b83, b84, b85, b86, b87⟩ := cells8 HBX8.out.y; obtain ⟨d80, d81⟩ := cells2 HBX8.out.z; clear hB hr)
      | (go_at_call 20; (with_reducible refine (hL4 _).mono ?_); rintro e w9 ⟨u9, rfl, hr, hB⟩; have HD9 := hid (owns_dotsV hr HK.out.2); have HE9 := hid (And.intro (HE8.out.1.keep hB) (And.intro (HE8.out.2.keep hB) (HD8.out.keep hB))); have HBX9 := hid (HBX8.out.keep hB); clear hB hr)
      | (go_at_call 22; (with_reducible refine (sameD_true _ _ _ _ HE9.out.1 HE9.out.2.1).mono ?_); rintro e w10 ⟨rfl, hB⟩; have HE10 := hid (And.intro (HE9.out.2.2.keep hB) (HD9.out.keep hB)); have HBX10 := hid (HBX9.out.keep hB); clear hB)
      | (go_at_call 22; (with_reducible refine (sameD_true _ _ _ _ HE10.out.1 HE10.out.2).mono ?_); rintro e w11 ⟨rfl, hB⟩; have HBX11 := hid (HBX10.out.keep hB); clear hB)
      | (go_at_call 23; (with_reducible refine (hhead _).mono ?_); rintro e w12 ⟨rfl, hB⟩))
    go_ret
    exact ⟨rfl, HBX11.out.below.trans (hB.mono HBX11.out.below.size)⟩)

end Go.Proofs.Ytckfdjfcikljaaa
