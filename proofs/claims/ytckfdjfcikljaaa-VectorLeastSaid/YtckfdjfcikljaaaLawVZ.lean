/-
  The law VectorLeast.
-/
import Derived.Test.YtckfdjfcikljaaaLawVY
namespace Go.Proofs.Ytckfdjfcikljaaa
set_option linter.unusedVariables false
set_option linter.unusedSimpArgs false
set_option maxRecDepth 100000
open Go Go.RowKit Go.Maps

theorem ok2 {x y : Vec} (hx : okV x) (hy : okV y) : ∀ d ∈ [x, y], okV d := by
  intro d hd
  simp only [List.mem_cons, List.not_mem_nil, or_false] at hd
  rcases hd with rfl | rfl
  · exact hx
  · exact hy
theorem ok3 {x y z : Vec} (hx : okV x) (hy : okV y) (hz : okV z) : ∀ d ∈ [x, y, z], okV d := by
  intro d hd
  simp only [List.mem_cons, List.not_mem_nil, or_false] at hd
  rcases hd with rfl | rfl | rfl
  · exact hx
  · exact hy
  · exact hz
def tg1 (k : Nat) : Option Nat := if k = 10 then some 8 else if k = 11 then some 9 else none
theorem tg1_ne {k j : Nat} (h8 : j ≠ 8) (h9 : j ≠ 9) : tg1 k ≠ some j := by
  unfold tg1
  split
  · simp; omega
  · split
    · simp; omega
    · simp
theorem tg1_8 {k : Nat} (h : k ≠ 10) : tg1 k ≠ some 8 := by
  unfold tg1
  rw [if_neg h]
  split <;> simp
theorem tg1_9 {k : Nat} (h : k ≠ 11) : tg1 k ≠ some 9 := by
  unfold tg1
  split
  · simp
  · first | (rw [if_neg h]; simp; done) | simp
def fl1 (a b c : Vec) : List Fa := [.eq (.agg (vc a)),
  .eq (.agg (vc b)),
  .row 24 2 (flatV [a, b]).toArray,
  .eq (.agg (vc (mx a b))),
  .eq (.agg (vc a)),
  .eq (.agg (vc b)),
  .row 24 2 (flatV [a, b]).toArray,
  .eq (.agg (vc (mn a b))),
  .box 24 8,
  .box 24 8,
  .put 8 24 (vc (mx a b)),
  .put 9 24 (vc (mn a b))]
def fl2 (a b c : Vec) : List Fa := [.eq (.agg (vc (mx a b))),
  .eq (.agg (vc a)),
  .eq (.bool true),
  .eq (.bool false),
  .eq (.bool false),
  .eq (.agg (vc (mx a b))),
  .eq (.agg (vc b)),
  .eq (.bool true),
  .eq (.bool false),
  .eq (.bool false),
  .eq (.bool false),
  .eq (.agg (vc a)),
  .eq (.agg (vc (mn a b))),
  .eq (.bool true),
  .eq (.bool false),
  .eq (.bool false),
  .eq (.bool false),
  .eq (.agg (vc b)),
  .eq (.agg (vc (mn a b))),
  .eq (.bool true),
  .eq (.bool false),
  .eq (.bool false),
  .eq (.bool false),
  .eq (.agg (vc b)),
  .eq (.agg (vc a)),
  .row 24 2 (flatV [b, a]).toArray,
  .eq (.agg (vc (mx b a))),
  .eq (.agg (vc (mx a b))),
  .eq (.bool false),
  .eq (.bool false),
  .eq (.bool false),
  .eq (.agg (vc b)),
  .eq (.agg (vc a)),
  .row 24 2 (flatV [b, a]).toArray,
  .eq (.agg (vc (mn b a))),
  .eq (.agg (vc (mn a b))),
  .eq (.bool false),
  .eq (.bool false),
  .eq (.bool false),
  .eq (.agg (vc a)),
  .eq (.agg (vc (mn a b))),
  .row 24 2 (flatV [a, (mn a b)]).toArray,
  .eq (.agg (vc (mx a (mn a b)))),
  .eq (.agg (vc a)),
  .eq (.bool false),
  .eq (.bool false),
  .eq (.bool false),
  .eq (.agg (vc a)),
  .eq (.agg (vc (mx a b))),
  .row 24 2 (flatV [a, (mx a b)]).toArray,
  .eq (.agg (vc (mn a (mx a b)))),
  .eq (.agg (vc a)),
  .eq (.bool false),
  .eq (.bool false)]
def fl6 (a b c : Vec) : List Fa := [.eq (.agg (vc (mx a b))),
  .eq (.agg (vc c)),
  .row 24 2 (flatV [(mx a b), c]).toArray,
  .eq (.agg (vc (mx (mx a b) c))),
  .eq (.agg (vc a)),
  .eq (.agg (vc b)),
  .eq (.agg (vc c)),
  .row 24 3 (flatV [a, b, c]).toArray,
  .eq (.agg (vc (mx (mx a b) c))),
  .eq (.bool true),
  .eq (.bool true),
  .eq (.agg (vc a)),
  .eq (.agg (vc b)),
  .eq (.agg (vc c)),
  .row 24 2 (flatV [b, c]).toArray,
  .eq (.agg (vc (mx b c))),
  .row 24 2 (flatV [a, (mx b c)]).toArray,
  .eq (.agg (vc (mx a (mx b c)))),
  .eq (.agg (vc (mx a b))),
  .eq (.agg (vc c)),
  .row 24 2 (flatV [(mx a b), c]).toArray,
  .eq (.agg (vc (mx (mx a b) c))),
  .eq (.bool true),
  .eq (.bool true),
  .eq (.bool true),
  .eq (.agg (vc (mn a b))),
  .eq (.agg (vc c)),
  .row 24 2 (flatV [(mn a b), c]).toArray,
  .eq (.agg (vc (mn (mn a b) c))),
  .eq (.agg (vc a)),
  .eq (.agg (vc b)),
  .eq (.agg (vc c)),
  .row 24 3 (flatV [a, b, c]).toArray,
  .eq (.agg (vc (mn (mn a b) c))),
  .eq (.bool true),
  .eq (.bool true),
  .eq (.bool true),
  .eq (.agg (vc a)),
  .eq (.agg (vc b)),
  .eq (.bool (aboveB a b)),
  .eq (.agg (vc (mx a b))),
  .eq (.agg (vc a)),
  .eq (.bool (aboveB a b)),
  .eq (.bool true),
  .eq (.bool true),
  .eq (.bool true),
  .eq (.bool true),
  .eq (.bool true),
  .eq (.bool true)]
theorem fits1 (a b c : Vec) : FitsOK tg1 (fl1 a b c) 0 :=
  ⟨trivial, trivial, fun k => tg1_ne (by decide) (by decide), trivial, trivial, trivial, fun k => tg1_ne (by decide) (by decide), trivial, trivial, trivial, fun k h => tg1_8 h, fun k h => tg1_9 h, trivial⟩
theorem below_next {A B C : World} (h : Below A.heap.size A B) (k : Below B.heap.size B C) : Below A.heap.size A C := h.trans (k.mono h.size)
structure Bx (w W : World) (a b c : Vec) (g7 g8 : Nat) : Prop where
  k0 : W.heap[w.heap.size]? = some (.cells (vc a) 24 (0, 0))
  k1 : W.heap[w.heap.size + 1]? = some (.cells (vc b) 24 (0, 0))
  k2 : W.heap[w.heap.size + 1 + 1]? = some (.cells (vc c) 24 (0, 0))
  k7 : W.heap[g7]? = some (.cells (vc (mx a b)) 24 (0, 0))
  k8 : W.heap[g8]? = some (.cells (vc (mn a b)) 24 (0, 0))
  below : Below w.heap.size w W
theorem Bx.keep {w W W' : World} {a b c : Vec} {g7 g8 : Nat} (h : Bx w W a b c g7 g8) (hb : Below W.heap.size W W') : Bx w W' a b c g7 g8 :=
  ⟨heap_keep h.k0 hb, heap_keep h.k1 hb, heap_keep h.k2 hb, heap_keep h.k7 hb, heap_keep h.k8 hb, below_next h.below hb⟩
theorem load_vec {ops : Array Oper} {rest : List Oper} {c : Oper} {a : Act} {w : World} {Q : Exit → Act → World → Prop} (x : Operand) (ho : c.op = .load 24 x) (hw : Region.wanted c (yielded ops a.tmps) = true)
    (g : Nat) (hx : a.eval x = .pointer (some ⟨g, 0, none⟩)) (v : Vec) (hg : w.heap[g]? = some (.cells (vc v) 24 (0, 0)))
    (h : wpList Try.prog ops Q rest (a.put c.dst (.agg (vc v))) w) : wpList Try.prog ops Q (c :: rest) a w :=
  BigFrame.wpList_want hw fun _ hK => wp_load_row 24 x ho g hx _ _ _ _ hg Try.underlying24 rfl (sizeV v) (hK _ _ h)
theorem ab_call {x y : Vec} {p : Bool} (h : aboveB x y = p) (W : World) : Calls Try.prog 14 #[.agg (vc x), .agg (vc y)] W fun e w' => e = .returned (.bool p) ∧ Below W.heap.size W w' := h ▸ vec_Above x y W

set_option maxHeartbeats 2000000 in
theorem law_VectorLeast (hhead : HeadOk) (a b c : Vec) (w : World) (ha : okV a) (hb : okV b) (hc : okV c) :
    Calls Try.prog 5 #[.agg #[.int .u32 (a 0 : Int), .int .u32 (a 1 : Int), .int .u32 (a 2 : Int), .int .u32 (a 3 : Int), .int .u32 (a 4 : Int), .int .u32 (a 5 : Int), .int .u32 (a 6 : Int), .int .u32 (a 7 : Int)], .agg #[.int .u32 (b 0 : Int), .int .u32 (b 1 : Int), .int .u32 (b 2 : Int), .int .u32 (b 3 : Int), .int .u32 (b 4 : Int), .int .u32 (b 5 : Int), .int .u32 (b 6 : Int), .int .u32 (b 7 : Int)], .agg #[.int .u32 (c 0 : Int), .int .u32 (c 1 : Int), .int .u32 (c 2 : Int), .int .u32 (c 3 : Int), .int .u32 (c 4 : Int), .int .u32 (c 5 : Int), .int .u32 (c 6 : Int), .int .u32 (c 7 : Int)]] w fun e w' => e = .returned (.bool true) ∧ Below w.heap.size w w' := by
  have HB0 := hid (below_al3 w (.cells #[.int .u32 (a 0 : Int), .int .u32 (a 1 : Int), .int .u32 (a 2 : Int), .int .u32 (a 3 : Int), .int .u32 (a 4 : Int), .int .u32 (a 5 : Int), .int .u32 (a 6 : Int), .int .u32 (a 7 : Int)] 24) (.cells #[.int .u32 (b 0 : Int), .int .u32 (b 1 : Int), .int .u32 (b 2 : Int), .int .u32 (b 3 : Int), .int .u32 (b 4 : Int), .int .u32 (b 5 : Int), .int .u32 (b 6 : Int), .int .u32 (b 7 : Int)] 24) (.cells #[.int .u32 (c 0 : Int), .int .u32 (c 1 : Int), .int .u32 (c 2 : Int), .int .u32 (c 3 : Int), .int .u32 (c 4 : Int), .int .u32 (c 5 : Int), .int .u32 (c 6 : Int), .int .u32 (c 7 : Int)] 24))
  have K0 := hid (show (((w.alloc (.cells #[.int .u32 (a 0 : Int), .int .u32 (a 1 : Int), .int .u32 (a 2 : Int), .int .u32 (a 3 : Int), .int .u32 (a 4 : Int), .int .u32 (a 5 : Int), .int .u32 (a 6 : Int), .int .u32 (a 7 : Int)] 24)).alloc (.cells #[.int .u32 (b 0 : Int), .int .u32 (b 1 : Int), .int .u32 (b 2 : Int), .int .u32 (b 3 : Int), .int .u32 (b 4 : Int), .int .u32 (b 5 : Int), .int .u32 (b 6 : Int), .int .u32 (b 7 : Int)] 24)).alloc (.cells #[.int .u32 (c 0 : Int), .int .u32 (c 1 : Int), .int .u32 (c 2 : Int), .int .u32 (c 3 : Int), .int .u32 (c 4 : Int), .int .u32 (c 5 : Int), .int .u32 (c 6 : Int), .int .u32 (c 7 : Int)] 24)).heap[w.heap.size]? = some (.cells (vc a) 24 (0, 0)) from heap_al (heap_al (heap_alloc_last' _ _) _) _)
  have K1 := hid (show (((w.alloc (.cells #[.int .u32 (a 0 : Int), .int .u32 (a 1 : Int), .int .u32 (a 2 : Int), .int .u32 (a 3 : Int), .int .u32 (a 4 : Int), .int .u32 (a 5 : Int), .int .u32 (a 6 : Int), .int .u32 (a 7 : Int)] 24)).alloc (.cells #[.int .u32 (b 0 : Int), .int .u32 (b 1 : Int), .int .u32 (b 2 : Int), .int .u32 (b 3 : Int), .int .u32 (b 4 : Int), .int .u32 (b 5 : Int), .int .u32 (b 6 : Int), .int .u32 (b 7 : Int)] 24)).alloc (.cells #[.int .u32 (c 0 : Int), .int .u32 (c 1 : Int), .int .u32 (c 2 : Int), .int .u32 (c 3 : Int), .int .u32 (c 4 : Int), .int .u32 (c 5 : Int), .int .u32 (c 6 : Int), .int .u32 (c 7 : Int)] 24)).heap[w.heap.size + 1]? = some (.cells (vc b) 24 (0, 0)) from heap_al (last2 _ _ _) _)
  have K2 := hid (show (((w.alloc (.cells #[.int .u32 (a 0 : Int), .int .u32 (a 1 : Int), .int .u32 (a 2 : Int), .int .u32 (a 3 : Int), .int .u32 (a 4 : Int), .int .u32 (a 5 : Int), .int .u32 (a 6 : Int), .int .u32 (a 7 : Int)] 24)).alloc (.cells #[.int .u32 (b 0 : Int), .int .u32 (b 1 : Int), .int .u32 (b 2 : Int), .int .u32 (b 3 : Int), .int .u32 (b 4 : Int), .int .u32 (b 5 : Int), .int .u32 (b 6 : Int), .int .u32 (b 7 : Int)] 24)).alloc (.cells #[.int .u32 (c 0 : Int), .int .u32 (c 1 : Int), .int .u32 (c 2 : Int), .int .u32 (c 3 : Int), .int .u32 (c 4 : Int), .int .u32 (c 5 : Int), .int .u32 (c 6 : Int), .int .u32 (c 7 : Int)] 24)).heap[w.heap.size + 1 + 1]? = some (.cells (vc c) 24 (0, 0)) from last3 _ _ _ _)
  go_enter Try.func5, Try.ntmps5
  go_upto_region 1 with (fail)
  generalize ((w.alloc (.cells #[.int .u32 (a 0 : Int), .int .u32 (a 1 : Int), .int .u32 (a 2 : Int), .int .u32 (a 3 : Int), .int .u32 (a 4 : Int), .int .u32 (a 5 : Int), .int .u32 (a 6 : Int), .int .u32 (a 7 : Int)] 24)).alloc (.cells #[.int .u32 (b 0 : Int), .int .u32 (b 1 : Int), .int .u32 (b 2 : Int), .int .u32 (b 3 : Int), .int .u32 (b 4 : Int), .int .u32 (b 5 : Int), .int .u32 (b 6 : Int), .int .u32 (b 7 : Int)] 24)).alloc (.cells #[.int .u32 (c 0 : Int), .int .u32 (c 1 : Int), .int .u32 (c 2 : Int), .int .u32 (c 3 : Int), .int .u32 (c 4 : Int), .int .u32 (c 5 : Int), .int .u32 (c 6 : Int), .int .u32 (c 7 : Int)] 24) = W at HB0 K0 K1 K2 ⊢
  refine wp_flow (tg1) (fl1 a b c) 149 (by kernel_rfl) rfl (by kernel_rfl) rfl (by kernel_rfl) ?_ ?_ ?_
  · exact fits1 a b c
  · refine ⟨?_, ?_, ?_, ?_, ?_, ?_, ?_, ?_, ?_, ?_, ?_, ?_, trivial⟩
    · exact v_load 3 w.heap.size a rfl rfl (by kernel_rfl) (True.intro) (by kernel_rfl) rfl K0.out
    · exact v_load 4 (w.heap.size + 1) b rfl rfl (by kernel_rfl) (True.intro) (by kernel_rfl) rfl K1.out
    · exact v_slice2 9 10 0 1 a b rfl rfl (by kernel_rfl) (True.intro) (by kernel_rfl) (by kernel_rfl) rfl (by kernel_rfl) (by kernel_rfl) rfl
    · exact v_call 11 2 _ [a, b] (mx a b) _ rfl fn_Merge (fun v W h => merge2 a b v W h) rfl (by kernel_rfl) (True.intro) (by kernel_rfl) (by kernel_rfl) rfl (ok2 ha hb) (by simp)
    · exact v_load 3 w.heap.size a rfl rfl (by kernel_rfl) (True.intro) (by kernel_rfl) rfl K0.out
    · exact v_load 4 (w.heap.size + 1) b rfl rfl (by kernel_rfl) (True.intro) (by kernel_rfl) rfl K1.out
    · exact v_slice2 13 14 4 5 a b rfl rfl (by kernel_rfl) (True.intro) (by kernel_rfl) (by kernel_rfl) rfl (by kernel_rfl) (by kernel_rfl) rfl
    · exact v_call 15 6 _ [a, b] (mn a b) _ rfl fn_Meet (fun v W h => meet2 a b v W h) rfl (by kernel_rfl) (True.intro) (by kernel_rfl) (by kernel_rfl) rfl (ok2 ha hb) (by simp)
    · exact v_box rfl rfl (by kernel_rfl) (True.intro)
    · exact v_box rfl rfl (by kernel_rfl) (True.intro)
    · exact v_put 7 12 3 8 (mx a b) rfl rfl rfl (True.intro) (by kernel_rfl) (by kernel_rfl) rfl (by kernel_rfl) (by kernel_rfl) rfl
    · exact v_put 8 16 7 9 (mn a b) rfl rfl rfl (True.intro) (by kernel_rfl) (by kernel_rfl) rfl (by kernel_rfl) (by kernel_rfl) rfl
  · intro o vs W1 hB1 hf
    obtain ⟨g7, e8, hg7, ho7, hu7, cs7, hc7, hs7⟩ := hf 8 (by decide)
    obtain ⟨g8, e9, hg8, ho8, hu8, cs8, hc8, hs8⟩ := hf 9 (by decide)
    obtain ⟨g7', hb7, ho7', hx7⟩ := hf 10 (by decide)
    obtain ⟨g8', hb8, ho8', hx8⟩ := hf 11 (by decide)
    obtain rfl : g7' = g7 := hu7 _ hb7 (lt_of_heap hx7) ho7'
    obtain rfl : g8' = g8 := hu8 _ hb8 (lt_of_heap hx8) ho8'
    have HX := hid (show Bx w W1 a b c g7' g8' from ⟨heap_keep K0.out hB1, heap_keep K1.out hB1, heap_keep K2.out hB1, hx7, hx8, below_next HB0.out hB1⟩)
    clear hg7 ho7 hu7 hc7 hs7 hg8 ho8 hu8 hc8 hs8 hb7 ho7' hx7 hb8 ho8' hx8 hB1 K0 K1 K2 HB0
    have e0 : vs 0 = .agg (vc a) := hf 0 (by decide)
    have e1 : vs 1 = .agg (vc b) := hf 1 (by decide)
    have e3 : vs 3 = .agg (vc (mx a b)) := hf 3 (by decide)
    have e4 : vs 4 = .agg (vc a) := hf 4 (by decide)
    have e5 : vs 5 = .agg (vc b) := hf 5 (by decide)
    have e7 : vs 7 = .agg (vc (mn a b)) := hf 7 (by decide)
    simp only [fill, List.setIfInBounds_toArray, List.set_cons_zero, List.set_cons_succ, e0, e1, e3, e4, e5, e7, e8, e9]
    clear e0 e1 e3 e4 e5 e7 e8 e9
    clear hf
    generalize g7' = g7 at *
    generalize g8' = g8 at *
    generalize vs 2 = s2
    generalize vs 6 = s6
    go_upto_region 2 with (fail)
    refine wp_flow (fun _ => none) (fl2 a b c) 149 (by kernel_rfl) rfl (by kernel_rfl) rfl (by kernel_rfl) ?_ ?_ ?_
    · exact fits_plain _ _ (by rfl)
    · refine ⟨?_, ?_, ?_, ?_, ?_, ?_, ?_, ?_, ?_, ?_, ?_, ?_, ?_, ?_, ?_, ?_, ?_, ?_, ?_, ?_, ?_, ?_, ?_, ?_, ?_, ?_, ?_, ?_, ?_, ?_, ?_, ?_, ?_, ?_, ?_, ?_, ?_, ?_, ?_, ?_, ?_, ?_, ?_, ?_, ?_, ?_, ?_, ?_, ?_, ?_, ?_, ?_, ?_, ?_, trivial⟩
      · exact v_load 7 g7 (mx a b) rfl rfl (by kernel_rfl) (True.intro) (by kernel_rfl) rfl HX.out.k7
      · exact v_load 3 w.heap.size a rfl rfl (by kernel_rfl) (True.intro) (by kernel_rfl) rfl HX.out.k0
      · exact v_above 17 18 0 1 (mx a b) a true _ rfl (above_mx1 a b) rfl (by kernel_rfl) (True.intro) (by kernel_rfl) (by kernel_rfl) rfl (by kernel_rfl) (by kernel_rfl) rfl
      · exact v_not 19 2 true rfl rfl (by kernel_rfl) (True.intro) (by kernel_rfl) (by kernel_rfl) rfl
      · exact v_move 20 3 (.bool false) (.inl rfl) rfl (by kernel_rfl) (True.intro) (by kernel_rfl) (by kernel_rfl) rfl
      · exact v_load 7 g7 (mx a b) rfl rfl (by kernel_rfl) ⟨rfl, by kernel_rfl, by kernel_rfl⟩ (by kernel_rfl) rfl HX.out.k7
      · exact v_load 4 (w.heap.size + 1) b rfl rfl (by kernel_rfl) ⟨rfl, by kernel_rfl, by kernel_rfl⟩ (by kernel_rfl) rfl HX.out.k1
      · exact v_above 22 23 5 6 (mx a b) b true _ rfl (above_mx2 a b) rfl (by kernel_rfl) ⟨rfl, by kernel_rfl, by kernel_rfl⟩ (by kernel_rfl) (by kernel_rfl) rfl (by kernel_rfl) (by kernel_rfl) rfl
      · exact v_not 24 7 true rfl rfl (by kernel_rfl) ⟨rfl, by kernel_rfl, by kernel_rfl⟩ (by kernel_rfl) (by kernel_rfl) rfl
      · exact v_or 21 4 25 8 false rfl rfl (by kernel_rfl) (True.intro) (by kernel_rfl) (by kernel_rfl) rfl (by kernel_rfl) (by kernel_rfl) rfl
      · exact v_move 26 9 (.bool false) (.inl rfl) rfl (by kernel_rfl) (True.intro) (by kernel_rfl) (by kernel_rfl) rfl
      · exact v_load 3 w.heap.size a rfl rfl (by kernel_rfl) ⟨rfl, by kernel_rfl, by kernel_rfl⟩ (by kernel_rfl) rfl HX.out.k0
      · exact v_load 8 g8 (mn a b) rfl rfl (by kernel_rfl) ⟨rfl, by kernel_rfl, by kernel_rfl⟩ (by kernel_rfl) rfl HX.out.k8
      · exact v_above 28 29 11 12 a (mn a b) true _ rfl (above_mn1 a b) rfl (by kernel_rfl) ⟨rfl, by kernel_rfl, by kernel_rfl⟩ (by kernel_rfl) (by kernel_rfl) rfl (by kernel_rfl) (by kernel_rfl) rfl
      · exact v_not 30 13 true rfl rfl (by kernel_rfl) ⟨rfl, by kernel_rfl, by kernel_rfl⟩ (by kernel_rfl) (by kernel_rfl) rfl
      · exact v_or 27 10 31 14 false rfl rfl (by kernel_rfl) (True.intro) (by kernel_rfl) (by kernel_rfl) rfl (by kernel_rfl) (by kernel_rfl) rfl
      · exact v_move 32 15 (.bool false) (.inl rfl) rfl (by kernel_rfl) (True.intro) (by kernel_rfl) (by kernel_rfl) rfl
      · exact v_load 4 (w.heap.size + 1) b rfl rfl (by kernel_rfl) ⟨rfl, by kernel_rfl, by kernel_rfl⟩ (by kernel_rfl) rfl HX.out.k1
      · exact v_load 8 g8 (mn a b) rfl rfl (by kernel_rfl) ⟨rfl, by kernel_rfl, by kernel_rfl⟩ (by kernel_rfl) rfl HX.out.k8
      · exact v_above 34 35 17 18 b (mn a b) true _ rfl (above_mn2 a b) rfl (by kernel_rfl) ⟨rfl, by kernel_rfl, by kernel_rfl⟩ (by kernel_rfl) (by kernel_rfl) rfl (by kernel_rfl) (by kernel_rfl) rfl
      · exact v_not 36 19 true rfl rfl (by kernel_rfl) ⟨rfl, by kernel_rfl, by kernel_rfl⟩ (by kernel_rfl) (by kernel_rfl) rfl
      · exact v_or 33 16 37 20 false rfl rfl (by kernel_rfl) (True.intro) (by kernel_rfl) (by kernel_rfl) rfl (by kernel_rfl) (by kernel_rfl) rfl
      · exact v_move 38 21 (.bool false) (.inl rfl) rfl (by kernel_rfl) (True.intro) (by kernel_rfl) (by kernel_rfl) rfl
      · exact v_load 4 (w.heap.size + 1) b rfl rfl (by kernel_rfl) ⟨rfl, by kernel_rfl, by kernel_rfl⟩ (by kernel_rfl) rfl HX.out.k1
      · exact v_load 3 w.heap.size a rfl rfl (by kernel_rfl) ⟨rfl, by kernel_rfl, by kernel_rfl⟩ (by kernel_rfl) rfl HX.out.k0
      · exact v_slice2 40 41 23 24 b a rfl rfl (by kernel_rfl) ⟨rfl, by kernel_rfl, by kernel_rfl⟩ (by kernel_rfl) (by kernel_rfl) rfl (by kernel_rfl) (by kernel_rfl) rfl
      · exact v_call 42 25 _ [b, a] (mx b a) _ rfl fn_Merge (fun v W h => merge2 b a v W h) rfl (by kernel_rfl) ⟨rfl, by kernel_rfl, by kernel_rfl⟩ (by kernel_rfl) (by kernel_rfl) rfl (ok2 hb ha) (by simp)
      · exact v_load 7 g7 (mx a b) rfl rfl (by kernel_rfl) ⟨rfl, by kernel_rfl, by kernel_rfl⟩ (by kernel_rfl) rfl HX.out.k7
      · exact v_neq 43 26 44 27 (mx b a) (mx a b) true _ rfl ((by rw [mx_comm]; exact eqV_refl _)) rfl (by kernel_rfl) ⟨rfl, by kernel_rfl, by kernel_rfl⟩ (by kernel_rfl) (by kernel_rfl) rfl (by kernel_rfl) (by kernel_rfl) rfl
      · exact v_or 39 22 45 28 false rfl rfl (by kernel_rfl) (True.intro) (by kernel_rfl) (by kernel_rfl) rfl (by kernel_rfl) (by kernel_rfl) rfl
      · exact v_move 46 29 (.bool false) (.inl rfl) rfl (by kernel_rfl) (True.intro) (by kernel_rfl) (by kernel_rfl) rfl
      · exact v_load 4 (w.heap.size + 1) b rfl rfl (by kernel_rfl) ⟨rfl, by kernel_rfl, by kernel_rfl⟩ (by kernel_rfl) rfl HX.out.k1
      · exact v_load 3 w.heap.size a rfl rfl (by kernel_rfl) ⟨rfl, by kernel_rfl, by kernel_rfl⟩ (by kernel_rfl) rfl HX.out.k0
      · exact v_slice2 48 49 31 32 b a rfl rfl (by kernel_rfl) ⟨rfl, by kernel_rfl, by kernel_rfl⟩ (by kernel_rfl) (by kernel_rfl) rfl (by kernel_rfl) (by kernel_rfl) rfl
      · exact v_call 50 33 _ [b, a] (mn b a) _ rfl fn_Meet (fun v W h => meet2 b a v W h) rfl (by kernel_rfl) ⟨rfl, by kernel_rfl, by kernel_rfl⟩ (by kernel_rfl) (by kernel_rfl) rfl (ok2 hb ha) (by simp)
      · exact v_load 8 g8 (mn a b) rfl rfl (by kernel_rfl) ⟨rfl, by kernel_rfl, by kernel_rfl⟩ (by kernel_rfl) rfl HX.out.k8
      · exact v_neq 51 34 52 35 (mn b a) (mn a b) true _ rfl ((by rw [mn_comm]; exact eqV_refl _)) rfl (by kernel_rfl) ⟨rfl, by kernel_rfl, by kernel_rfl⟩ (by kernel_rfl) (by kernel_rfl) rfl (by kernel_rfl) (by kernel_rfl) rfl
      · exact v_or 47 30 53 36 false rfl rfl (by kernel_rfl) (True.intro) (by kernel_rfl) (by kernel_rfl) rfl (by kernel_rfl) (by kernel_rfl) rfl
      · exact v_move 54 37 (.bool false) (.inl rfl) rfl (by kernel_rfl) (True.intro) (by kernel_rfl) (by kernel_rfl) rfl
      · exact v_load 3 w.heap.size a rfl rfl (by kernel_rfl) ⟨rfl, by kernel_rfl, by kernel_rfl⟩ (by kernel_rfl) rfl HX.out.k0
      · exact v_load 8 g8 (mn a b) rfl rfl (by kernel_rfl) ⟨rfl, by kernel_rfl, by kernel_rfl⟩ (by kernel_rfl) rfl HX.out.k8
      · exact v_slice2 56 57 39 40 a (mn a b) rfl rfl (by kernel_rfl) ⟨rfl, by kernel_rfl, by kernel_rfl⟩ (by kernel_rfl) (by kernel_rfl) rfl (by kernel_rfl) (by kernel_rfl) rfl
      · exact v_call 58 41 _ [a, (mn a b)] (mx a (mn a b)) _ rfl fn_Merge (fun v W h => merge2 a (mn a b) v W h) rfl (by kernel_rfl) ⟨rfl, by kernel_rfl, by kernel_rfl⟩ (by kernel_rfl) (by kernel_rfl) rfl (ok2 ha (ok_mn ha hb)) (by simp)
      · exact v_load 3 w.heap.size a rfl rfl (by kernel_rfl) ⟨rfl, by kernel_rfl, by kernel_rfl⟩ (by kernel_rfl) rfl HX.out.k0
      · exact v_neq 59 42 60 43 (mx a (mn a b)) a true _ rfl ((by rw [mx_mn]; exact eqV_refl _)) rfl (by kernel_rfl) ⟨rfl, by kernel_rfl, by kernel_rfl⟩ (by kernel_rfl) (by kernel_rfl) rfl (by kernel_rfl) (by kernel_rfl) rfl
      · exact v_or 55 38 61 44 false rfl rfl (by kernel_rfl) (True.intro) (by kernel_rfl) (by kernel_rfl) rfl (by kernel_rfl) (by kernel_rfl) rfl
      · exact v_move 62 45 (.bool false) (.inl rfl) rfl (by kernel_rfl) (True.intro) (by kernel_rfl) (by kernel_rfl) rfl
      · exact v_load 3 w.heap.size a rfl rfl (by kernel_rfl) ⟨rfl, by kernel_rfl, by kernel_rfl⟩ (by kernel_rfl) rfl HX.out.k0
      · exact v_load 7 g7 (mx a b) rfl rfl (by kernel_rfl) ⟨rfl, by kernel_rfl, by kernel_rfl⟩ (by kernel_rfl) rfl HX.out.k7
      · exact v_slice2 64 65 47 48 a (mx a b) rfl rfl (by kernel_rfl) ⟨rfl, by kernel_rfl, by kernel_rfl⟩ (by kernel_rfl) (by kernel_rfl) rfl (by kernel_rfl) (by kernel_rfl) rfl
      · exact v_call 66 49 _ [a, (mx a b)] (mn a (mx a b)) _ rfl fn_Meet (fun v W h => meet2 a (mx a b) v W h) rfl (by kernel_rfl) ⟨rfl, by kernel_rfl, by kernel_rfl⟩ (by kernel_rfl) (by kernel_rfl) rfl (ok2 ha (ok_mx ha hb)) (by simp)
      · exact v_load 3 w.heap.size a rfl rfl (by kernel_rfl) ⟨rfl, by kernel_rfl, by kernel_rfl⟩ (by kernel_rfl) rfl HX.out.k0
      · exact v_neq 67 50 68 51 (mn a (mx a b)) a true _ rfl ((by rw [mn_mx]; exact eqV_refl _)) rfl (by kernel_rfl) ⟨rfl, by kernel_rfl, by kernel_rfl⟩ (by kernel_rfl) (by kernel_rfl) rfl (by kernel_rfl) (by kernel_rfl) rfl
      · exact v_or 63 46 69 52 false rfl rfl (by kernel_rfl) (True.intro) (by kernel_rfl) (by kernel_rfl) rfl (by kernel_rfl) (by kernel_rfl) rfl
    · intro o vs W2 hB2 hf
      have HX := hid (HX.out.keep hB2)
      clear hB2
      have e0 : vs 0 = .agg (vc (mx a b)) := hf 0 (by decide)
      have e1 : vs 1 = .agg (vc a) := hf 1 (by decide)
      have e2 : vs 2 = .bool true := hf 2 (by decide)
      have e3 : vs 3 = .bool false := hf 3 (by decide)
      have e4 : vs 4 = .bool false := hf 4 (by decide)
      have e5 : vs 5 = .agg (vc (mx a b)) := hf 5 (by decide)
      have e6 : vs 6 = .agg (vc b) := hf 6 (by decide)
      have e7 : vs 7 = .bool true := hf 7 (by decide)
      have e8 : vs 8 = .bool false := hf 8 (by decide)
      have e9 : vs 9 = .bool false := hf 9 (by decide)
      have e10 : vs 10 = .bool false := hf 10 (by decide)
      have e11 : vs 11 = .agg (vc a) := hf 11 (by decide)
      have e12 : vs 12 = .agg (vc (mn a b)) := hf 12 (by decide)
      have e13 : vs 13 = .bool true := hf 13 (by decide)
      have e14 : vs 14 = .bool false := hf 14 (by decide)
      have e15 : vs 15 = .bool false := hf 15 (by decide)
      have e16 : vs 16 = .bool false := hf 16 (by decide)
      have e17 : vs 17 = .agg (vc b) := hf 17 (by decide)
      have e18 : vs 18 = .agg (vc (mn a b)) := hf 18 (by decide)
      have e19 : vs 19 = .bool true := hf 19 (by decide)
      have e20 : vs 20 = .bool false := hf 20 (by decide)
      have e21 : vs 21 = .bool false := hf 21 (by decide)
      have e22 : vs 22 = .bool false := hf 22 (by decide)
      have e23 : vs 23 = .agg (vc b) := hf 23 (by decide)
      have e24 : vs 24 = .agg (vc a) := hf 24 (by decide)
      have e26 : vs 26 = .agg (vc (mx b a)) := hf 26 (by decide)
      have e27 : vs 27 = .agg (vc (mx a b)) := hf 27 (by decide)
      have e28 : vs 28 = .bool false := hf 28 (by decide)
      have e29 : vs 29 = .bool false := hf 29 (by decide)
      have e30 : vs 30 = .bool false := hf 30 (by decide)
      have e31 : vs 31 = .agg (vc b) := hf 31 (by decide)
      have e32 : vs 32 = .agg (vc a) := hf 32 (by decide)
      have e34 : vs 34 = .agg (vc (mn b a)) := hf 34 (by decide)
      have e35 : vs 35 = .agg (vc (mn a b)) := hf 35 (by decide)
      have e36 : vs 36 = .bool false := hf 36 (by decide)
      have e37 : vs 37 = .bool false := hf 37 (by decide)
      have e38 : vs 38 = .bool false := hf 38 (by decide)
      have e39 : vs 39 = .agg (vc a) := hf 39 (by decide)
      have e40 : vs 40 = .agg (vc (mn a b)) := hf 40 (by decide)
      have e42 : vs 42 = .agg (vc (mx a (mn a b))) := hf 42 (by decide)
      have e43 : vs 43 = .agg (vc a) := hf 43 (by decide)
      have e44 : vs 44 = .bool false := hf 44 (by decide)
      have e45 : vs 45 = .bool false := hf 45 (by decide)
      have e46 : vs 46 = .bool false := hf 46 (by decide)
      have e47 : vs 47 = .agg (vc a) := hf 47 (by decide)
      have e48 : vs 48 = .agg (vc (mx a b)) := hf 48 (by decide)
      have e50 : vs 50 = .agg (vc (mn a (mx a b))) := hf 50 (by decide)
      have e51 : vs 51 = .agg (vc a) := hf 51 (by decide)
      have e52 : vs 52 = .bool false := hf 52 (by decide)
      have e53 : vs 53 = .bool false := hf 53 (by decide)
      simp only [fill, List.setIfInBounds_toArray, List.set_cons_zero, List.set_cons_succ, e0, e1, e2, e3, e4, e5, e6, e7, e8, e9, e10, e11, e12, e13, e14, e15, e16, e17, e18, e19, e20, e21, e22, e23, e24, e26, e27, e28, e29, e30, e31, e32, e34, e35, e36, e37, e38, e39, e40, e42, e43, e44, e45, e46, e47, e48, e50, e51, e52, e53]
      clear e0 e1 e2 e3 e4 e5 e6 e7 e8 e9 e10 e11 e12 e13 e14 e15 e16 e17 e18 e19 e20 e21 e22 e23 e24 e26 e27 e28 e29 e30 e31 e32 e34 e35 e36 e37 e38 e39 e40 e42 e43 e44 e45 e46 e47 e48 e50 e51 e52 e53
      clear hf
      generalize vs 26 = s26
      generalize vs 34 = s34
      generalize vs 42 = s42
      generalize vs 50 = s50
      obtain ⟨p, hp⟩ : ∃ p, aboveB c a = p := ⟨_, rfl⟩
      obtain ⟨q, hq⟩ : ∃ p, aboveB c b = p := ⟨_, rfl⟩
      obtain ⟨r, hr⟩ : ∃ p, aboveB a c = p := ⟨_, rfl⟩
      obtain ⟨t, ht⟩ : ∃ p, aboveB b c = p := ⟨_, rfl⟩
      obtain ⟨u, hu⟩ : ∃ p, aboveB c (mx a b) = p := ⟨_, rfl⟩
      obtain ⟨y, hy⟩ : ∃ p, aboveB (mn a b) c = p := ⟨_, rfl⟩
      have hpq : p = true → q = true → u = true := fun h1 h2 => hu ▸ above_least (hp.trans h1) (hq.trans h2)
      have hrt : r = true → t = true → y = true := fun h1 h2 => hy ▸ above_most (hr.trans h1) (ht.trans h2)
      go_upto_region 4 with (fail)
      have h1 : p = false ∨ (p = true ∧ q = false) ∨ (p = true ∧ q = true ∧ u = true) := by cases p <;> cases q <;> simp_all
      have h2 : r = false ∨ (r = true ∧ t = false) ∨ (r = true ∧ t = true ∧ y = true) := by cases r <;> cases t <;> simp_all
      clear hpq hrt
      rcases h1 with rfl | ⟨rfl, rfl⟩ | ⟨rfl, rfl, rfl⟩ <;> rcases h2 with rfl | ⟨rfl, rfl⟩ | ⟨rfl, rfl, rfl⟩
      refine wp_text (fun _ => none) [.eq (.agg (vc c)), .eq (.agg (vc a)), .eq (.bool false), .eq (.bool false), .eq undef, .eq undef, .eq undef, .eq (.bool false), .eq (.bool false), .eq undef, .eq undef, .eq undef, .eq undef, .eq (.bool false), .eq (.bool false), .eq (.agg (vc a)), .eq (.agg (vc c)), .eq (.bool false), .eq (.bool false), .eq undef, .eq undef, .eq undef, .eq (.bool false), .eq (.bool false), .eq undef, .eq undef, .eq undef, .eq undef, .eq (.bool false), .eq (.bool false)] 149 rfl (by kernel_rfl) rfl (by kernel_rfl) (fits_plain _ _ (by rfl)) ?_ ?_
      · refine ⟨?_, ?_, ?_, ?_, ?_, ?_, ?_, ?_, ?_, ?_, ?_, ?_, ?_, ?_, ?_, ?_, ?_, ?_, ?_, ?_, ?_, ?_, ?_, ?_, ?_, ?_, ?_, ?_, ?_, ?_, trivial⟩
        · exact v_load 5 (w.heap.size + 1 + 1) c rfl rfl (by kernel_rfl) (True.intro) (by kernel_rfl) rfl HX.out.k2
        · exact v_load 3 w.heap.size a rfl rfl (by kernel_rfl) (True.intro) (by kernel_rfl) rfl HX.out.k0
        · exact v_above 71 72 0 1 c a false _ rfl (hp) rfl (by kernel_rfl) (True.intro) (by kernel_rfl) (by kernel_rfl) rfl (by kernel_rfl) (by kernel_rfl) rfl
        · exact v_move 73 2 (.bool false) (.inl rfl) rfl (by kernel_rfl) (True.intro) (by kernel_rfl) (by kernel_rfl) rfl
        · exact flow_skip 3 true (.bool false) rfl rfl (by kernel_rfl) rfl (fun h => by cases h)
        · exact flow_skip 3 true (.bool false) rfl rfl (by kernel_rfl) rfl (fun h => by cases h)
        · exact flow_skip 3 true (.bool false) rfl rfl (by kernel_rfl) rfl (fun h => by cases h)
        · exact v_andF 74 3 _ rfl rfl (by kernel_rfl) (True.intro) (by kernel_rfl) (by kernel_rfl) rfl
        · exact v_move 78 7 (.bool false) (.inl rfl) rfl (by kernel_rfl) (True.intro) (by kernel_rfl) (by kernel_rfl) rfl
        · exact flow_skip 8 true (.bool false) rfl rfl (by kernel_rfl) rfl (fun h => by cases h)
        · exact flow_skip 8 true (.bool false) rfl rfl (by kernel_rfl) rfl (fun h => by cases h)
        · exact flow_skip 8 true (.bool false) rfl rfl (by kernel_rfl) rfl (fun h => by cases h)
        · exact flow_skip 8 true (.bool false) rfl rfl (by kernel_rfl) rfl (fun h => by cases h)
        · exact v_andF 79 8 _ rfl rfl (by kernel_rfl) (True.intro) (by kernel_rfl) (by kernel_rfl) rfl
        · exact v_move 84 13 (.bool false) (.inl rfl) rfl (by kernel_rfl) (True.intro) (by kernel_rfl) (by kernel_rfl) rfl
        · exact v_load 3 w.heap.size a rfl rfl (by kernel_rfl) ⟨rfl, by kernel_rfl, by kernel_rfl⟩ (by kernel_rfl) rfl HX.out.k0
        · exact v_load 5 (w.heap.size + 1 + 1) c rfl rfl (by kernel_rfl) ⟨rfl, by kernel_rfl, by kernel_rfl⟩ (by kernel_rfl) rfl HX.out.k2
        · exact v_above 86 87 15 16 a c false _ rfl (hr) rfl (by kernel_rfl) ⟨rfl, by kernel_rfl, by kernel_rfl⟩ (by kernel_rfl) (by kernel_rfl) rfl (by kernel_rfl) (by kernel_rfl) rfl
        · exact v_move 88 17 (.bool false) (.inl rfl) rfl (by kernel_rfl) ⟨rfl, by kernel_rfl, by kernel_rfl⟩ (by kernel_rfl) (by kernel_rfl) rfl
        · exact flow_skip 18 true (.bool false) rfl rfl (by kernel_rfl) rfl (fun h => by cases h)
        · exact flow_skip 18 true (.bool false) rfl rfl (by kernel_rfl) rfl (fun h => by cases h)
        · exact flow_skip 18 true (.bool false) rfl rfl (by kernel_rfl) rfl (fun h => by cases h)
        · exact v_andF 89 18 _ rfl rfl (by kernel_rfl) ⟨rfl, by kernel_rfl, by kernel_rfl⟩ (by kernel_rfl) (by kernel_rfl) rfl
        · exact v_move 93 22 (.bool false) (.inl rfl) rfl (by kernel_rfl) ⟨rfl, by kernel_rfl, by kernel_rfl⟩ (by kernel_rfl) (by kernel_rfl) rfl
        · exact flow_skip 23 true (.bool false) rfl rfl (by kernel_rfl) rfl (fun h => by cases h)
        · exact flow_skip 23 true (.bool false) rfl rfl (by kernel_rfl) rfl (fun h => by cases h)
        · exact flow_skip 23 true (.bool false) rfl rfl (by kernel_rfl) rfl (fun h => by cases h)
        · exact flow_skip 23 true (.bool false) rfl rfl (by kernel_rfl) rfl (fun h => by cases h)
        · exact v_andF 94 23 _ rfl rfl (by kernel_rfl) ⟨rfl, by kernel_rfl, by kernel_rfl⟩ (by kernel_rfl) (by kernel_rfl) rfl
        · exact v_or 85 14 99 28 false rfl rfl (by kernel_rfl) (True.intro) (by kernel_rfl) (by kernel_rfl) rfl (by kernel_rfl) (by kernel_rfl) rfl
      rotate_left
      refine wp_text (fun _ => none) [.eq (.agg (vc c)), .eq (.agg (vc a)), .eq (.bool false), .eq (.bool false), .eq undef, .eq undef, .eq undef, .eq (.bool false), .eq (.bool false), .eq undef, .eq undef, .eq undef, .eq undef, .eq (.bool false), .eq (.bool false), .eq (.agg (vc a)), .eq (.agg (vc c)), .eq (.bool true), .eq (.bool true), .eq (.agg (vc b)), .eq (.agg (vc c)), .eq (.bool false), .eq (.bool false), .eq (.bool false), .eq undef, .eq undef, .eq undef, .eq undef, .eq (.bool false), .eq (.bool false)] 149 rfl (by kernel_rfl) rfl (by kernel_rfl) (fits_plain _ _ (by rfl)) ?_ ?_
      · refine ⟨?_, ?_, ?_, ?_, ?_, ?_, ?_, ?_, ?_, ?_, ?_, ?_, ?_, ?_, ?_, ?_, ?_, ?_, ?_, ?_, ?_, ?_, ?_, ?_, ?_, ?_, ?_, ?_, ?_, ?_, trivial⟩
        · exact v_load 5 (w.heap.size + 1 + 1) c rfl rfl (by kernel_rfl) (True.intro) (by kernel_rfl) rfl HX.out.k2
        · exact v_load 3 w.heap.size a rfl rfl (by kernel_rfl) (True.intro) (by kernel_rfl) rfl HX.out.k0
        · exact v_above 71 72 0 1 c a false _ rfl (hp) rfl (by kernel_rfl) (True.intro) (by kernel_rfl) (by kernel_rfl) rfl (by kernel_rfl) (by kernel_rfl) rfl
        · exact v_move 73 2 (.bool false) (.inl rfl) rfl (by kernel_rfl) (True.intro) (by kernel_rfl) (by kernel_rfl) rfl
        · exact flow_skip 3 true (.bool false) rfl rfl (by kernel_rfl) rfl (fun h => by cases h)
        · exact flow_skip 3 true (.bool false) rfl rfl (by kernel_rfl) rfl (fun h => by cases h)
        · exact flow_skip 3 true (.bool false) rfl rfl (by kernel_rfl) rfl (fun h => by cases h)
        · exact v_andF 74 3 _ rfl rfl (by kernel_rfl) (True.intro) (by kernel_rfl) (by kernel_rfl) rfl
        · exact v_move 78 7 (.bool false) (.inl rfl) rfl (by kernel_rfl) (True.intro) (by kernel_rfl) (by kernel_rfl) rfl
        · exact flow_skip 8 true (.bool false) rfl rfl (by kernel_rfl) rfl (fun h => by cases h)
        · exact flow_skip 8 true (.bool false) rfl rfl (by kernel_rfl) rfl (fun h => by cases h)
        · exact flow_skip 8 true (.bool false) rfl rfl (by kernel_rfl) rfl (fun h => by cases h)
        · exact flow_skip 8 true (.bool false) rfl rfl (by kernel_rfl) rfl (fun h => by cases h)
        · exact v_andF 79 8 _ rfl rfl (by kernel_rfl) (True.intro) (by kernel_rfl) (by kernel_rfl) rfl
        · exact v_move 84 13 (.bool false) (.inl rfl) rfl (by kernel_rfl) (True.intro) (by kernel_rfl) (by kernel_rfl) rfl
        · exact v_load 3 w.heap.size a rfl rfl (by kernel_rfl) ⟨rfl, by kernel_rfl, by kernel_rfl⟩ (by kernel_rfl) rfl HX.out.k0
        · exact v_load 5 (w.heap.size + 1 + 1) c rfl rfl (by kernel_rfl) ⟨rfl, by kernel_rfl, by kernel_rfl⟩ (by kernel_rfl) rfl HX.out.k2
        · exact v_above 86 87 15 16 a c true _ rfl (hr) rfl (by kernel_rfl) ⟨rfl, by kernel_rfl, by kernel_rfl⟩ (by kernel_rfl) (by kernel_rfl) rfl (by kernel_rfl) (by kernel_rfl) rfl
        · exact v_move 88 17 (.bool true) (.inl rfl) rfl (by kernel_rfl) ⟨rfl, by kernel_rfl, by kernel_rfl⟩ (by kernel_rfl) (by kernel_rfl) rfl
        · exact v_load 4 (w.heap.size + 1) b rfl rfl (by kernel_rfl) ⟨rfl, by kernel_rfl, by kernel_rfl⟩ (by kernel_rfl) rfl HX.out.k1
        · exact v_load 5 (w.heap.size + 1 + 1) c rfl rfl (by kernel_rfl) ⟨rfl, by kernel_rfl, by kernel_rfl⟩ (by kernel_rfl) rfl HX.out.k2
        · exact v_above 90 91 19 20 b c false _ rfl (ht) rfl (by kernel_rfl) ⟨rfl, by kernel_rfl, by kernel_rfl⟩ (by kernel_rfl) (by kernel_rfl) rfl (by kernel_rfl) (by kernel_rfl) rfl
        · exact v_and 89 18 92 21 false rfl rfl (by kernel_rfl) ⟨rfl, by kernel_rfl, by kernel_rfl⟩ (by kernel_rfl) (by kernel_rfl) rfl (by kernel_rfl) (by kernel_rfl) rfl
        · exact v_move 93 22 (.bool false) (.inl rfl) rfl (by kernel_rfl) ⟨rfl, by kernel_rfl, by kernel_rfl⟩ (by kernel_rfl) (by kernel_rfl) rfl
        · exact flow_skip 23 true (.bool false) rfl rfl (by kernel_rfl) rfl (fun h => by cases h)
        · exact flow_skip 23 true (.bool false) rfl rfl (by kernel_rfl) rfl (fun h => by cases h)
        · exact flow_skip 23 true (.bool false) rfl rfl (by kernel_rfl) rfl (fun h => by cases h)
        · exact flow_skip 23 true (.bool false) rfl rfl (by kernel_rfl) rfl (fun h => by cases h)
        · exact v_andF 94 23 _ rfl rfl (by kernel_rfl) ⟨rfl, by kernel_rfl, by kernel_rfl⟩ (by kernel_rfl) (by kernel_rfl) rfl
        · exact v_or 85 14 99 28 false rfl rfl (by kernel_rfl) (True.intro) (by kernel_rfl) (by kernel_rfl) rfl (by kernel_rfl) (by kernel_rfl) rfl
      rotate_left
      refine wp_text (fun _ => none) [.eq (.agg (vc c)), .eq (.agg (vc a)), .eq (.bool false), .eq (.bool false), .eq undef, .eq undef, .eq undef, .eq (.bool false), .eq (.bool false), .eq undef, .eq undef, .eq undef, .eq undef, .eq (.bool false), .eq (.bool false), .eq (.agg (vc a)), .eq (.agg (vc c)), .eq (.bool true), .eq (.bool true), .eq (.agg (vc b)), .eq (.agg (vc c)), .eq (.bool true), .eq (.bool true), .eq (.bool true), .eq (.agg (vc (mn a b))), .eq (.agg (vc c)), .eq (.bool true), .eq (.bool false), .eq (.bool false), .eq (.bool false)] 149 rfl (by kernel_rfl) rfl (by kernel_rfl) (fits_plain _ _ (by rfl)) ?_ ?_
      · refine ⟨?_, ?_, ?_, ?_, ?_, ?_, ?_, ?_, ?_, ?_, ?_, ?_, ?_, ?_, ?_, ?_, ?_, ?_, ?_, ?_, ?_, ?_, ?_, ?_, ?_, ?_, ?_, ?_, ?_, ?_, trivial⟩
        · exact v_load 5 (w.heap.size + 1 + 1) c rfl rfl (by kernel_rfl) (True.intro) (by kernel_rfl) rfl HX.out.k2
        · exact v_load 3 w.heap.size a rfl rfl (by kernel_rfl) (True.intro) (by kernel_rfl) rfl HX.out.k0
        · exact v_above 71 72 0 1 c a false _ rfl (hp) rfl (by kernel_rfl) (True.intro) (by kernel_rfl) (by kernel_rfl) rfl (by kernel_rfl) (by kernel_rfl) rfl
        · exact v_move 73 2 (.bool false) (.inl rfl) rfl (by kernel_rfl) (True.intro) (by kernel_rfl) (by kernel_rfl) rfl
        · exact flow_skip 3 true (.bool false) rfl rfl (by kernel_rfl) rfl (fun h => by cases h)
        · exact flow_skip 3 true (.bool false) rfl rfl (by kernel_rfl) rfl (fun h => by cases h)
        · exact flow_skip 3 true (.bool false) rfl rfl (by kernel_rfl) rfl (fun h => by cases h)
        · exact v_andF 74 3 _ rfl rfl (by kernel_rfl) (True.intro) (by kernel_rfl) (by kernel_rfl) rfl
        · exact v_move 78 7 (.bool false) (.inl rfl) rfl (by kernel_rfl) (True.intro) (by kernel_rfl) (by kernel_rfl) rfl
        · exact flow_skip 8 true (.bool false) rfl rfl (by kernel_rfl) rfl (fun h => by cases h)
        · exact flow_skip 8 true (.bool false) rfl rfl (by kernel_rfl) rfl (fun h => by cases h)
        · exact flow_skip 8 true (.bool false) rfl rfl (by kernel_rfl) rfl (fun h => by cases h)
        · exact flow_skip 8 true (.bool false) rfl rfl (by kernel_rfl) rfl (fun h => by cases h)
        · exact v_andF 79 8 _ rfl rfl (by kernel_rfl) (True.intro) (by kernel_rfl) (by kernel_rfl) rfl
        · exact v_move 84 13 (.bool false) (.inl rfl) rfl (by kernel_rfl) (True.intro) (by kernel_rfl) (by kernel_rfl) rfl
        · exact v_load 3 w.heap.size a rfl rfl (by kernel_rfl) ⟨rfl, by kernel_rfl, by kernel_rfl⟩ (by kernel_rfl) rfl HX.out.k0
        · exact v_load 5 (w.heap.size + 1 + 1) c rfl rfl (by kernel_rfl) ⟨rfl, by kernel_rfl, by kernel_rfl⟩ (by kernel_rfl) rfl HX.out.k2
        · exact v_above 86 87 15 16 a c true _ rfl (hr) rfl (by kernel_rfl) ⟨rfl, by kernel_rfl, by kernel_rfl⟩ (by kernel_rfl) (by kernel_rfl) rfl (by kernel_rfl) (by kernel_rfl) rfl
        · exact v_move 88 17 (.bool true) (.inl rfl) rfl (by kernel_rfl) ⟨rfl, by kernel_rfl, by kernel_rfl⟩ (by kernel_rfl) (by kernel_rfl) rfl
        · exact v_load 4 (w.heap.size + 1) b rfl rfl (by kernel_rfl) ⟨rfl, by kernel_rfl, by kernel_rfl⟩ (by kernel_rfl) rfl HX.out.k1
        · exact v_load 5 (w.heap.size + 1 + 1) c rfl rfl (by kernel_rfl) ⟨rfl, by kernel_rfl, by kernel_rfl⟩ (by kernel_rfl) rfl HX.out.k2
        · exact v_above 90 91 19 20 b c true _ rfl (ht) rfl (by kernel_rfl) ⟨rfl, by kernel_rfl, by kernel_rfl⟩ (by kernel_rfl) (by kernel_rfl) rfl (by kernel_rfl) (by kernel_rfl) rfl
        · exact v_and 89 18 92 21 true rfl rfl (by kernel_rfl) ⟨rfl, by kernel_rfl, by kernel_rfl⟩ (by kernel_rfl) (by kernel_rfl) rfl (by kernel_rfl) (by kernel_rfl) rfl
        · exact v_move 93 22 (.bool true) (.inl rfl) rfl (by kernel_rfl) ⟨rfl, by kernel_rfl, by kernel_rfl⟩ (by kernel_rfl) (by kernel_rfl) rfl
        · exact v_load 8 g8 (mn a b) rfl rfl (by kernel_rfl) ⟨rfl, by kernel_rfl, by kernel_rfl⟩ (by kernel_rfl) rfl HX.out.k8
        · exact v_load 5 (w.heap.size + 1 + 1) c rfl rfl (by kernel_rfl) ⟨rfl, by kernel_rfl, by kernel_rfl⟩ (by kernel_rfl) rfl HX.out.k2
        · exact v_above 95 96 24 25 (mn a b) c true _ rfl (hy) rfl (by kernel_rfl) ⟨rfl, by kernel_rfl, by kernel_rfl⟩ (by kernel_rfl) (by kernel_rfl) rfl (by kernel_rfl) (by kernel_rfl) rfl
        · exact v_not 97 26 true rfl rfl (by kernel_rfl) ⟨rfl, by kernel_rfl, by kernel_rfl⟩ (by kernel_rfl) (by kernel_rfl) rfl
        · exact v_and 94 23 98 27 false rfl rfl (by kernel_rfl) ⟨rfl, by kernel_rfl, by kernel_rfl⟩ (by kernel_rfl) (by kernel_rfl) rfl (by kernel_rfl) (by kernel_rfl) rfl
        · exact v_or 85 14 99 28 false rfl rfl (by kernel_rfl) (True.intro) (by kernel_rfl) (by kernel_rfl) rfl (by kernel_rfl) (by kernel_rfl) rfl
      rotate_left
      refine wp_text (fun _ => none) [.eq (.agg (vc c)), .eq (.agg (vc a)), .eq (.bool true), .eq (.bool true), .eq (.agg (vc c)), .eq (.agg (vc b)), .eq (.bool false), .eq (.bool false), .eq (.bool false), .eq undef, .eq undef, .eq undef, .eq undef, .eq (.bool false), .eq (.bool false), .eq (.agg (vc a)), .eq (.agg (vc c)), .eq (.bool false), .eq (.bool false), .eq undef, .eq undef, .eq undef, .eq (.bool false), .eq (.bool false), .eq undef, .eq undef, .eq undef, .eq undef, .eq (.bool false), .eq (.bool false)] 149 rfl (by kernel_rfl) rfl (by kernel_rfl) (fits_plain _ _ (by rfl)) ?_ ?_
      · refine ⟨?_, ?_, ?_, ?_, ?_, ?_, ?_, ?_, ?_, ?_, ?_, ?_, ?_, ?_, ?_, ?_, ?_, ?_, ?_, ?_, ?_, ?_, ?_, ?_, ?_, ?_, ?_, ?_, ?_, ?_, trivial⟩
        · exact v_load 5 (w.heap.size + 1 + 1) c rfl rfl (by kernel_rfl) (True.intro) (by kernel_rfl) rfl HX.out.k2
        · exact v_load 3 w.heap.size a rfl rfl (by kernel_rfl) (True.intro) (by kernel_rfl) rfl HX.out.k0
        · exact v_above 71 72 0 1 c a true _ rfl (hp) rfl (by kernel_rfl) (True.intro) (by kernel_rfl) (by kernel_rfl) rfl (by kernel_rfl) (by kernel_rfl) rfl
        · exact v_move 73 2 (.bool true) (.inl rfl) rfl (by kernel_rfl) (True.intro) (by kernel_rfl) (by kernel_rfl) rfl
        · exact v_load 5 (w.heap.size + 1 + 1) c rfl rfl (by kernel_rfl) ⟨rfl, by kernel_rfl, by kernel_rfl⟩ (by kernel_rfl) rfl HX.out.k2
        · exact v_load 4 (w.heap.size + 1) b rfl rfl (by kernel_rfl) ⟨rfl, by kernel_rfl, by kernel_rfl⟩ (by kernel_rfl) rfl HX.out.k1
        · exact v_above 75 76 4 5 c b false _ rfl (hq) rfl (by kernel_rfl) ⟨rfl, by kernel_rfl, by kernel_rfl⟩ (by kernel_rfl) (by kernel_rfl) rfl (by kernel_rfl) (by kernel_rfl) rfl
        · exact v_and 74 3 77 6 false rfl rfl (by kernel_rfl) (True.intro) (by kernel_rfl) (by kernel_rfl) rfl (by kernel_rfl) (by kernel_rfl) rfl
        · exact v_move 78 7 (.bool false) (.inl rfl) rfl (by kernel_rfl) (True.intro) (by kernel_rfl) (by kernel_rfl) rfl
        · exact flow_skip 8 true (.bool false) rfl rfl (by kernel_rfl) rfl (fun h => by cases h)
        · exact flow_skip 8 true (.bool false) rfl rfl (by kernel_rfl) rfl (fun h => by cases h)
        · exact flow_skip 8 true (.bool false) rfl rfl (by kernel_rfl) rfl (fun h => by cases h)
        · exact flow_skip 8 true (.bool false) rfl rfl (by kernel_rfl) rfl (fun h => by cases h)
        · exact v_andF 79 8 _ rfl rfl (by kernel_rfl) (True.intro) (by kernel_rfl) (by kernel_rfl) rfl
        · exact v_move 84 13 (.bool false) (.inl rfl) rfl (by kernel_rfl) (True.intro) (by kernel_rfl) (by kernel_rfl) rfl
        · exact v_load 3 w.heap.size a rfl rfl (by kernel_rfl) ⟨rfl, by kernel_rfl, by kernel_rfl⟩ (by kernel_rfl) rfl HX.out.k0
        · exact v_load 5 (w.heap.size + 1 + 1) c rfl rfl (by kernel_rfl) ⟨rfl, by kernel_rfl, by kernel_rfl⟩ (by kernel_rfl) rfl HX.out.k2
        · exact v_above 86 87 15 16 a c false _ rfl (hr) rfl (by kernel_rfl) ⟨rfl, by kernel_rfl, by kernel_rfl⟩ (by kernel_rfl) (by kernel_rfl) rfl (by kernel_rfl) (by kernel_rfl) rfl
        · exact v_move 88 17 (.bool false) (.inl rfl) rfl (by kernel_rfl) ⟨rfl, by kernel_rfl, by kernel_rfl⟩ (by kernel_rfl) (by kernel_rfl) rfl
        · exact flow_skip 18 true (.bool false) rfl rfl (by kernel_rfl) rfl (fun h => by cases h)
        · exact flow_skip 18 true (.bool false) rfl rfl (by kernel_rfl) rfl (fun h => by cases h)
        · exact flow_skip 18 true (.bool false) rfl rfl (by kernel_rfl) rfl (fun h => by cases h)
        · exact v_andF 89 18 _ rfl rfl (by kernel_rfl) ⟨rfl, by kernel_rfl, by kernel_rfl⟩ (by kernel_rfl) (by kernel_rfl) rfl
        · exact v_move 93 22 (.bool false) (.inl rfl) rfl (by kernel_rfl) ⟨rfl, by kernel_rfl, by kernel_rfl⟩ (by kernel_rfl) (by kernel_rfl) rfl
        · exact flow_skip 23 true (.bool false) rfl rfl (by kernel_rfl) rfl (fun h => by cases h)
        · exact flow_skip 23 true (.bool false) rfl rfl (by kernel_rfl) rfl (fun h => by cases h)
        · exact flow_skip 23 true (.bool false) rfl rfl (by kernel_rfl) rfl (fun h => by cases h)
        · exact flow_skip 23 true (.bool false) rfl rfl (by kernel_rfl) rfl (fun h => by cases h)
        · exact v_andF 94 23 _ rfl rfl (by kernel_rfl) ⟨rfl, by kernel_rfl, by kernel_rfl⟩ (by kernel_rfl) (by kernel_rfl) rfl
        · exact v_or 85 14 99 28 false rfl rfl (by kernel_rfl) (True.intro) (by kernel_rfl) (by kernel_rfl) rfl (by kernel_rfl) (by kernel_rfl) rfl
      rotate_left
      refine wp_text (fun _ => none) [.eq (.agg (vc c)), .eq (.agg (vc a)), .eq (.bool true), .eq (.bool true), .eq (.agg (vc c)), .eq (.agg (vc b)), .eq (.bool false), .eq (.bool false), .eq (.bool false), .eq undef, .eq undef, .eq undef, .eq undef, .eq (.bool false), .eq (.bool false), .eq (.agg (vc a)), .eq (.agg (vc c)), .eq (.bool true), .eq (.bool true), .eq (.agg (vc b)), .eq (.agg (vc c)), .eq (.bool false), .eq (.bool false), .eq (.bool false), .eq undef, .eq undef, .eq undef, .eq undef, .eq (.bool false), .eq (.bool false)] 149 rfl (by kernel_rfl) rfl (by kernel_rfl) (fits_plain _ _ (by rfl)) ?_ ?_
      · refine ⟨?_, ?_, ?_, ?_, ?_, ?_, ?_, ?_, ?_, ?_, ?_, ?_, ?_, ?_, ?_, ?_, ?_, ?_, ?_, ?_, ?_, ?_, ?_, ?_, ?_, ?_, ?_, ?_, ?_, ?_, trivial⟩
        · exact v_load 5 (w.heap.size + 1 + 1) c rfl rfl (by kernel_rfl) (True.intro) (by kernel_rfl) rfl HX.out.k2
        · exact v_load 3 w.heap.size a rfl rfl (by kernel_rfl) (True.intro) (by kernel_rfl) rfl HX.out.k0
        · exact v_above 71 72 0 1 c a true _ rfl (hp) rfl (by kernel_rfl) (True.intro) (by kernel_rfl) (by kernel_rfl) rfl (by kernel_rfl) (by kernel_rfl) rfl
        · exact v_move 73 2 (.bool true) (.inl rfl) rfl (by kernel_rfl) (True.intro) (by kernel_rfl) (by kernel_rfl) rfl
        · exact v_load 5 (w.heap.size + 1 + 1) c rfl rfl (by kernel_rfl) ⟨rfl, by kernel_rfl, by kernel_rfl⟩ (by kernel_rfl) rfl HX.out.k2
        · exact v_load 4 (w.heap.size + 1) b rfl rfl (by kernel_rfl) ⟨rfl, by kernel_rfl, by kernel_rfl⟩ (by kernel_rfl) rfl HX.out.k1
        · exact v_above 75 76 4 5 c b false _ rfl (hq) rfl (by kernel_rfl) ⟨rfl, by kernel_rfl, by kernel_rfl⟩ (by kernel_rfl) (by kernel_rfl) rfl (by kernel_rfl) (by kernel_rfl) rfl
        · exact v_and 74 3 77 6 false rfl rfl (by kernel_rfl) (True.intro) (by kernel_rfl) (by kernel_rfl) rfl (by kernel_rfl) (by kernel_rfl) rfl
        · exact v_move 78 7 (.bool false) (.inl rfl) rfl (by kernel_rfl) (True.intro) (by kernel_rfl) (by kernel_rfl) rfl
        · exact flow_skip 8 true (.bool false) rfl rfl (by kernel_rfl) rfl (fun h => by cases h)
        · exact flow_skip 8 true (.bool false) rfl rfl (by kernel_rfl) rfl (fun h => by cases h)
        · exact flow_skip 8 true (.bool false) rfl rfl (by kernel_rfl) rfl (fun h => by cases h)
        · exact flow_skip 8 true (.bool false) rfl rfl (by kernel_rfl) rfl (fun h => by cases h)
        · exact v_andF 79 8 _ rfl rfl (by kernel_rfl) (True.intro) (by kernel_rfl) (by kernel_rfl) rfl
        · exact v_move 84 13 (.bool false) (.inl rfl) rfl (by kernel_rfl) (True.intro) (by kernel_rfl) (by kernel_rfl) rfl
        · exact v_load 3 w.heap.size a rfl rfl (by kernel_rfl) ⟨rfl, by kernel_rfl, by kernel_rfl⟩ (by kernel_rfl) rfl HX.out.k0
        · exact v_load 5 (w.heap.size + 1 + 1) c rfl rfl (by kernel_rfl) ⟨rfl, by kernel_rfl, by kernel_rfl⟩ (by kernel_rfl) rfl HX.out.k2
        · exact v_above 86 87 15 16 a c true _ rfl (hr) rfl (by kernel_rfl) ⟨rfl, by kernel_rfl, by kernel_rfl⟩ (by kernel_rfl) (by kernel_rfl) rfl (by kernel_rfl) (by kernel_rfl) rfl
        · exact v_move 88 17 (.bool true) (.inl rfl) rfl (by kernel_rfl) ⟨rfl, by kernel_rfl, by kernel_rfl⟩ (by kernel_rfl) (by kernel_rfl) rfl
        · exact v_load 4 (w.heap.size + 1) b rfl rfl (by kernel_rfl) ⟨rfl, by kernel_rfl, by kernel_rfl⟩ (by kernel_rfl) rfl HX.out.k1
        · exact v_load 5 (w.heap.size + 1 + 1) c rfl rfl (by kernel_rfl) ⟨rfl, by kernel_rfl, by kernel_rfl⟩ (by kernel_rfl) rfl HX.out.k2
        · exact v_above 90 91 19 20 b c false _ rfl (ht) rfl (by kernel_rfl) ⟨rfl, by kernel_rfl, by kernel_rfl⟩ (by kernel_rfl) (by kernel_rfl) rfl (by kernel_rfl) (by kernel_rfl) rfl
        · exact v_and 89 18 92 21 false rfl rfl (by kernel_rfl) ⟨rfl, by kernel_rfl, by kernel_rfl⟩ (by kernel_rfl) (by kernel_rfl) rfl (by kernel_rfl) (by kernel_rfl) rfl
        · exact v_move 93 22 (.bool false) (.inl rfl) rfl (by kernel_rfl) ⟨rfl, by kernel_rfl, by kernel_rfl⟩ (by kernel_rfl) (by kernel_rfl) rfl
        · exact flow_skip 23 true (.bool false) rfl rfl (by kernel_rfl) rfl (fun h => by cases h)
        · exact flow_skip 23 true (.bool false) rfl rfl (by kernel_rfl) rfl (fun h => by cases h)
        · exact flow_skip 23 true (.bool false) rfl rfl (by kernel_rfl) rfl (fun h => by cases h)
        · exact flow_skip 23 true (.bool false) rfl rfl (by kernel_rfl) rfl (fun h => by cases h)
        · exact v_andF 94 23 _ rfl rfl (by kernel_rfl) ⟨rfl, by kernel_rfl, by kernel_rfl⟩ (by kernel_rfl) (by kernel_rfl) rfl
        · exact v_or 85 14 99 28 false rfl rfl (by kernel_rfl) (True.intro) (by kernel_rfl) (by kernel_rfl) rfl (by kernel_rfl) (by kernel_rfl) rfl
      rotate_left
      refine wp_text (fun _ => none) [.eq (.agg (vc c)), .eq (.agg (vc a)), .eq (.bool true), .eq (.bool true), .eq (.agg (vc c)), .eq (.agg (vc b)), .eq (.bool false), .eq (.bool false), .eq (.bool false), .eq undef, .eq undef, .eq undef, .eq undef, .eq (.bool false), .eq (.bool false), .eq (.agg (vc a)), .eq (.agg (vc c)), .eq (.bool true), .eq (.bool true), .eq (.agg (vc b)), .eq (.agg (vc c)), .eq (.bool true), .eq (.bool true), .eq (.bool true), .eq (.agg (vc (mn a b))), .eq (.agg (vc c)), .eq (.bool true), .eq (.bool false), .eq (.bool false), .eq (.bool false)] 149 rfl (by kernel_rfl) rfl (by kernel_rfl) (fits_plain _ _ (by rfl)) ?_ ?_
      · refine ⟨?_, ?_, ?_, ?_, ?_, ?_, ?_, ?_, ?_, ?_, ?_, ?_, ?_, ?_, ?_, ?_, ?_, ?_, ?_, ?_, ?_, ?_, ?_, ?_, ?_, ?_, ?_, ?_, ?_, ?_, trivial⟩
        · exact v_load 5 (w.heap.size + 1 + 1) c rfl rfl (by kernel_rfl) (True.intro) (by kernel_rfl) rfl HX.out.k2
        · exact v_load 3 w.heap.size a rfl rfl (by kernel_rfl) (True.intro) (by kernel_rfl) rfl HX.out.k0
        · exact v_above 71 72 0 1 c a true _ rfl (hp) rfl (by kernel_rfl) (True.intro) (by kernel_rfl) (by kernel_rfl) rfl (by kernel_rfl) (by kernel_rfl) rfl
        · exact v_move 73 2 (.bool true) (.inl rfl) rfl (by kernel_rfl) (True.intro) (by kernel_rfl) (by kernel_rfl) rfl
        · exact v_load 5 (w.heap.size + 1 + 1) c rfl rfl (by kernel_rfl) ⟨rfl, by kernel_rfl, by kernel_rfl⟩ (by kernel_rfl) rfl HX.out.k2
        · exact v_load 4 (w.heap.size + 1) b rfl rfl (by kernel_rfl) ⟨rfl, by kernel_rfl, by kernel_rfl⟩ (by kernel_rfl) rfl HX.out.k1
        · exact v_above 75 76 4 5 c b false _ rfl (hq) rfl (by kernel_rfl) ⟨rfl, by kernel_rfl, by kernel_rfl⟩ (by kernel_rfl) (by kernel_rfl) rfl (by kernel_rfl) (by kernel_rfl) rfl
        · exact v_and 74 3 77 6 false rfl rfl (by kernel_rfl) (True.intro) (by kernel_rfl) (by kernel_rfl) rfl (by kernel_rfl) (by kernel_rfl) rfl
        · exact v_move 78 7 (.bool false) (.inl rfl) rfl (by kernel_rfl) (True.intro) (by kernel_rfl) (by kernel_rfl) rfl
        · exact flow_skip 8 true (.bool false) rfl rfl (by kernel_rfl) rfl (fun h => by cases h)
        · exact flow_skip 8 true (.bool false) rfl rfl (by kernel_rfl) rfl (fun h => by cases h)
        · exact flow_skip 8 true (.bool false) rfl rfl (by kernel_rfl) rfl (fun h => by cases h)
        · exact flow_skip 8 true (.bool false) rfl rfl (by kernel_rfl) rfl (fun h => by cases h)
        · exact v_andF 79 8 _ rfl rfl (by kernel_rfl) (True.intro) (by kernel_rfl) (by kernel_rfl) rfl
        · exact v_move 84 13 (.bool false) (.inl rfl) rfl (by kernel_rfl) (True.intro) (by kernel_rfl) (by kernel_rfl) rfl
        · exact v_load 3 w.heap.size a rfl rfl (by kernel_rfl) ⟨rfl, by kernel_rfl, by kernel_rfl⟩ (by kernel_rfl) rfl HX.out.k0
        · exact v_load 5 (w.heap.size + 1 + 1) c rfl rfl (by kernel_rfl) ⟨rfl, by kernel_rfl, by kernel_rfl⟩ (by kernel_rfl) rfl HX.out.k2
        · exact v_above 86 87 15 16 a c true _ rfl (hr) rfl (by kernel_rfl) ⟨rfl, by kernel_rfl, by kernel_rfl⟩ (by kernel_rfl) (by kernel_rfl) rfl (by kernel_rfl) (by kernel_rfl) rfl
        · exact v_move 88 17 (.bool true) (.inl rfl) rfl (by kernel_rfl) ⟨rfl, by kernel_rfl, by kernel_rfl⟩ (by kernel_rfl) (by kernel_rfl) rfl
        · exact v_load 4 (w.heap.size + 1) b rfl rfl (by kernel_rfl) ⟨rfl, by kernel_rfl, by kernel_rfl⟩ (by kernel_rfl) rfl HX.out.k1
        · exact v_load 5 (w.heap.size + 1 + 1) c rfl rfl (by kernel_rfl) ⟨rfl, by kernel_rfl, by kernel_rfl⟩ (by kernel_rfl) rfl HX.out.k2
        · exact v_above 90 91 19 20 b c true _ rfl (ht) rfl (by kernel_rfl) ⟨rfl, by kernel_rfl, by kernel_rfl⟩ (by kernel_rfl) (by kernel_rfl) rfl (by kernel_rfl) (by kernel_rfl) rfl
        · exact v_and 89 18 92 21 true rfl rfl (by kernel_rfl) ⟨rfl, by kernel_rfl, by kernel_rfl⟩ (by kernel_rfl) (by kernel_rfl) rfl (by kernel_rfl) (by kernel_rfl) rfl
        · exact v_move 93 22 (.bool true) (.inl rfl) rfl (by kernel_rfl) ⟨rfl, by kernel_rfl, by kernel_rfl⟩ (by kernel_rfl) (by kernel_rfl) rfl
        · exact v_load 8 g8 (mn a b) rfl rfl (by kernel_rfl) ⟨rfl, by kernel_rfl, by kernel_rfl⟩ (by kernel_rfl) rfl HX.out.k8
        · exact v_load 5 (w.heap.size + 1 + 1) c rfl rfl (by kernel_rfl) ⟨rfl, by kernel_rfl, by kernel_rfl⟩ (by kernel_rfl) rfl HX.out.k2
        · exact v_above 95 96 24 25 (mn a b) c true _ rfl (hy) rfl (by kernel_rfl) ⟨rfl, by kernel_rfl, by kernel_rfl⟩ (by kernel_rfl) (by kernel_rfl) rfl (by kernel_rfl) (by kernel_rfl) rfl
        · exact v_not 97 26 true rfl rfl (by kernel_rfl) ⟨rfl, by kernel_rfl, by kernel_rfl⟩ (by kernel_rfl) (by kernel_rfl) rfl
        · exact v_and 94 23 98 27 false rfl rfl (by kernel_rfl) ⟨rfl, by kernel_rfl, by kernel_rfl⟩ (by kernel_rfl) (by kernel_rfl) rfl (by kernel_rfl) (by kernel_rfl) rfl
        · exact v_or 85 14 99 28 false rfl rfl (by kernel_rfl) (True.intro) (by kernel_rfl) (by kernel_rfl) rfl (by kernel_rfl) (by kernel_rfl) rfl
      rotate_left
      refine wp_text (fun _ => none) [.eq (.agg (vc c)), .eq (.agg (vc a)), .eq (.bool true), .eq (.bool true), .eq (.agg (vc c)), .eq (.agg (vc b)), .eq (.bool true), .eq (.bool true), .eq (.bool true), .eq (.agg (vc c)), .eq (.agg (vc (mx a b))), .eq (.bool true), .eq (.bool false), .eq (.bool false), .eq (.bool false), .eq (.agg (vc a)), .eq (.agg (vc c)), .eq (.bool false), .eq (.bool false), .eq undef, .eq undef, .eq undef, .eq (.bool false), .eq (.bool false), .eq undef, .eq undef, .eq undef, .eq undef, .eq (.bool false), .eq (.bool false)] 149 rfl (by kernel_rfl) rfl (by kernel_rfl) (fits_plain _ _ (by rfl)) ?_ ?_
      · refine ⟨?_, ?_, ?_, ?_, ?_, ?_, ?_, ?_, ?_, ?_, ?_, ?_, ?_, ?_, ?_, ?_, ?_, ?_, ?_, ?_, ?_, ?_, ?_, ?_, ?_, ?_, ?_, ?_, ?_, ?_, trivial⟩
        · exact v_load 5 (w.heap.size + 1 + 1) c rfl rfl (by kernel_rfl) (True.intro) (by kernel_rfl) rfl HX.out.k2
        · exact v_load 3 w.heap.size a rfl rfl (by kernel_rfl) (True.intro) (by kernel_rfl) rfl HX.out.k0
        · exact v_above 71 72 0 1 c a true _ rfl (hp) rfl (by kernel_rfl) (True.intro) (by kernel_rfl) (by kernel_rfl) rfl (by kernel_rfl) (by kernel_rfl) rfl
        · exact v_move 73 2 (.bool true) (.inl rfl) rfl (by kernel_rfl) (True.intro) (by kernel_rfl) (by kernel_rfl) rfl
        · exact v_load 5 (w.heap.size + 1 + 1) c rfl rfl (by kernel_rfl) ⟨rfl, by kernel_rfl, by kernel_rfl⟩ (by kernel_rfl) rfl HX.out.k2
        · exact v_load 4 (w.heap.size + 1) b rfl rfl (by kernel_rfl) ⟨rfl, by kernel_rfl, by kernel_rfl⟩ (by kernel_rfl) rfl HX.out.k1
        · exact v_above 75 76 4 5 c b true _ rfl (hq) rfl (by kernel_rfl) ⟨rfl, by kernel_rfl, by kernel_rfl⟩ (by kernel_rfl) (by kernel_rfl) rfl (by kernel_rfl) (by kernel_rfl) rfl
        · exact v_and 74 3 77 6 true rfl rfl (by kernel_rfl) (True.intro) (by kernel_rfl) (by kernel_rfl) rfl (by kernel_rfl) (by kernel_rfl) rfl
        · exact v_move 78 7 (.bool true) (.inl rfl) rfl (by kernel_rfl) (True.intro) (by kernel_rfl) (by kernel_rfl) rfl
        · exact v_load 5 (w.heap.size + 1 + 1) c rfl rfl (by kernel_rfl) ⟨rfl, by kernel_rfl, by kernel_rfl⟩ (by kernel_rfl) rfl HX.out.k2
        · exact v_load 7 g7 (mx a b) rfl rfl (by kernel_rfl) ⟨rfl, by kernel_rfl, by kernel_rfl⟩ (by kernel_rfl) rfl HX.out.k7
        · exact v_above 80 81 9 10 c (mx a b) true _ rfl (hu) rfl (by kernel_rfl) ⟨rfl, by kernel_rfl, by kernel_rfl⟩ (by kernel_rfl) (by kernel_rfl) rfl (by kernel_rfl) (by kernel_rfl) rfl
        · exact v_not 82 11 true rfl rfl (by kernel_rfl) ⟨rfl, by kernel_rfl, by kernel_rfl⟩ (by kernel_rfl) (by kernel_rfl) rfl
        · exact v_and 79 8 83 12 false rfl rfl (by kernel_rfl) (True.intro) (by kernel_rfl) (by kernel_rfl) rfl (by kernel_rfl) (by kernel_rfl) rfl
        · exact v_move 84 13 (.bool false) (.inl rfl) rfl (by kernel_rfl) (True.intro) (by kernel_rfl) (by kernel_rfl) rfl
        · exact v_load 3 w.heap.size a rfl rfl (by kernel_rfl) ⟨rfl, by kernel_rfl, by kernel_rfl⟩ (by kernel_rfl) rfl HX.out.k0
        · exact v_load 5 (w.heap.size + 1 + 1) c rfl rfl (by kernel_rfl) ⟨rfl, by kernel_rfl, by kernel_rfl⟩ (by kernel_rfl) rfl HX.out.k2
        · exact v_above 86 87 15 16 a c false _ rfl (hr) rfl (by kernel_rfl) ⟨rfl, by kernel_rfl, by kernel_rfl⟩ (by kernel_rfl) (by kernel_rfl) rfl (by kernel_rfl) (by kernel_rfl) rfl
        · exact v_move 88 17 (.bool false) (.inl rfl) rfl (by kernel_rfl) ⟨rfl, by kernel_rfl, by kernel_rfl⟩ (by kernel_rfl) (by kernel_rfl) rfl
        · exact flow_skip 18 true (.bool false) rfl rfl (by kernel_rfl) rfl (fun h => by cases h)
        · exact flow_skip 18 true (.bool false) rfl rfl (by kernel_rfl) rfl (fun h => by cases h)
        · exact flow_skip 18 true (.bool false) rfl rfl (by kernel_rfl) rfl (fun h => by cases h)
        · exact v_andF 89 18 _ rfl rfl (by kernel_rfl) ⟨rfl, by kernel_rfl, by kernel_rfl⟩ (by kernel_rfl) (by kernel_rfl) rfl
        · exact v_move 93 22 (.bool false) (.inl rfl) rfl (by kernel_rfl) ⟨rfl, by kernel_rfl, by kernel_rfl⟩ (by kernel_rfl) (by kernel_rfl) rfl
        · exact flow_skip 23 true (.bool false) rfl rfl (by kernel_rfl) rfl (fun h => by cases h)
        · exact flow_skip 23 true (.bool false) rfl rfl (by kernel_rfl) rfl (fun h => by cases h)
        · exact flow_skip 23 true (.bool false) rfl rfl (by kernel_rfl) rfl (fun h => by cases h)
        · exact flow_skip 23 true (.bool false) rfl rfl (by kernel_rfl) rfl (fun h => by cases h)
        · exact v_andF 94 23 _ rfl rfl (by kernel_rfl) ⟨rfl, by kernel_rfl, by kernel_rfl⟩ (by kernel_rfl) (by kernel_rfl) rfl
        · exact v_or 85 14 99 28 false rfl rfl (by kernel_rfl) (True.intro) (by kernel_rfl) (by kernel_rfl) rfl (by kernel_rfl) (by kernel_rfl) rfl
      rotate_left
      refine wp_text (fun _ => none) [.eq (.agg (vc c)), .eq (.agg (vc a)), .eq (.bool true), .eq (.bool true), .eq (.agg (vc c)), .eq (.agg (vc b)), .eq (.bool true), .eq (.bool true), .eq (.bool true), .eq (.agg (vc c)), .eq (.agg (vc (mx a b))), .eq (.bool true), .eq (.bool false), .eq (.bool false), .eq (.bool false), .eq (.agg (vc a)), .eq (.agg (vc c)), .eq (.bool true), .eq (.bool true), .eq (.agg (vc b)), .eq (.agg (vc c)), .eq (.bool false), .eq (.bool false), .eq (.bool false), .eq undef, .eq undef, .eq undef, .eq undef, .eq (.bool false), .eq (.bool false)] 149 rfl (by kernel_rfl) rfl (by kernel_rfl) (fits_plain _ _ (by rfl)) ?_ ?_
      · refine ⟨?_, ?_, ?_, ?_, ?_, ?_, ?_, ?_, ?_, ?_, ?_, ?_, ?_, ?_, ?_, ?_, ?_, ?_, ?_, ?_, ?_, ?_, ?_, ?_, ?_, ?_, ?_, ?_, ?_, ?_, trivial⟩
        · exact v_load 5 (w.heap.size + 1 + 1) c rfl rfl (by kernel_rfl) (True.intro) (by kernel_rfl) rfl HX.out.k2
        · exact v_load 3 w.heap.size a rfl rfl (by kernel_rfl) (True.intro) (by kernel_rfl) rfl HX.out.k0
        · exact v_above 71 72 0 1 c a true _ rfl (hp) rfl (by kernel_rfl) (True.intro) (by kernel_rfl) (by kernel_rfl) rfl (by kernel_rfl) (by kernel_rfl) rfl
        · exact v_move 73 2 (.bool true) (.inl rfl) rfl (by kernel_rfl) (True.intro) (by kernel_rfl) (by kernel_rfl) rfl
        · exact v_load 5 (w.heap.size + 1 + 1) c rfl rfl (by kernel_rfl) ⟨rfl, by kernel_rfl, by kernel_rfl⟩ (by kernel_rfl) rfl HX.out.k2
        · exact v_load 4 (w.heap.size + 1) b rfl rfl (by kernel_rfl) ⟨rfl, by kernel_rfl, by kernel_rfl⟩ (by kernel_rfl) rfl HX.out.k1
        · exact v_above 75 76 4 5 c b true _ rfl (hq) rfl (by kernel_rfl) ⟨rfl, by kernel_rfl, by kernel_rfl⟩ (by kernel_rfl) (by kernel_rfl) rfl (by kernel_rfl) (by kernel_rfl) rfl
        · exact v_and 74 3 77 6 true rfl rfl (by kernel_rfl) (True.intro) (by kernel_rfl) (by kernel_rfl) rfl (by kernel_rfl) (by kernel_rfl) rfl
        · exact v_move 78 7 (.bool true) (.inl rfl) rfl (by kernel_rfl) (True.intro) (by kernel_rfl) (by kernel_rfl) rfl
        · exact v_load 5 (w.heap.size + 1 + 1) c rfl rfl (by kernel_rfl) ⟨rfl, by kernel_rfl, by kernel_rfl⟩ (by kernel_rfl) rfl HX.out.k2
        · exact v_load 7 g7 (mx a b) rfl rfl (by kernel_rfl) ⟨rfl, by kernel_rfl, by kernel_rfl⟩ (by kernel_rfl) rfl HX.out.k7
        · exact v_above 80 81 9 10 c (mx a b) true _ rfl (hu) rfl (by kernel_rfl) ⟨rfl, by kernel_rfl, by kernel_rfl⟩ (by kernel_rfl) (by kernel_rfl) rfl (by kernel_rfl) (by kernel_rfl) rfl
        · exact v_not 82 11 true rfl rfl (by kernel_rfl) ⟨rfl, by kernel_rfl, by kernel_rfl⟩ (by kernel_rfl) (by kernel_rfl) rfl
        · exact v_and 79 8 83 12 false rfl rfl (by kernel_rfl) (True.intro) (by kernel_rfl) (by kernel_rfl) rfl (by kernel_rfl) (by kernel_rfl) rfl
        · exact v_move 84 13 (.bool false) (.inl rfl) rfl (by kernel_rfl) (True.intro) (by kernel_rfl) (by kernel_rfl) rfl
        · exact v_load 3 w.heap.size a rfl rfl (by kernel_rfl) ⟨rfl, by kernel_rfl, by kernel_rfl⟩ (by kernel_rfl) rfl HX.out.k0
        · exact v_load 5 (w.heap.size + 1 + 1) c rfl rfl (by kernel_rfl) ⟨rfl, by kernel_rfl, by kernel_rfl⟩ (by kernel_rfl) rfl HX.out.k2
        · exact v_above 86 87 15 16 a c true _ rfl (hr) rfl (by kernel_rfl) ⟨rfl, by kernel_rfl, by kernel_rfl⟩ (by kernel_rfl) (by kernel_rfl) rfl (by kernel_rfl) (by kernel_rfl) rfl
        · exact v_move 88 17 (.bool true) (.inl rfl) rfl (by kernel_rfl) ⟨rfl, by kernel_rfl, by kernel_rfl⟩ (by kernel_rfl) (by kernel_rfl) rfl
        · exact v_load 4 (w.heap.size + 1) b rfl rfl (by kernel_rfl) ⟨rfl, by kernel_rfl, by kernel_rfl⟩ (by kernel_rfl) rfl HX.out.k1
        · exact v_load 5 (w.heap.size + 1 + 1) c rfl rfl (by kernel_rfl) ⟨rfl, by kernel_rfl, by kernel_rfl⟩ (by kernel_rfl) rfl HX.out.k2
        · exact v_above 90 91 19 20 b c false _ rfl (ht) rfl (by kernel_rfl) ⟨rfl, by kernel_rfl, by kernel_rfl⟩ (by kernel_rfl) (by kernel_rfl) rfl (by kernel_rfl) (by kernel_rfl) rfl
        · exact v_and 89 18 92 21 false rfl rfl (by kernel_rfl) ⟨rfl, by kernel_rfl, by kernel_rfl⟩ (by kernel_rfl) (by kernel_rfl) rfl (by kernel_rfl) (by kernel_rfl) rfl
        · exact v_move 93 22 (.bool false) (.inl rfl) rfl (by kernel_rfl) ⟨rfl, by kernel_rfl, by kernel_rfl⟩ (by kernel_rfl) (by kernel_rfl) rfl
        · exact flow_skip 23 true (.bool false) rfl rfl (by kernel_rfl) rfl (fun h => by cases h)
        · exact flow_skip 23 true (.bool false) rfl rfl (by kernel_rfl) rfl (fun h => by cases h)
        · exact flow_skip 23 true (.bool false) rfl rfl (by kernel_rfl) rfl (fun h => by cases h)
        · exact flow_skip 23 true (.bool false) rfl rfl (by kernel_rfl) rfl (fun h => by cases h)
        · exact v_andF 94 23 _ rfl rfl (by kernel_rfl) ⟨rfl, by kernel_rfl, by kernel_rfl⟩ (by kernel_rfl) (by kernel_rfl) rfl
        · exact v_or 85 14 99 28 false rfl rfl (by kernel_rfl) (True.intro) (by kernel_rfl) (by kernel_rfl) rfl (by kernel_rfl) (by kernel_rfl) rfl
      rotate_left
      refine wp_text (fun _ => none) [.eq (.agg (vc c)), .eq (.agg (vc a)), .eq (.bool true), .eq (.bool true), .eq (.agg (vc c)), .eq (.agg (vc b)), .eq (.bool true), .eq (.bool true), .eq (.bool true), .eq (.agg (vc c)), .eq (.agg (vc (mx a b))), .eq (.bool true), .eq (.bool false), .eq (.bool false), .eq (.bool false), .eq (.agg (vc a)), .eq (.agg (vc c)), .eq (.bool true), .eq (.bool true), .eq (.agg (vc b)), .eq (.agg (vc c)), .eq (.bool true), .eq (.bool true), .eq (.bool true), .eq (.agg (vc (mn a b))), .eq (.agg (vc c)), .eq (.bool true), .eq (.bool false), .eq (.bool false), .eq (.bool false)] 149 rfl (by kernel_rfl) rfl (by kernel_rfl) (fits_plain _ _ (by rfl)) ?_ ?_
      · refine ⟨?_, ?_, ?_, ?_, ?_, ?_, ?_, ?_, ?_, ?_, ?_, ?_, ?_, ?_, ?_, ?_, ?_, ?_, ?_, ?_, ?_, ?_, ?_, ?_, ?_, ?_, ?_, ?_, ?_, ?_, trivial⟩
        · exact v_load 5 (w.heap.size + 1 + 1) c rfl rfl (by kernel_rfl) (True.intro) (by kernel_rfl) rfl HX.out.k2
        · exact v_load 3 w.heap.size a rfl rfl (by kernel_rfl) (True.intro) (by kernel_rfl) rfl HX.out.k0
        · exact v_above 71 72 0 1 c a true _ rfl (hp) rfl (by kernel_rfl) (True.intro) (by kernel_rfl) (by kernel_rfl) rfl (by kernel_rfl) (by kernel_rfl) rfl
        · exact v_move 73 2 (.bool true) (.inl rfl) rfl (by kernel_rfl) (True.intro) (by kernel_rfl) (by kernel_rfl) rfl
        · exact v_load 5 (w.heap.size + 1 + 1) c rfl rfl (by kernel_rfl) ⟨rfl, by kernel_rfl, by kernel_rfl⟩ (by kernel_rfl) rfl HX.out.k2
        · exact v_load 4 (w.heap.size + 1) b rfl rfl (by kernel_rfl) ⟨rfl, by kernel_rfl, by kernel_rfl⟩ (by kernel_rfl) rfl HX.out.k1
        · exact v_above 75 76 4 5 c b true _ rfl (hq) rfl (by kernel_rfl) ⟨rfl, by kernel_rfl, by kernel_rfl⟩ (by kernel_rfl) (by kernel_rfl) rfl (by kernel_rfl) (by kernel_rfl) rfl
        · exact v_and 74 3 77 6 true rfl rfl (by kernel_rfl) (True.intro) (by kernel_rfl) (by kernel_rfl) rfl (by kernel_rfl) (by kernel_rfl) rfl
        · exact v_move 78 7 (.bool true) (.inl rfl) rfl (by kernel_rfl) (True.intro) (by kernel_rfl) (by kernel_rfl) rfl
        · exact v_load 5 (w.heap.size + 1 + 1) c rfl rfl (by kernel_rfl) ⟨rfl, by kernel_rfl, by kernel_rfl⟩ (by kernel_rfl) rfl HX.out.k2
        · exact v_load 7 g7 (mx a b) rfl rfl (by kernel_rfl) ⟨rfl, by kernel_rfl, by kernel_rfl⟩ (by kernel_rfl) rfl HX.out.k7
        · exact v_above 80 81 9 10 c (mx a b) true _ rfl (hu) rfl (by kernel_rfl) ⟨rfl, by kernel_rfl, by kernel_rfl⟩ (by kernel_rfl) (by kernel_rfl) rfl (by kernel_rfl) (by kernel_rfl) rfl
        · exact v_not 82 11 true rfl rfl (by kernel_rfl) ⟨rfl, by kernel_rfl, by kernel_rfl⟩ (by kernel_rfl) (by kernel_rfl) rfl
        · exact v_and 79 8 83 12 false rfl rfl (by kernel_rfl) (True.intro) (by kernel_rfl) (by kernel_rfl) rfl (by kernel_rfl) (by kernel_rfl) rfl
        · exact v_move 84 13 (.bool false) (.inl rfl) rfl (by kernel_rfl) (True.intro) (by kernel_rfl) (by kernel_rfl) rfl
        · exact v_load 3 w.heap.size a rfl rfl (by kernel_rfl) ⟨rfl, by kernel_rfl, by kernel_rfl⟩ (by kernel_rfl) rfl HX.out.k0
        · exact v_load 5 (w.heap.size + 1 + 1) c rfl rfl (by kernel_rfl) ⟨rfl, by kernel_rfl, by kernel_rfl⟩ (by kernel_rfl) rfl HX.out.k2
        · exact v_above 86 87 15 16 a c true _ rfl (hr) rfl (by kernel_rfl) ⟨rfl, by kernel_rfl, by kernel_rfl⟩ (by kernel_rfl) (by kernel_rfl) rfl (by kernel_rfl) (by kernel_rfl) rfl
        · exact v_move 88 17 (.bool true) (.inl rfl) rfl (by kernel_rfl) ⟨rfl, by kernel_rfl, by kernel_rfl⟩ (by kernel_rfl) (by kernel_rfl) rfl
        · exact v_load 4 (w.heap.size + 1) b rfl rfl (by kernel_rfl) ⟨rfl, by kernel_rfl, by kernel_rfl⟩ (by kernel_rfl) rfl HX.out.k1
        · exact v_load 5 (w.heap.size + 1 + 1) c rfl rfl (by kernel_rfl) ⟨rfl, by kernel_rfl, by kernel_rfl⟩ (by kernel_rfl) rfl HX.out.k2
        · exact v_above 90 91 19 20 b c true _ rfl (ht) rfl (by kernel_rfl) ⟨rfl, by kernel_rfl, by kernel_rfl⟩ (by kernel_rfl) (by kernel_rfl) rfl (by kernel_rfl) (by kernel_rfl) rfl
        · exact v_and 89 18 92 21 true rfl rfl (by kernel_rfl) ⟨rfl, by kernel_rfl, by kernel_rfl⟩ (by kernel_rfl) (by kernel_rfl) rfl (by kernel_rfl) (by kernel_rfl) rfl
        · exact v_move 93 22 (.bool true) (.inl rfl) rfl (by kernel_rfl) ⟨rfl, by kernel_rfl, by kernel_rfl⟩ (by kernel_rfl) (by kernel_rfl) rfl
        · exact v_load 8 g8 (mn a b) rfl rfl (by kernel_rfl) ⟨rfl, by kernel_rfl, by kernel_rfl⟩ (by kernel_rfl) rfl HX.out.k8
        · exact v_load 5 (w.heap.size + 1 + 1) c rfl rfl (by kernel_rfl) ⟨rfl, by kernel_rfl, by kernel_rfl⟩ (by kernel_rfl) rfl HX.out.k2
        · exact v_above 95 96 24 25 (mn a b) c true _ rfl (hy) rfl (by kernel_rfl) ⟨rfl, by kernel_rfl, by kernel_rfl⟩ (by kernel_rfl) (by kernel_rfl) rfl (by kernel_rfl) (by kernel_rfl) rfl
        · exact v_not 97 26 true rfl rfl (by kernel_rfl) ⟨rfl, by kernel_rfl, by kernel_rfl⟩ (by kernel_rfl) (by kernel_rfl) rfl
        · exact v_and 94 23 98 27 false rfl rfl (by kernel_rfl) ⟨rfl, by kernel_rfl, by kernel_rfl⟩ (by kernel_rfl) (by kernel_rfl) rfl (by kernel_rfl) (by kernel_rfl) rfl
        · exact v_or 85 14 99 28 false rfl rfl (by kernel_rfl) (True.intro) (by kernel_rfl) (by kernel_rfl) rfl (by kernel_rfl) (by kernel_rfl) rfl
      rotate_left
      all_goals (
        intro o4 vs4 W4 hB4 hf4
        have HX := hid (HX.out.keep hB4)
        have e29 : vs4 29 = .bool false := hf4 29 (by decide)
        clear hB4 hf4
        simp only [fill, List.setIfInBounds_toArray, List.set_cons_zero, List.set_cons_succ, e29]
        clear e29
        go_upto_region 6 with (fail)
        refine wp_flow (fun _ => none) (fl6 a b c) 149 (by kernel_rfl) rfl (by kernel_rfl) rfl (by kernel_rfl) ?_ ?_ ?_
        · exact fits_plain _ _ (by rfl)
        · refine ⟨?_, ?_, ?_, ?_, ?_, ?_, ?_, ?_, ?_, ?_, ?_, ?_, ?_, ?_, ?_, ?_, ?_, ?_, ?_, ?_, ?_, ?_, ?_, ?_, ?_, ?_, ?_, ?_, ?_, ?_, ?_, ?_, ?_, ?_, ?_, ?_, ?_, ?_, ?_, ?_, ?_, ?_, ?_, ?_, ?_, ?_, ?_, ?_, ?_, trivial⟩
          · exact v_load 7 g7 (mx a b) rfl rfl (by kernel_rfl) (True.intro) (by kernel_rfl) rfl HX.out.k7
          · exact v_load 5 (w.heap.size + 1 + 1) c rfl rfl (by kernel_rfl) (True.intro) (by kernel_rfl) rfl HX.out.k2
          · exact v_slice2 101 102 0 1 (mx a b) c rfl rfl (by kernel_rfl) (True.intro) (by kernel_rfl) (by kernel_rfl) rfl (by kernel_rfl) (by kernel_rfl) rfl
          · exact v_call 103 2 _ [(mx a b), c] (mx (mx a b) c) _ rfl fn_Merge (fun v W h => merge2 (mx a b) c v W h) rfl (by kernel_rfl) (True.intro) (by kernel_rfl) (by kernel_rfl) rfl (ok2 (ok_mx ha hb) hc) (by simp)
          · exact v_load 3 w.heap.size a rfl rfl (by kernel_rfl) (True.intro) (by kernel_rfl) rfl HX.out.k0
          · exact v_load 4 (w.heap.size + 1) b rfl rfl (by kernel_rfl) (True.intro) (by kernel_rfl) rfl HX.out.k1
          · exact v_load 5 (w.heap.size + 1 + 1) c rfl rfl (by kernel_rfl) (True.intro) (by kernel_rfl) rfl HX.out.k2
          · exact v_slice3 105 106 107 4 5 6 a b c rfl rfl (by kernel_rfl) (True.intro) (by kernel_rfl) (by kernel_rfl) rfl (by kernel_rfl) (by kernel_rfl) rfl (by kernel_rfl) (by kernel_rfl) rfl
          · exact v_call 108 7 _ [a, b, c] (mx (mx a b) c) _ rfl fn_Merge (fun v W h => merge3 a b c v W h) rfl (by kernel_rfl) (True.intro) (by kernel_rfl) (by kernel_rfl) rfl (ok3 ha hb hc) (by simp)
          · exact v_eql 104 3 109 8 (mx (mx a b) c) (mx (mx a b) c) true _ rfl (eqV_refl _) rfl (by kernel_rfl) (True.intro) (by kernel_rfl) (by kernel_rfl) rfl (by kernel_rfl) (by kernel_rfl) rfl
          · exact v_move 110 9 (.bool true) (.inl rfl) rfl (by kernel_rfl) (True.intro) (by kernel_rfl) (by kernel_rfl) rfl
          · exact v_load 3 w.heap.size a rfl rfl (by kernel_rfl) ⟨rfl, by kernel_rfl, by kernel_rfl⟩ (by kernel_rfl) rfl HX.out.k0
          · exact v_load 4 (w.heap.size + 1) b rfl rfl (by kernel_rfl) ⟨rfl, by kernel_rfl, by kernel_rfl⟩ (by kernel_rfl) rfl HX.out.k1
          · exact v_load 5 (w.heap.size + 1 + 1) c rfl rfl (by kernel_rfl) ⟨rfl, by kernel_rfl, by kernel_rfl⟩ (by kernel_rfl) rfl HX.out.k2
          · exact v_slice2 113 114 12 13 b c rfl rfl (by kernel_rfl) ⟨rfl, by kernel_rfl, by kernel_rfl⟩ (by kernel_rfl) (by kernel_rfl) rfl (by kernel_rfl) (by kernel_rfl) rfl
          · exact v_call 115 14 _ [b, c] (mx b c) _ rfl fn_Merge (fun v W h => merge2 b c v W h) rfl (by kernel_rfl) ⟨rfl, by kernel_rfl, by kernel_rfl⟩ (by kernel_rfl) (by kernel_rfl) rfl (ok2 hb hc) (by simp)
          · exact v_slice2 112 116 11 15 a (mx b c) rfl rfl (by kernel_rfl) ⟨rfl, by kernel_rfl, by kernel_rfl⟩ (by kernel_rfl) (by kernel_rfl) rfl (by kernel_rfl) (by kernel_rfl) rfl
          · exact v_call 117 16 _ [a, (mx b c)] (mx a (mx b c)) _ rfl fn_Merge (fun v W h => merge2 a (mx b c) v W h) rfl (by kernel_rfl) ⟨rfl, by kernel_rfl, by kernel_rfl⟩ (by kernel_rfl) (by kernel_rfl) rfl (ok2 ha (ok_mx hb hc)) (by simp)
          · exact v_load 7 g7 (mx a b) rfl rfl (by kernel_rfl) ⟨rfl, by kernel_rfl, by kernel_rfl⟩ (by kernel_rfl) rfl HX.out.k7
          · exact v_load 5 (w.heap.size + 1 + 1) c rfl rfl (by kernel_rfl) ⟨rfl, by kernel_rfl, by kernel_rfl⟩ (by kernel_rfl) rfl HX.out.k2
          · exact v_slice2 119 120 18 19 (mx a b) c rfl rfl (by kernel_rfl) ⟨rfl, by kernel_rfl, by kernel_rfl⟩ (by kernel_rfl) (by kernel_rfl) rfl (by kernel_rfl) (by kernel_rfl) rfl
          · exact v_call 121 20 _ [(mx a b), c] (mx (mx a b) c) _ rfl fn_Merge (fun v W h => merge2 (mx a b) c v W h) rfl (by kernel_rfl) ⟨rfl, by kernel_rfl, by kernel_rfl⟩ (by kernel_rfl) (by kernel_rfl) rfl (ok2 (ok_mx ha hb) hc) (by simp)
          · exact v_eql 118 17 122 21 (mx a (mx b c)) (mx (mx a b) c) true _ rfl ((by rw [mx_assoc]; exact eqV_refl _)) rfl (by kernel_rfl) ⟨rfl, by kernel_rfl, by kernel_rfl⟩ (by kernel_rfl) (by kernel_rfl) rfl (by kernel_rfl) (by kernel_rfl) rfl
          · exact v_and 111 10 123 22 true rfl rfl (by kernel_rfl) (True.intro) (by kernel_rfl) (by kernel_rfl) rfl (by kernel_rfl) (by kernel_rfl) rfl
          · exact v_move 124 23 (.bool true) (.inl rfl) rfl (by kernel_rfl) (True.intro) (by kernel_rfl) (by kernel_rfl) rfl
          · exact v_load 8 g8 (mn a b) rfl rfl (by kernel_rfl) ⟨rfl, by kernel_rfl, by kernel_rfl⟩ (by kernel_rfl) rfl HX.out.k8
          · exact v_load 5 (w.heap.size + 1 + 1) c rfl rfl (by kernel_rfl) ⟨rfl, by kernel_rfl, by kernel_rfl⟩ (by kernel_rfl) rfl HX.out.k2
          · exact v_slice2 126 127 25 26 (mn a b) c rfl rfl (by kernel_rfl) ⟨rfl, by kernel_rfl, by kernel_rfl⟩ (by kernel_rfl) (by kernel_rfl) rfl (by kernel_rfl) (by kernel_rfl) rfl
          · exact v_call 128 27 _ [(mn a b), c] (mn (mn a b) c) _ rfl fn_Meet (fun v W h => meet2 (mn a b) c v W h) rfl (by kernel_rfl) ⟨rfl, by kernel_rfl, by kernel_rfl⟩ (by kernel_rfl) (by kernel_rfl) rfl (ok2 (ok_mn ha hb) hc) (by simp)
          · exact v_load 3 w.heap.size a rfl rfl (by kernel_rfl) ⟨rfl, by kernel_rfl, by kernel_rfl⟩ (by kernel_rfl) rfl HX.out.k0
          · exact v_load 4 (w.heap.size + 1) b rfl rfl (by kernel_rfl) ⟨rfl, by kernel_rfl, by kernel_rfl⟩ (by kernel_rfl) rfl HX.out.k1
          · exact v_load 5 (w.heap.size + 1 + 1) c rfl rfl (by kernel_rfl) ⟨rfl, by kernel_rfl, by kernel_rfl⟩ (by kernel_rfl) rfl HX.out.k2
          · exact v_slice3 130 131 132 29 30 31 a b c rfl rfl (by kernel_rfl) ⟨rfl, by kernel_rfl, by kernel_rfl⟩ (by kernel_rfl) (by kernel_rfl) rfl (by kernel_rfl) (by kernel_rfl) rfl (by kernel_rfl) (by kernel_rfl) rfl
          · exact v_call 133 32 _ [a, b, c] (mn (mn a b) c) _ rfl fn_Meet (fun v W h => meet3 a b c v W h) rfl (by kernel_rfl) ⟨rfl, by kernel_rfl, by kernel_rfl⟩ (by kernel_rfl) (by kernel_rfl) rfl (ok3 ha hb hc) (by simp)
          · exact v_eql 129 28 134 33 (mn (mn a b) c) (mn (mn a b) c) true _ rfl (eqV_refl _) rfl (by kernel_rfl) ⟨rfl, by kernel_rfl, by kernel_rfl⟩ (by kernel_rfl) (by kernel_rfl) rfl (by kernel_rfl) (by kernel_rfl) rfl
          · exact v_and 125 24 135 34 true rfl rfl (by kernel_rfl) (True.intro) (by kernel_rfl) (by kernel_rfl) rfl (by kernel_rfl) (by kernel_rfl) rfl
          · exact v_move 136 35 (.bool true) (.inl rfl) rfl (by kernel_rfl) (True.intro) (by kernel_rfl) (by kernel_rfl) rfl
          · exact v_load 3 w.heap.size a rfl rfl (by kernel_rfl) ⟨rfl, by kernel_rfl, by kernel_rfl⟩ (by kernel_rfl) rfl HX.out.k0
          · exact v_load 4 (w.heap.size + 1) b rfl rfl (by kernel_rfl) ⟨rfl, by kernel_rfl, by kernel_rfl⟩ (by kernel_rfl) rfl HX.out.k1
          · exact v_above 138 139 37 38 a b (aboveB a b) _ rfl (rfl) rfl (by kernel_rfl) ⟨rfl, by kernel_rfl, by kernel_rfl⟩ (by kernel_rfl) (by kernel_rfl) rfl (by kernel_rfl) (by kernel_rfl) rfl
          · exact v_load 7 g7 (mx a b) rfl rfl (by kernel_rfl) ⟨rfl, by kernel_rfl, by kernel_rfl⟩ (by kernel_rfl) rfl HX.out.k7
          · exact v_load 3 w.heap.size a rfl rfl (by kernel_rfl) ⟨rfl, by kernel_rfl, by kernel_rfl⟩ (by kernel_rfl) rfl HX.out.k0
          · exact v_eql 141 40 142 41 (mx a b) a (aboveB a b) _ rfl ((above_eq ha hb).symm) rfl (by kernel_rfl) ⟨rfl, by kernel_rfl, by kernel_rfl⟩ (by kernel_rfl) (by kernel_rfl) rfl (by kernel_rfl) (by kernel_rfl) rfl
          · exact v_beql 140 39 143 42 (aboveB a b) _ rfl rfl (by kernel_rfl) ⟨rfl, by kernel_rfl, by kernel_rfl⟩ (by kernel_rfl) (by kernel_rfl) rfl (by kernel_rfl) (by kernel_rfl) rfl
          · exact v_and 137 36 144 43 true rfl rfl (by kernel_rfl) (True.intro) (by kernel_rfl) (by kernel_rfl) rfl (by kernel_rfl) (by kernel_rfl) rfl
          · exact v_move 145 44 (.bool true) (.inl rfl) rfl (by kernel_rfl) (True.intro) (by kernel_rfl) (by kernel_rfl) rfl
          · exact v_head _ rfl hhead rfl (by kernel_rfl) ⟨rfl, by kernel_rfl, by kernel_rfl⟩
          · exact v_and 146 45 147 46 true rfl rfl (by kernel_rfl) (True.intro) (by kernel_rfl) (by kernel_rfl) rfl (by kernel_rfl) (by kernel_rfl) rfl
          · exact v_move 148 47 (.bool true) (.inr rfl) rfl (by kernel_rfl) (True.intro) (by kernel_rfl) (by kernel_rfl) rfl
        · intro o vs W6 hB6 hf
          have HX := hid (HX.out.keep hB6)
          clear hB6
          have e0 : vs 0 = .agg (vc (mx a b)) := hf 0 (by decide)
          have e1 : vs 1 = .agg (vc c) := hf 1 (by decide)
          have e3 : vs 3 = .agg (vc (mx (mx a b) c)) := hf 3 (by decide)
          have e4 : vs 4 = .agg (vc a) := hf 4 (by decide)
          have e5 : vs 5 = .agg (vc b) := hf 5 (by decide)
          have e6 : vs 6 = .agg (vc c) := hf 6 (by decide)
          have e8 : vs 8 = .agg (vc (mx (mx a b) c)) := hf 8 (by decide)
          have e9 : vs 9 = .bool true := hf 9 (by decide)
          have e10 : vs 10 = .bool true := hf 10 (by decide)
          have e11 : vs 11 = .agg (vc a) := hf 11 (by decide)
          have e12 : vs 12 = .agg (vc b) := hf 12 (by decide)
          have e13 : vs 13 = .agg (vc c) := hf 13 (by decide)
          have e15 : vs 15 = .agg (vc (mx b c)) := hf 15 (by decide)
          have e17 : vs 17 = .agg (vc (mx a (mx b c))) := hf 17 (by decide)
          have e18 : vs 18 = .agg (vc (mx a b)) := hf 18 (by decide)
          have e19 : vs 19 = .agg (vc c) := hf 19 (by decide)
          have e21 : vs 21 = .agg (vc (mx (mx a b) c)) := hf 21 (by decide)
          have e22 : vs 22 = .bool true := hf 22 (by decide)
          have e23 : vs 23 = .bool true := hf 23 (by decide)
          have e24 : vs 24 = .bool true := hf 24 (by decide)
          have e25 : vs 25 = .agg (vc (mn a b)) := hf 25 (by decide)
          have e26 : vs 26 = .agg (vc c) := hf 26 (by decide)
          have e28 : vs 28 = .agg (vc (mn (mn a b) c)) := hf 28 (by decide)
          have e29 : vs 29 = .agg (vc a) := hf 29 (by decide)
          have e30 : vs 30 = .agg (vc b) := hf 30 (by decide)
          have e31 : vs 31 = .agg (vc c) := hf 31 (by decide)
          have e33 : vs 33 = .agg (vc (mn (mn a b) c)) := hf 33 (by decide)
          have e34 : vs 34 = .bool true := hf 34 (by decide)
          have e35 : vs 35 = .bool true := hf 35 (by decide)
          have e36 : vs 36 = .bool true := hf 36 (by decide)
          have e37 : vs 37 = .agg (vc a) := hf 37 (by decide)
          have e38 : vs 38 = .agg (vc b) := hf 38 (by decide)
          have e39 : vs 39 = .bool (aboveB a b) := hf 39 (by decide)
          have e40 : vs 40 = .agg (vc (mx a b)) := hf 40 (by decide)
          have e41 : vs 41 = .agg (vc a) := hf 41 (by decide)
          have e42 : vs 42 = .bool (aboveB a b) := hf 42 (by decide)
          have e43 : vs 43 = .bool true := hf 43 (by decide)
          have e44 : vs 44 = .bool true := hf 44 (by decide)
          have e45 : vs 45 = .bool true := hf 45 (by decide)
          have e46 : vs 46 = .bool true := hf 46 (by decide)
          have e47 : vs 47 = .bool true := hf 47 (by decide)
          have e48 : vs 48 = .bool true := hf 48 (by decide)
          simp only [fill, List.setIfInBounds_toArray, List.set_cons_zero, List.set_cons_succ, e0, e1, e3, e4, e5, e6, e8, e9, e10, e11, e12, e13, e15, e17, e18, e19, e21, e22, e23, e24, e25, e26, e28, e29, e30, e31, e33, e34, e35, e36, e37, e38, e39, e40, e41, e42, e43, e44, e45, e46, e47, e48]
          clear e0 e1 e3 e4 e5 e6 e8 e9 e10 e11 e12 e13 e15 e17 e18 e19 e21 e22 e23 e24 e25 e26 e28 e29 e30 e31 e33 e34 e35 e36 e37 e38 e39 e40 e41 e42 e43 e44 e45 e46 e47 e48
          clear hf
          go_wp2
          go_ret
          exact ⟨rfl, HX.out.below⟩)

end Go.Proofs.Ytckfdjfcikljaaa
