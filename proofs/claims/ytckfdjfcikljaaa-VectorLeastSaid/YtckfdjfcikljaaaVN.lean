/-
  The document's Lacks; Dots.
-/
import Derived.Test.YtckfdjfcikljaaaVL
namespace Go.Proofs.Ytckfdjfcikljaaa
set_option linter.unusedVariables false
set_option linter.unusedSimpArgs false
open Go Go.RowKit Go.Maps Go.Sort

theorem vec_Lacks0 (v : Vec) (hv : okV v) (w : World) : Calls Try.prog 19 #[.agg #[.int .u32 0, .int .u32 0, .int .u32 0, .int .u32 0, .int .u32 0, .int .u32 0, .int .u32 0, .int .u32 0], .agg #[.int .u32 (v 0 : Int), .int .u32 (v 1 : Int), .int .u32 (v 2 : Int), .int .u32 (v 3 : Int), .int .u32 (v 4 : Int), .int .u32 (v 5 : Int), .int .u32 (v 6 : Int), .int .u32 (v 7 : Int)]] w (LackPost w zeroV v) := vec_Lacks zeroV v ok_zero hv w

set_option maxHeartbeats 1000000 in
theorem vec_Dots (v : Vec) (hv : okV v) (w : World) :
    Calls Try.prog 21 #[.agg #[.int .u32 (v 0 : Int), .int .u32 (v 1 : Int), .int .u32 (v 2 : Int), .int .u32 (v 3 : Int), .int .u32 (v 4 : Int), .int .u32 (v 5 : Int), .int .u32 (v 6 : Int), .int .u32 (v 7 : Int)]] w (LackPost w zeroV v) := by
  have hc := fun W => vec_Lacks0 v hv W
  go_enter Try.func21, Try.ntmps21
  go_wp2_with (go_at_call 19; (with_reducible refine (hc _).mono ?_); rintro e w1 ⟨u, rfl, hr, hB⟩; have HR := hid hr; clear hr)
  go_ret2
  exact ⟨u, rfl, ownsRow_base HR.out (by simp), st1 hB⟩

theorem lackTo_more {a b : Vec} {k m : Nat} : lackTo a b k ++ dotsFrom k (a k + 1) (m + 1) = (lackTo a b k ++ dotsFrom k (a k + 1) m) ++ [(k, a k + 1 + m)] := by
  rw [dotsFrom_succ, List.append_assoc]

structure RefS (w : World) (a b : Vec) (out : Value) (l : List Dot) (W : World) : Prop where
  x : W.heap[w.heap.size]? = some (.cells (vc a) 24 (0, 0))
  y : W.heap[w.heap.size + 1]? = some (.cells (vc b) 24 (0, 0))
  big : w.heap.size + 2 ≤ W.heap.size
  row : W.ownsRow (w.heap.size + 2) 26 2 out l.length (flat l)
  below : Below w.heap.size w W
theorem RefS.keep {w : World} {a b : Vec} {out : Value} {l : List Dot} {W W' : World} (h : RefS w a b out l W) (hB : Below W.heap.size W W') : RefS w a b out l W' :=
  ⟨heap_keep h.x hB, heap_keep h.y hB, Nat.le_trans h.big hB.size, owns_below h.row hB, h.below.trans (hB.mono h.below.size)⟩
theorem RefS.step {w : World} {a b : Vec} {out v3 : Value} {l l' : List Dot} {W W' : World} (hs : RefS w a b out l W) {n : Nat} {xs : List Value} (h : W'.ownsRow (w.heap.size + 2) 26 2 v3 n xs) (hn : n = l'.length) (hx : xs = flat l') (hB : Below (w.heap.size + 2) W W') : RefS w a b v3 l' W' := by
  subst hn hx
  exact ⟨(hB.block _ (by omega)).trans hs.x, (hB.block _ (by omega)).trans hs.y, Nat.le_trans hs.big hB.size, h, hs.below.trans (hB.mono (by omega))⟩

theorem wrap_i64 {z : Int} (h : -9223372036854775808 ≤ z) (h' : z < 9223372036854775808) : IntKind.i64.wrap z = z := by
  simp [IntKind.wrap, IntKind.bits, IntKind.signed]
  omega
theorem lack_val (x y c : Nat) (hx : x < 4294967296) (hy : y < 4294967296) (hc : c ≤ 34359738360) : wrap64 ((c : Int) + if wrap64 (wrap64 (y : Int) - wrap64 (x : Int)) < 0 then 0 else wrap64 (wrap64 (y : Int) - wrap64 (x : Int))) = ((c + (y - x) : Nat) : Int) := by
  have e1 : wrap64 (y : Int) = y := by simp only [wrap64]; omega
  have e2 : wrap64 (x : Int) = x := by simp only [wrap64]; omega
  have e3 : wrap64 ((y : Int) - x) = (y : Int) - x := by simp only [wrap64]; omega
  rw [e1, e2, e3]
  by_cases h : (y : Int) - x < 0
  · rw [if_pos h]
    simp only [wrap64]; omega
  · rw [if_neg h]
    simp only [wrap64]; omega
theorem max_sub (x y : Nat) : max ((y : Int) - x) 0 = ((y - x : Nat) : Int) := by omega

end Go.Proofs.Ytckfdjfcikljaaa
