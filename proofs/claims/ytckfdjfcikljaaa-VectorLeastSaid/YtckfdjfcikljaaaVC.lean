/-
  How many dots a vector covers, how many another one lacks.
-/
import Derived.Test.YtckfdjfcikljaaaVB
namespace Go.Proofs.Ytckfdjfcikljaaa
set_option linter.unusedVariables false
set_option linter.unusedSimpArgs false
open Go Go.RowKit Go.Maps Go.Sort

/-- How many dots b's first k replicas have that a lacks. -/
def cntTo (a b : Vec) : Nat → Nat
  | 0 => 0
  | k + 1 => cntTo a b k + (b k - a k)
theorem cntTo_le {a b : Vec} (hb : okV b) : ∀ k, cntTo a b k ≤ k * 4294967295
  | 0 => Nat.le_refl _
  | k + 1 => by have := cntTo_le (a := a) hb k; have := hb.1 k; simp only [cntTo]; omega
theorem cntTo_mono (a b : Vec) {j k : Nat} (h : j ≤ k) : cntTo a b j ≤ cntTo a b k := by
  induction k with
  | zero => obtain rfl : j = 0 := by omega
            exact Nat.le_refl _
  | succ k ih =>
    by_cases hj : j ≤ k
    · exact Nat.le_trans (ih hj) (Nat.le_add_right _ _)
    · obtain rfl : j = k + 1 := by omega
      exact Nat.le_refl _
theorem sub32 {x y : Nat} (h : x < y) (hy : y < 4294967296) : ((y : Int) - x) % 4294967296 = ((y - x : Nat) : Int) := by omega

set_option maxHeartbeats 1000000 in
set_option maxRecDepth 100000 in
theorem count_Lacks (a b : Vec) (ha : okV a) (hb : okV b) (w : World) :
    Calls Try.prog 33 #[.agg #[.int .u32 (a 0 : Int), .int .u32 (a 1 : Int), .int .u32 (a 2 : Int), .int .u32 (a 3 : Int), .int .u32 (a 4 : Int), .int .u32 (a 5 : Int), .int .u32 (a 6 : Int), .int .u32 (a 7 : Int)], .agg #[.int .u32 (b 0 : Int), .int .u32 (b 1 : Int), .int .u32 (b 2 : Int), .int .u32 (b 3 : Int), .int .u32 (b 4 : Int), .int .u32 (b 5 : Int), .int .u32 (b 6 : Int), .int .u32 (b 7 : Int)]] w
      fun e w' => e = .returned (.int .u64 (cntTo a b 8 : Int)) ∧ Below w.heap.size w w' := by
  have H0 := hid (And.intro (box2_0 w a b) (And.intro (box2_1 w a b) (below_al2 w (.cells #[.int .u32 (a 0 : Int), .int .u32 (a 1 : Int), .int .u32 (a 2 : Int), .int .u32 (a 3 : Int), .int .u32 (a 4 : Int), .int .u32 (a 5 : Int), .int .u32 (a 6 : Int), .int .u32 (a 7 : Int)] 24) (.cells #[.int .u32 (b 0 : Int), .int .u32 (b 1 : Int), .int .u32 (b 2 : Int), .int .u32 (b 3 : Int), .int .u32 (b 4 : Int), .int .u32 (b 5 : Int), .int .u32 (b 6 : Int), .int .u32 (b 7 : Int)] 24))))
  have HO := hid (And.intro ha hb)
  clear ha hb
  go_enter Try.func33, Try.ntmps33
  go_wp2
  go_loopw [5, 7] (fun c i wr => ∃ k : Nat, k ≤ 8 ∧ i = .int .i64 k ∧ c = .int .u64 (cntTo a b k : Int) ∧ wr.heap[w.heap.size]? = some (.cells (vc a) 24 (0, 0)) ∧ wr.heap[w.heap.size + 1]? = some (.cells (vc b) 24 (0, 0)) ∧ Below w.heap.size w wr) (fun _ i _ => 8 - (intOf i).toNat)
  case atStart => exact ⟨0, by omega, rfl, rfl, H0.out.1, H0.out.2.1, H0.out.2.2⟩
  case round =>
    obtain ⟨k, hk, rfl, rfl, hx, hy, hB⟩ := hrel
    by_cases hlt : k < 8
    · have c0 := cellV hx hlt
      have c1 := cellV hy hlt
      have hak := HO.out.1.1 k
      have hbk := HO.out.2.1 k
      have hcl := cntTo_le (a := a) HO.out.2 k
      have hcs : cntTo a b (k + 1) = cntTo a b k + (b k - a k) := rfl
      have HX := hid (And.intro hx (And.intro hy hcs))
      obtain ⟨c, hc⟩ : ∃ c, c = cntTo a b k := ⟨_, rfl⟩
      rw [← hc] at hcl ⊢
      have HC := hid hc
      clear hx hy hcs hc
      by_cases hle : a k < b k
      · have hs1 := sub32 hle hbk
        have hle' : (a k : Int) < b k := by omega
        obtain ⟨dd, hdd⟩ : ∃ dd : Nat, dd = b k - a k := ⟨_, rfl⟩
        rw [← hdd] at hs1
        have hc64 : ((c : Int) + (dd : Int)) % 18446744073709551616 = ((c + dd : Nat) : Int) := by omega
        have HD := hid (And.intro hdd hle)
        clear hdd hle hcl hak hbk
        go_wp2
        go_quiet (fail)
        go_wp2
        go_quiet (fail)
        go_wp2
        go_roundw
        case rel => exact ⟨k + 1, by omega, by go_num, by rw [HX.out.2.2, ← HC.out, ← HD.out.1]; simp, HX.out.1, HX.out.2.1, hB.trans (below_drewN _ _ _)⟩
        case measure => simp [intOf]; omega
      · have hle' : ¬ (a k : Int) < b k := by omega
        go_wp2
        go_quiet (fail)
        go_wp2
        go_roundw
        case rel => exact ⟨k + 1, by omega, by go_num, by rw [HX.out.2.2, HC.out]; congr 1; omega, HX.out.1, HX.out.2.1, hB.trans (below_drewN _ _ _)⟩
        case measure => simp [intOf]; omega
    · obtain rfl : k = 8 := by omega
      go_wp2
      go_ret
      exact ⟨rfl, hB⟩

def sumTo (v : Vec) : Nat → Nat
  | 0 => 0
  | k + 1 => sumTo v k + v k
theorem sumTo_zero (v : Vec) : ∀ k, cntTo zeroV v k = sumTo v k
  | 0 => rfl
  | k + 1 => by simp only [cntTo, sumTo]; rw [sumTo_zero v k]; rfl
theorem sumTo_le {v : Vec} (hv : okV v) (k : Nat) : sumTo v k ≤ k * 4294967295 := by rw [← sumTo_zero]; exact cntTo_le hv k

theorem count_zero (v : Vec) (hv : okV v) (w : World) :
    Calls Try.prog 33 #[.agg #[.int .u32 0, .int .u32 0, .int .u32 0, .int .u32 0, .int .u32 0, .int .u32 0, .int .u32 0, .int .u32 0], .agg #[.int .u32 (v 0 : Int), .int .u32 (v 1 : Int), .int .u32 (v 2 : Int), .int .u32 (v 3 : Int), .int .u32 (v 4 : Int), .int .u32 (v 5 : Int), .int .u32 (v 6 : Int), .int .u32 (v 7 : Int)]] w
      fun e w' => e = .returned (.int .u64 (sumTo v 8 : Int)) ∧ Below w.heap.size w w' := by
  rw [← sumTo_zero]
  exact count_Lacks zeroV v ok_zero hv w

set_option maxHeartbeats 1000000 in
theorem vec_Count (v : Vec) (hv : okV v) (w : World) :
    Calls Try.prog 17 #[.agg #[.int .u32 (v 0 : Int), .int .u32 (v 1 : Int), .int .u32 (v 2 : Int), .int .u32 (v 3 : Int), .int .u32 (v 4 : Int), .int .u32 (v 5 : Int), .int .u32 (v 6 : Int), .int .u32 (v 7 : Int)]] w
      fun e w' => e = .returned (.int .u64 (sumTo v 8 : Int)) ∧ Below w.heap.size w w' := by
  have hc := fun W => count_zero v hv W
  go_enter Try.func17, Try.ntmps17
  go_wp2_with (go_at_call 33; (with_reducible refine (hc _).mono ?_); rintro e w1 ⟨rfl, hB⟩)
  go_ret
  exact ⟨rfl, st1 hB⟩

set_option maxHeartbeats 1000000 in
set_option maxRecDepth 100000 in
theorem ref_Count (v : Vec) (hv : okV v) (w : World) :
    Calls Try.prog 18 #[.agg #[.int .u32 (v 0 : Int), .int .u32 (v 1 : Int), .int .u32 (v 2 : Int), .int .u32 (v 3 : Int), .int .u32 (v 4 : Int), .int .u32 (v 5 : Int), .int .u32 (v 6 : Int), .int .u32 (v 7 : Int)]] w
      fun e w' => e = .returned (.int .u64 (sumTo v 8 : Int)) ∧ Below w.heap.size w w' := by
  have H0 := hid (And.intro (heap_alloc_last' w (.cells #[.int .u32 (v 0 : Int), .int .u32 (v 1 : Int), .int .u32 (v 2 : Int), .int .u32 (v 3 : Int), .int .u32 (v 4 : Int), .int .u32 (v 5 : Int), .int .u32 (v 6 : Int), .int .u32 (v 7 : Int)] 24)) (below_al w (.cells #[.int .u32 (v 0 : Int), .int .u32 (v 1 : Int), .int .u32 (v 2 : Int), .int .u32 (v 3 : Int), .int .u32 (v 4 : Int), .int .u32 (v 5 : Int), .int .u32 (v 6 : Int), .int .u32 (v 7 : Int)] 24)))
  have HO := hid hv
  clear hv
  go_enter Try.func18, Try.ntmps18
  go_wp2
  go_loopw [3, 4] (fun c i wr => ∃ k : Nat, k ≤ 8 ∧ i = .int .i64 k ∧ c = .int .u64 (sumTo v k : Int) ∧ wr.heap[w.heap.size]? = some (.cells (vc v) 24 (0, 0)) ∧ Below w.heap.size w wr) (fun _ i _ => 8 - (intOf i).toNat)
  case atStart => exact ⟨0, by omega, rfl, rfl, H0.out.1, H0.out.2⟩
  case round =>
    obtain ⟨k, hk, rfl, rfl, hx, hB⟩ := hrel
    by_cases hlt : k < 8
    · have c0 := cellV hx hlt
      have hvk := HO.out.1 k
      have hcl := sumTo_le HO.out k
      have hcs : sumTo v (k + 1) = sumTo v k + v k := rfl
      have HX := hid (And.intro hx hcs)
      obtain ⟨c, hc⟩ : ∃ c, c = sumTo v k := ⟨_, rfl⟩
      rw [← hc] at hcl ⊢
      have HC := hid hc
      have hc64 : ((c : Int) + (v k : Int)) % 18446744073709551616 = ((c + v k : Nat) : Int) := by omega
      clear hx hcs hc hcl hvk
      go_wp2
      go_roundw
      case rel => exact ⟨k + 1, by omega, by go_num, by rw [HX.out.2, ← HC.out]; simp, HX.out.1, hB⟩
      case measure => simp [intOf]; omega
    · obtain rfl : k = 8 := by omega
      go_wp2
      go_ret
      exact ⟨rfl, hB⟩
end Go.Proofs.Ytckfdjfcikljaaa
