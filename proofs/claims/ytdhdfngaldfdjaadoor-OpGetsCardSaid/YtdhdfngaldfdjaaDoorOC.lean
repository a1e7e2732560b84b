/-
  Which dots an operation may have, and its head; the name of one.
-/
import Derived.Test.YtdhdfngaldfdjaaDoorOB
namespace Go.Proofs.YtdhdfngaldfdjaaDoor.V
set_option linter.unusedVariables false
set_option linter.unusedSimpArgs false
set_option maxRecDepth 100000
open Go Go.RowKit Go.Maps Go.Sort

def fitD (o : OpM) (d : Dot) (h : Nat) : Bool := if h = 0 then eqB d (0, 0) else covB o.dep d
theorem below_next {A B C : World} (h : Below A.heap.size A B) (k : Below B.heap.size B C) : Below A.heap.size A C := h.trans (k.mono h.size)

set_option maxHeartbeats 400000 in
theorem op_dotFits (o : OpM) (d : Dot) (h : Nat) (w : World) :
    Calls Tryd.prog 51 #[.agg (oc o), .agg #[.int .u8 (d.1 : Int), .int .u32 (d.2 : Int)], .int .u16 (h : Int)] w
      fun e w' => e = .returned (.bool (fitD o d h)) ∧ Below w.heap.size w w' := by
  have hcov := fun W => op_Covers o d W
  obtain ⟨r, n⟩ := d
  dsimp only at hcov ⊢
  unfold fitD
  by_cases h0 : h = 0
  · rw [if_pos h0]
    subst h0
    have hq : ∀ W, (binOp .eql 24 (.agg #[.int .u8 (r : Int), .int .u32 (n : Int)]) (.agg #[.int .u8 0, .int .u32 0])).run Tryd.prog W = .ok (.bool (eqB (r, n) (0, 0))) W := fun W => run_eql r n 0 0 W
    generalize eqB (r, n) (0, 0) = bb at hq ⊢
    go_enter Tryd.func51, Tryd.ntmps51
    go_wp2
    go_ret
    exact ⟨rfl, below_al2 _ _ _⟩
  · have h1 : ((h : Int) == 0) = false := by simp [h0]
    rw [if_neg h0]
    clear h0
    generalize covB o.dep (r, n) = bb at hcov ⊢
    go_enter Tryd.func51, Tryd.ntmps51
    go_wp2_with (first
      | (refine load_op rfl _ rfl w.heap.size rfl _ ((opAt_new w o).al _) ?_)
      | (go_at_call 9; (with_reducible refine (hcov _).mono ?_); rintro e w' ⟨rfl, hB⟩))
    go_ret
    exact ⟨rfl, below_next (below_al2 _ _ _) hB⟩

def dotsM (o : OpM) (h : Nat) : Bool := fitD o (o.dr, o.dn) (h &&& 1) && (fitD o (o.ar, o.an) (h &&& 32) && fitD o (o.vr, o.vn) (h &&& 64))

set_option maxHeartbeats 400000 in
theorem op_dotsFit (o : OpM) (h : Nat) (hh : h < 65536) (w : World) :
    Calls Tryd.prog 22 #[.agg (oc o), .int .u16 (h : Int)] w
      fun e w' => e = .returned (.bool (dotsM o h)) ∧ Below w.heap.size w w' := by
  have b1 : bits .and .u16 (h : Int) 1 = ((h &&& 1 : Nat) : Int) := and_u16 h 1 hh (by omega)
  have b2 : bits .and .u16 (h : Int) 32 = ((h &&& 32 : Nat) : Int) := and_u16 h 32 hh (by omega)
  have b3 : bits .and .u16 (h : Int) 64 = ((h &&& 64 : Nat) : Int) := and_u16 h 64 hh (by omega)
  have k1 := fun W => op_dotFits o (o.dr, o.dn) (h &&& 1) W
  have k2 := fun W => op_dotFits o (o.ar, o.an) (h &&& 32) W
  have k3 := fun W => op_dotFits o (o.vr, o.vn) (h &&& 64) W
  dsimp only at k1 k2 k3
  unfold dotsM
  generalize fitD o (o.dr, o.dn) (h &&& 1) = f1 at k1 ⊢
  generalize fitD o (o.ar, o.an) (h &&& 32) = f2 at k2 ⊢
  generalize fitD o (o.vr, o.vn) (h &&& 64) = f3 at k3 ⊢
  generalize h &&& 1 = x1 at b1 k1
  generalize h &&& 32 = x2 at b2 k2
  generalize h &&& 64 = x3 at b3 k3
  have g15 : (oc o)[15]? = some (.int .u8 (o.dr : Int)) := rfl
  have g16 : (oc o)[16]? = some (.int .u32 (o.dn : Int)) := rfl
  have g21 : (oc o)[21]? = some (.int .u8 (o.ar : Int)) := rfl
  have g22 : (oc o)[22]? = some (.int .u32 (o.an : Int)) := rfl
  have g23 : (oc o)[23]? = some (.int .u8 (o.vr : Int)) := rfl
  have g24 : (oc o)[24]? = some (.int .u32 (o.vn : Int)) := rfl
  go_enter Tryd.func22, Tryd.ntmps22
  cases f1
  · go_wp2_with (first
      | (refine load_op rfl _ rfl w.heap.size rfl _ (opAt_new w o) ?_)
      | (go_at_call 51; (with_reducible refine (k1 _).mono ?_); rintro e w1 ⟨rfl, hB1⟩))
    go_ret
    exact ⟨rfl, below_next ((Below.refl _ _).alloc (Nat.le_refl _) _) hB1⟩
  · cases f2
    · go_wp2_with (first
        | (refine load_op rfl _ rfl w.heap.size rfl _ (opAt_new w o) ?_)
        | (refine load_op rfl _ rfl w.heap.size rfl _ (HO1.out) ?_)
        | (go_at_call 51; (with_reducible refine (k1 _).mono ?_); rintro e w1 ⟨rfl, hB1⟩; have HO1 := hid ((opAt_new w o).keep hB1); have c21 := HO1.out.c21; have c22 := HO1.out.c22)
        | (go_at_call 51; (with_reducible refine (k2 _).mono ?_); rintro e w2 ⟨rfl, hB2⟩))
      go_ret
      exact ⟨rfl, below_next (below_next ((Below.refl _ _).alloc (Nat.le_refl _) _) hB1) hB2⟩
    · go_wp2_with (first
        | (refine load_op rfl _ rfl w.heap.size rfl _ (opAt_new w o) ?_)
        | (refine load_op rfl _ rfl w.heap.size rfl _ (HO2.out) ?_)
        | (refine load_op rfl _ rfl w.heap.size rfl _ (HO1.out) ?_)
        | (go_at_call 51; (with_reducible refine (k1 _).mono ?_); rintro e w1 ⟨rfl, hB1⟩; have HO1 := hid ((opAt_new w o).keep hB1); have c21 := HO1.out.c21; have c22 := HO1.out.c22)
        | (go_at_call 51; (with_reducible refine (k2 _).mono ?_); rintro e w2 ⟨rfl, hB2⟩; have HO2 := hid (HO1.out.keep hB2); have d23 := HO2.out.c23; have d24 := HO2.out.c24)
        | (go_at_call 51; (with_reducible refine (k3 _).mono ?_); rintro e w3 ⟨rfl, hB3⟩))
      go_ret
      exact ⟨by simp, below_next (below_next (below_next ((Below.refl _ _).alloc (Nat.le_refl _) _) hB1) hB2) hB3⟩

def headM (o : OpM) : Bool := decide (1 ≤ o.tm ∧ o.tm ≤ 281474976710656 ∧ o.who ≠ 0 ∧ o.kd ≤ 8) && (if o.kd = 0 then eqB (o.cr, o.cn) (o.r, o.n) else covB o.dep (o.cr, o.cn))

set_option maxHeartbeats 400000 in
theorem op_headFits (o : OpM) (w : World) :
    Calls Tryd.prog 19 #[.agg (oc o)] w
      fun e w' => e = .returned (.bool (headM o)) ∧ Below w.heap.size w w' := by
  have k1 := fun W => op_Covers o (o.cr, o.cn) W
  have hq := fun W => run_eql o.cr o.cn o.r o.n W
  dsimp only at k1 hq
  unfold headM
  generalize covB o.dep (o.cr, o.cn) = f1 at k1 ⊢
  generalize eqB (o.cr, o.cn) (o.r, o.n) = f2 at hq ⊢
  have HE := hid (below_al w (.cells (oc o) 30))
  have g0 : (oc o)[0]? = some (.int .u8 (o.r : Int)) := rfl
  have g1 : (oc o)[1]? = some (.int .u32 (o.n : Int)) := rfl
  have g10 : (oc o)[10]? = some (.int .u64 (o.tm : Int)) := rfl
  have g11 : (oc o)[11]? = some (.int .u32 (o.who : Int)) := rfl
  have g12 : (oc o)[12]? = some (.int .u8 (o.cr : Int)) := rfl
  have g13 : (oc o)[13]? = some (.int .u32 (o.cn : Int)) := rfl
  have g14 : (oc o)[14]? = some (.int .u8 (o.kd : Int)) := rfl
  by_cases ht : 1 ≤ o.tm
  · have t1 : decide ((o.tm : Int) < 1) = false := decide_eq_false (by omega)
    by_cases hm : o.tm ≤ 281474976710656
    · have t2 : decide (281474976710656 < (o.tm : Int)) = false := decide_eq_false (by omega)
      by_cases hw : o.who = 0
      · rw [decide_eq_false (by omega), Bool.false_and]
        have t3 : ((o.who : Int) == 0) = true := by simp [hw]
        clear hw ht hm
        go_enter Tryd.func19, Tryd.ntmps19
        go_wp2
        go_ret
        exact ⟨rfl, HE.out⟩
      · have t3 : ((o.who : Int) == 0) = false := by simp [hw]
        by_cases hk : o.kd ≤ 8
        · have t4 : decide (8 < (o.kd : Int)) = false := decide_eq_false (by omega)
          rw [decide_eq_true ⟨ht, hm, hw, hk⟩, Bool.true_and]
          by_cases h0 : o.kd = 0
          · rw [if_pos h0]
            have t5 : ((o.kd : Int) == 0) = true := by simp [h0]
            clear h0 hw ht hm hk
            go_enter Tryd.func19, Tryd.ntmps19
            go_wp2
            go_ret
            exact ⟨rfl, HE.out⟩
          · rw [if_neg h0]
            have t5 : ((o.kd : Int) == 0) = false := by simp [h0]
            clear h0 hw ht hm hk
            go_enter Tryd.func19, Tryd.ntmps19
            go_wp2_with (first
              | (refine load_op rfl _ rfl w.heap.size rfl _ (opAt_new w o) ?_)
              | (go_at_call 9; (with_reducible refine (k1 _).mono ?_); rintro e w1 ⟨rfl, hB1⟩))
            go_ret
            exact ⟨rfl, below_next HE.out hB1⟩
        · rw [decide_eq_false (by omega), Bool.false_and]
          have t4 : decide (8 < (o.kd : Int)) = true := decide_eq_true (by omega)
          clear hw ht hm hk
          go_enter Tryd.func19, Tryd.ntmps19
          go_wp2
          go_ret
          exact ⟨rfl, HE.out⟩
    · rw [decide_eq_false (by omega), Bool.false_and]
      have t2 : decide (281474976710656 < (o.tm : Int)) = true := decide_eq_true (by omega)
      clear ht hm
      go_enter Tryd.func19, Tryd.ntmps19
      go_wp2
      go_ret
      exact ⟨rfl, HE.out⟩
  · rw [decide_eq_false (by omega), Bool.false_and]
    have t1 : decide ((o.tm : Int) < 1) = true := decide_eq_true (by omega)
    clear ht
    go_enter Tryd.func19, Tryd.ntmps19
    go_wp2
    go_ret
    exact ⟨rfl, HE.out⟩

end Go.Proofs.YtdhdfngaldfdjaaDoor.V
