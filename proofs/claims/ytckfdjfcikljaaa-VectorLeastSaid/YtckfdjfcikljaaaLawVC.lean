/-
  The law VectorCovers.
-/
import Derived.Test.YtckfdjfcikljaaaLawVT
import Derived.Test.YtckfdjfcikljaaaVOrd
import Derived.Deep.Cut
namespace Go.Proofs.Ytckfdjfcikljaaa
set_option linter.unusedVariables false
set_option linter.unusedSimpArgs false
open Go Go.RowKit Go.Maps
attribute [local go_sem ↓] Go.wp_at_zero Go.wp_at_succ

theorem box_all {w : World} {a b : Vec} {d : Dot} {W : World} (h : Boxes w a b d W) : Boxes w a b d W ∧ W.cell? ⟨w.heap.size, 0, none⟩ = some (.int .u32 (a 0 : Int)) ∧ W.cell? ⟨w.heap.size, 1, none⟩ = some (.int .u32 (a 1 : Int)) ∧ W.cell? ⟨w.heap.size, 2, none⟩ = some (.int .u32 (a 2 : Int)) ∧ W.cell? ⟨w.heap.size, 3, none⟩ = some (.int .u32 (a 3 : Int)) ∧ W.cell? ⟨w.heap.size, 4, none⟩ = some (.int .u32 (a 4 : Int)) ∧ W.cell? ⟨w.heap.size, 5, none⟩ = some (.int .u32 (a 5 : Int)) ∧ W.cell? ⟨w.heap.size, 6, none⟩ = some (.int .u32 (a 6 : Int)) ∧ W.cell? ⟨w.heap.size, 7, none⟩ = some (.int .u32 (a 7 : Int)) ∧ W.cell? ⟨w.heap.size + 1, 0, none⟩ = some (.int .u32 (b 0 : Int)) ∧ W.cell? ⟨w.heap.size + 1, 1, none⟩ = some (.int .u32 (b 1 : Int)) ∧ W.cell? ⟨w.heap.size + 1, 2, none⟩ = some (.int .u32 (b 2 : Int)) ∧ W.cell? ⟨w.heap.size + 1, 3, none⟩ = some (.int .u32 (b 3 : Int)) ∧ W.cell? ⟨w.heap.size + 1, 4, none⟩ = some (.int .u32 (b 4 : Int)) ∧ W.cell? ⟨w.heap.size + 1, 5, none⟩ = some (.int .u32 (b 5 : Int)) ∧ W.cell? ⟨w.heap.size + 1, 6, none⟩ = some (.int .u32 (b 6 : Int)) ∧ W.cell? ⟨w.heap.size + 1, 7, none⟩ = some (.int .u32 (b 7 : Int)) ∧ W.cell? ⟨w.heap.size + 2, 0, none⟩ = some (.int .u8 (d.1 : Int)) ∧ W.cell? ⟨w.heap.size + 2, 1, none⟩ = some (.int .u32 (d.2 : Int)) :=
  ⟨h, cellV h.x (k := 0) (by omega), cellV h.x (k := 1) (by omega), cellV h.x (k := 2) (by omega), cellV h.x (k := 3) (by omega), cellV h.x (k := 4) (by omega), cellV h.x (k := 5) (by omega), cellV h.x (k := 6) (by omega), cellV h.x (k := 7) (by omega), cellV h.y (k := 0) (by omega), cellV h.y (k := 1) (by omega), cellV h.y (k := 2) (by omega), cellV h.y (k := 3) (by omega), cellV h.y (k := 4) (by omega), cellV h.y (k := 5) (by omega), cellV h.y (k := 6) (by omega), cellV h.y (k := 7) (by omega), (cells2 h.z).1, (cells2 h.z).2⟩
theorem box_step {w : World} {a b : Vec} {d : Dot} {W0 W : World} {R : Prop} (hB : Below W0.heap.size W0 W) (h : Boxes w a b d W0 ∧ R) : Boxes w a b d W ∧ W.cell? ⟨w.heap.size, 0, none⟩ = some (.int .u32 (a 0 : Int)) ∧ W.cell? ⟨w.heap.size, 1, none⟩ = some (.int .u32 (a 1 : Int)) ∧ W.cell? ⟨w.heap.size, 2, none⟩ = some (.int .u32 (a 2 : Int)) ∧ W.cell? ⟨w.heap.size, 3, none⟩ = some (.int .u32 (a 3 : Int)) ∧ W.cell? ⟨w.heap.size, 4, none⟩ = some (.int .u32 (a 4 : Int)) ∧ W.cell? ⟨w.heap.size, 5, none⟩ = some (.int .u32 (a 5 : Int)) ∧ W.cell? ⟨w.heap.size, 6, none⟩ = some (.int .u32 (a 6 : Int)) ∧ W.cell? ⟨w.heap.size, 7, none⟩ = some (.int .u32 (a 7 : Int)) ∧ W.cell? ⟨w.heap.size + 1, 0, none⟩ = some (.int .u32 (b 0 : Int)) ∧ W.cell? ⟨w.heap.size + 1, 1, none⟩ = some (.int .u32 (b 1 : Int)) ∧ W.cell? ⟨w.heap.size + 1, 2, none⟩ = some (.int .u32 (b 2 : Int)) ∧ W.cell? ⟨w.heap.size + 1, 3, none⟩ = some (.int .u32 (b 3 : Int)) ∧ W.cell? ⟨w.heap.size + 1, 4, none⟩ = some (.int .u32 (b 4 : Int)) ∧ W.cell? ⟨w.heap.size + 1, 5, none⟩ = some (.int .u32 (b 5 : Int)) ∧ W.cell? ⟨w.heap.size + 1, 6, none⟩ = some (.int .u32 (b 6 : Int)) ∧ W.cell? ⟨w.heap.size + 1, 7, none⟩ = some (.int .u32 (b 7 : Int)) ∧ W.cell? ⟨w.heap.size + 2, 0, none⟩ = some (.int .u8 (d.1 : Int)) ∧ W.cell? ⟨w.heap.size + 2, 1, none⟩ = some (.int .u32 (d.2 : Int)) := box_all (h.1.keep hB)

theorem flat2 (a b : Vec) : (#[.int .u32 (a 0 : Int), .int .u32 (a 1 : Int), .int .u32 (a 2 : Int), .int .u32 (a 3 : Int), .int .u32 (a 4 : Int), .int .u32 (a 5 : Int), .int .u32 (a 6 : Int), .int .u32 (a 7 : Int), .int .u32 (b 0 : Int), .int .u32 (b 1 : Int), .int .u32 (b 2 : Int), .int .u32 (b 3 : Int), .int .u32 (b 4 : Int), .int .u32 (b 5 : Int), .int .u32 (b 6 : Int), .int .u32 (b 7 : Int)] : Array Value) = (flatV [a, b]).toArray := rfl
theorem new2 (W : World) (g : Nat) (a b : Vec) (hg : g = W.heap.size) (ha : okV a) (hb : okV b) : VecsV (W.alloc (.cells #[.int .u32 (a 0 : Int), .int .u32 (a 1 : Int), .int .u32 (a 2 : Int), .int .u32 (a 3 : Int), .int .u32 (a 4 : Int), .int .u32 (a 5 : Int), .int .u32 (a 6 : Int), .int .u32 (a 7 : Int), .int .u32 (b 0 : Int), .int .u32 (b 1 : Int), .int .u32 (b 2 : Int), .int .u32 (b 3 : Int), .int .u32 (b 4 : Int), .int .u32 (b 5 : Int), .int .u32 (b 6 : Int), .int .u32 (b 7 : Int)] 24)) (.slice (some ⟨g, 0, none⟩) 2 2) [a, b] :=
  new_vecsV W g [a, b] _ 2 hg rfl (flat2 a b) (by intro d hd; simp at hd; rcases hd with rfl | rfl; exact ha; exact hb) (by simp)
theorem new3 (W : World) (g : Nat) (a b c : Vec) (hg : g = W.heap.size) (ha : okV a) (hb : okV b) (hc : okV c) : VecsV (W.alloc (.cells #[.int .u32 (a 0 : Int), .int .u32 (a 1 : Int), .int .u32 (a 2 : Int), .int .u32 (a 3 : Int), .int .u32 (a 4 : Int), .int .u32 (a 5 : Int), .int .u32 (a 6 : Int), .int .u32 (a 7 : Int), .int .u32 (b 0 : Int), .int .u32 (b 1 : Int), .int .u32 (b 2 : Int), .int .u32 (b 3 : Int), .int .u32 (b 4 : Int), .int .u32 (b 5 : Int), .int .u32 (b 6 : Int), .int .u32 (b 7 : Int), .int .u32 (c 0 : Int), .int .u32 (c 1 : Int), .int .u32 (c 2 : Int), .int .u32 (c 3 : Int), .int .u32 (c 4 : Int), .int .u32 (c 5 : Int), .int .u32 (c 6 : Int), .int .u32 (c 7 : Int)] 24)) (.slice (some ⟨g, 0, none⟩) 3 3) [a, b, c] :=
  new_vecsV W g [a, b, c] _ 3 hg rfl rfl (by intro d hd; simp at hd; rcases hd with rfl | rfl | rfl; exact ha; exact hb; exact hc) (by simp)
theorem merge2 (a b : Vec) (v : Value) (W : World) (h : VecsV W v [a, b]) : Calls Try.prog 24 #[v] W fun e w' => e = .returned (.agg #[.int .u32 ((mx a b) 0 : Int), .int .u32 ((mx a b) 1 : Int), .int .u32 ((mx a b) 2 : Int), .int .u32 ((mx a b) 3 : Int), .int .u32 ((mx a b) 4 : Int), .int .u32 ((mx a b) 5 : Int), .int .u32 ((mx a b) 6 : Int), .int .u32 ((mx a b) 7 : Int)]) ∧ Below W.heap.size W w' := vec_Merge v [a, b] W h
theorem meet2 (a b : Vec) (v : Value) (W : World) (h : VecsV W v [a, b]) : Calls Try.prog 26 #[v] W fun e w' => e = .returned (.agg #[.int .u32 ((mn a b) 0 : Int), .int .u32 ((mn a b) 1 : Int), .int .u32 ((mn a b) 2 : Int), .int .u32 ((mn a b) 3 : Int), .int .u32 ((mn a b) 4 : Int), .int .u32 ((mn a b) 5 : Int), .int .u32 ((mn a b) 6 : Int), .int .u32 ((mn a b) 7 : Int)]) ∧ Below W.heap.size W w' := vec_Meet v [a, b] W h

/-! ### what the law says, plainly -/
theorem cov_mx {a b : Vec} {d : Dot} : covB (mx a b) d = (covB a d || covB b d) := by
  unfold covB mx
  cases mayD d
  · rfl
  · simp only [Bool.true_and, ← Bool.decide_or]
    apply decide_eq_decide.2
    omega
theorem cov_mn {a b : Vec} {d : Dot} : covB (mn a b) d = (covB a d && covB b d) := by
  unfold covB mn
  cases mayD d
  · rfl
  · simp only [Bool.true_and, ← Bool.decide_and]
    apply decide_eq_decide.2
    omega
theorem may_lt {d : Dot} (h : mayD d = true) : d.1 < 8 := by simp [mayD] at h; exact h.1
theorem cov_above {a b : Vec} {d : Dot} (h : aboveB a b = true) (hc : covB b d = true) : covB a d = true := by
  unfold covB at *
  simp only [Bool.and_eq_true, decide_eq_true_eq] at *
  exact ⟨hc.1, Nat.le_trans hc.2 (above_iff.1 h d.1 (may_lt hc.1))⟩
theorem upd_at (v : Vec) (k n : Nat) : upd v k n k = n := by simp [upd]
theorem upd_ne (v : Vec) {k n i : Nat} (h : i ≠ k) : upd v k n i = v i := by simp [upd, h]
theorem sum_upd (v : Vec) {r : Nat} : ∀ k, (r < k → sumTo (upd v r (v r + 1)) k = sumTo v k + 1) ∧ (k ≤ r → sumTo (upd v r (v r + 1)) k = sumTo v k)
  | 0 => ⟨fun h => by omega, fun _ => rfl⟩
  | k + 1 => by
    obtain ⟨h1, h2⟩ := sum_upd v (r := r) k
    constructor
    · intro h
      simp only [sumTo]
      by_cases hk : r < k
      · rw [h1 hk, upd_ne v (by omega)]; omega
      · obtain rfl : r = k := by omega
        rw [h2 (Nat.le_refl _), upd_at]; omega
    · intro h
      simp only [sumTo]
      rw [h2 (by omega), upd_ne v (by omega)]
theorem above_upd (v : Vec) (r : Nat) : aboveB (upd v r (v r + 1)) v = true := above_iff.2 fun i _ => by
  by_cases h : i = r
  · subst h; rw [upd_at]; omega
  · rw [upd_ne v h]; exact Nat.le_refl _
theorem cov_upd {v : Vec} {r : Nat} {d : Dot} (hne : d ≠ (r, v r + 1)) : covB (upd v r (v r + 1)) d = covB v d := by
  unfold covB
  by_cases h : d.1 = r
  · have h2 : d.2 ≠ v r + 1 := fun e => hne (Prod.ext h e)
    rw [h, upd_at]
    congr 1
    apply decide_eq_decide.2
    omega
  · rw [upd_ne v h]

set_option maxHeartbeats 8000000 in
set_option maxRecDepth 100000 in
theorem law_VectorCovers (hhead : HeadOk) (a b : Vec) (d : Dot) (w : World) (ha : okV a) (hb : okV b) (hd : d.ok) :
    Calls Try.prog 6 #[.agg #[.int .u32 (a 0 : Int), .int .u32 (a 1 : Int), .int .u32 (a 2 : Int), .int .u32 (a 3 : Int), .int .u32 (a 4 : Int), .int .u32 (a 5 : Int), .int .u32 (a 6 : Int), .int .u32 (a 7 : Int)], .agg #[.int .u32 (b 0 : Int), .int .u32 (b 1 : Int), .int .u32 (b 2 : Int), .int .u32 (b 3 : Int), .int .u32 (b 4 : Int), .int .u32 (b 5 : Int), .int .u32 (b 6 : Int), .int .u32 (b 7 : Int)], .agg #[.int .u8 (d.1 : Int), .int .u32 (d.2 : Int)]] w fun e w' => e = .returned (.bool true) ∧ Below w.heap.size w w' := by
  have hN1 := fun W => vec_Next a d.1 ha hd.1 W
  have hC1 := fun W => vec_Covers a d W
  have hC2 := fun W => vec_Covers b d W
  have hC3 := fun W => vec_Covers (mx a b) d W
  have hC4 := fun W => vec_Covers (mn a b) d W
  have hA1 := fun W => vec_Above a b W
  have hM := merge2 a b
  have hm := meet2 a b
  have hS1 := fun W => vec_Count a ha W
  rw [cov_mx] at hC3
  rw [cov_mn] at hC4
  obtain ⟨r, n⟩ := d
  dsimp only at hN1 hC1 hC2 hC3 hC4 ⊢
  have H0 := hid (boxes_start w a b (r, n))
  have HO := hid (And.intro ha hb)
  have HD := hid hd
  have HCA := hid (fun (h : aboveB a b = true) (hc : covB b (r, n) = true) => cov_above (a := a) h hc)
  clear ha hb hd
  obtain ⟨X, hX⟩ : ∃ X, X = covB a (r, n) := ⟨_, rfl⟩
  obtain ⟨Y, hY⟩ : ∃ Y, Y = covB b (r, n) := ⟨_, rfl⟩
  obtain ⟨AB, hAB⟩ : ∃ AB, AB = aboveB a b := ⟨_, rfl⟩
  rw [← hX, ← hY] at hC3 hC4
  rw [← hX] at hC1
  rw [← hY] at hC2
  rw [← hAB] at hA1
  have HXY := hid (And.intro hX (And.intro hY hAB))
  clear hX hY hAB
  go_enter Try.func6, Try.ntmps6
  go_wp2
  refine wp_region_later_n (by kernel_rfl) (by kernel_rfl) ?_
  intro wd hwd
  have HBd := hid (show Boxes w a b (r, n) wd by rw [hwd]; exact H0.out)
  clear hwd
  have fa0 : ∀ p : Later wd.heap.size wd, p.val.cell? ⟨w.heap.size, 0, none⟩ = some (.int .u32 (a 0 : Int)) := fun p => cellV (heap_keep HBd.out.x p.ok) (by omega)
  have fa1 : ∀ p : Later wd.heap.size wd, p.val.cell? ⟨w.heap.size, 1, none⟩ = some (.int .u32 (a 1 : Int)) := fun p => cellV (heap_keep HBd.out.x p.ok) (by omega)
  have fa2 : ∀ p : Later wd.heap.size wd, p.val.cell? ⟨w.heap.size, 2, none⟩ = some (.int .u32 (a 2 : Int)) := fun p => cellV (heap_keep HBd.out.x p.ok) (by omega)
  have fa3 : ∀ p : Later wd.heap.size wd, p.val.cell? ⟨w.heap.size, 3, none⟩ = some (.int .u32 (a 3 : Int)) := fun p => cellV (heap_keep HBd.out.x p.ok) (by omega)
  have fa4 : ∀ p : Later wd.heap.size wd, p.val.cell? ⟨w.heap.size, 4, none⟩ = some (.int .u32 (a 4 : Int)) := fun p => cellV (heap_keep HBd.out.x p.ok) (by omega)
  have fa5 : ∀ p : Later wd.heap.size wd, p.val.cell? ⟨w.heap.size, 5, none⟩ = some (.int .u32 (a 5 : Int)) := fun p => cellV (heap_keep HBd.out.x p.ok) (by omega)
  have fa6 : ∀ p : Later wd.heap.size wd, p.val.cell? ⟨w.heap.size, 6, none⟩ = some (.int .u32 (a 6 : Int)) := fun p => cellV (heap_keep HBd.out.x p.ok) (by omega)
  have fa7 : ∀ p : Later wd.heap.size wd, p.val.cell? ⟨w.heap.size, 7, none⟩ = some (.int .u32 (a 7 : Int)) := fun p => cellV (heap_keep HBd.out.x p.ok) (by omega)
  have fb0 : ∀ p : Later wd.heap.size wd, p.val.cell? ⟨w.heap.size + 1, 0, none⟩ = some (.int .u32 (b 0 : Int)) := fun p => cellV (heap_keep HBd.out.y p.ok) (by omega)
  have fb1 : ∀ p : Later wd.heap.size wd, p.val.cell? ⟨w.heap.size + 1, 1, none⟩ = some (.int .u32 (b 1 : Int)) := fun p => cellV (heap_keep HBd.out.y p.ok) (by omega)
  have fb2 : ∀ p : Later wd.heap.size wd, p.val.cell? ⟨w.heap.size + 1, 2, none⟩ = some (.int .u32 (b 2 : Int)) := fun p => cellV (heap_keep HBd.out.y p.ok) (by omega)
  have fb3 : ∀ p : Later wd.heap.size wd, p.val.cell? ⟨w.heap.size + 1, 3, none⟩ = some (.int .u32 (b 3 : Int)) := fun p => cellV (heap_keep HBd.out.y p.ok) (by omega)
  have fb4 : ∀ p : Later wd.heap.size wd, p.val.cell? ⟨w.heap.size + 1, 4, none⟩ = some (.int .u32 (b 4 : Int)) := fun p => cellV (heap_keep HBd.out.y p.ok) (by omega)
  have fb5 : ∀ p : Later wd.heap.size wd, p.val.cell? ⟨w.heap.size + 1, 5, none⟩ = some (.int .u32 (b 5 : Int)) := fun p => cellV (heap_keep HBd.out.y p.ok) (by omega)
  have fb6 : ∀ p : Later wd.heap.size wd, p.val.cell? ⟨w.heap.size + 1, 6, none⟩ = some (.int .u32 (b 6 : Int)) := fun p => cellV (heap_keep HBd.out.y p.ok) (by omega)
  have fb7 : ∀ p : Later wd.heap.size wd, p.val.cell? ⟨w.heap.size + 1, 7, none⟩ = some (.int .u32 (b 7 : Int)) := fun p => cellV (heap_keep HBd.out.y p.ok) (by omega)
  have fd0 : ∀ p : Later wd.heap.size wd, p.val.cell? ⟨w.heap.size + 2, 0, none⟩ = some (.int .u8 (r : Int)) := fun p => (cells2 (heap_keep HBd.out.z p.ok)).1
  have fd1 : ∀ p : Later wd.heap.size wd, p.val.cell? ⟨w.heap.size + 2, 1, none⟩ = some (.int .u32 (n : Int)) := fun p => (cells2 (heap_keep HBd.out.z p.ok)).2
  repeat (go_big_quiet_step (first | (go_at_call 12; with_reducible exact Calls.later_of (Nat.le_refl _) (hC1 _)) | (go_at_call 12; with_reducible exact Calls.later_of (Nat.le_refl _) (hC2 _))))
  refine wpQuiet_nil ?_
  rintro _ ⟨p, rfl⟩
  have hbx := HBd.out.keep p.ok
  clear fa0 fb0 fa1 fb1 fa2 fb2 fa3 fb3 fa4 fb4 fa5 fb5 fa6 fb6 fa7 fb7 fd0 fd1
  generalize p.val = w1 at hbx
  have HQ := hid hbx
  have hall := box_all hbx
  go_upto_region 2 with fail
  go_cut [54] from 19 (fun c wx => c = .bool false ∧ Boxes w a b (r, n) wx)
  case first =>
    cases X <;> cases Y <;> cases AB
    case false.false.false =>
      simp only [Bool.or_true, Bool.true_or, Bool.or_false, Bool.false_or, Bool.and_true, Bool.true_and, Bool.and_false, Bool.false_and, Bool.or_self, Bool.and_self] at hC3 hC4
      refine wp_region_noPanic ?_
      refine wp_region_ord (S := (fun w' => Boxes w a b (r, n) w' ∧ w'.cell? ⟨w.heap.size, 0, none⟩ = some (.int .u32 (a 0 : Int)) ∧ w'.cell? ⟨w.heap.size, 1, none⟩ = some (.int .u32 (a 1 : Int)) ∧ w'.cell? ⟨w.heap.size, 2, none⟩ = some (.int .u32 (a 2 : Int)) ∧ w'.cell? ⟨w.heap.size, 3, none⟩ = some (.int .u32 (a 3 : Int)) ∧ w'.cell? ⟨w.heap.size, 4, none⟩ = some (.int .u32 (a 4 : Int)) ∧ w'.cell? ⟨w.heap.size, 5, none⟩ = some (.int .u32 (a 5 : Int)) ∧ w'.cell? ⟨w.heap.size, 6, none⟩ = some (.int .u32 (a 6 : Int)) ∧ w'.cell? ⟨w.heap.size, 7, none⟩ = some (.int .u32 (a 7 : Int)) ∧ w'.cell? ⟨w.heap.size + 1, 0, none⟩ = some (.int .u32 (b 0 : Int)) ∧ w'.cell? ⟨w.heap.size + 1, 1, none⟩ = some (.int .u32 (b 1 : Int)) ∧ w'.cell? ⟨w.heap.size + 1, 2, none⟩ = some (.int .u32 (b 2 : Int)) ∧ w'.cell? ⟨w.heap.size + 1, 3, none⟩ = some (.int .u32 (b 3 : Int)) ∧ w'.cell? ⟨w.heap.size + 1, 4, none⟩ = some (.int .u32 (b 4 : Int)) ∧ w'.cell? ⟨w.heap.size + 1, 5, none⟩ = some (.int .u32 (b 5 : Int)) ∧ w'.cell? ⟨w.heap.size + 1, 6, none⟩ = some (.int .u32 (b 6 : Int)) ∧ w'.cell? ⟨w.heap.size + 1, 7, none⟩ = some (.int .u32 (b 7 : Int)) ∧ w'.cell? ⟨w.heap.size + 2, 0, none⟩ = some (.int .u8 (r : Int)) ∧ w'.cell? ⟨w.heap.size + 2, 1, none⟩ = some (.int .u32 (n : Int)))) [(0, 0), (1, 0), (2, 3), (3, 4), (4, 0), (5, 24), (6, 0), (7, 96), (8, 128), (9, 384), (10, 544), (11, 1152), (12, 2048), (13, 2048), (14, 14336), (15, 18432), (16, 2048), (17, 100352), (18, 2048), (19, 395264), (20, 524288), (21, 1574912), (22, 2230272), (23, 4196352), (24, 8912896), (25, 16777216), (26, 16777216), (27, 117440512), (28, 150994944), (29, 268435456), (30, 822083584), (31, 1358954496), (32, 2147483648), (33, 6442450944), (34, 10754195456), (35, 17196646400)] [(0, 0), (1, 1), (4, 3), (6, 19), (2, 83), (3, 87), (5, 95), (7, 127), (8, 255), (9, 511), (10, 1023), (11, 2047), (12, 4095), (13, 8191), (16, 16383), (18, 81919), (14, 344063), (15, 360447), (17, 393215), (19, 524287), (20, 1048575), (21, 2097151), (22, 4194303), (23, 8388607), (24, 16777215), (25, 33554431), (26, 67108863), (27, 134217727), (28, 268435455), (29, 536870911), (30, 1073741823), (31, 2147483647), (32, 4294967295), (33, 8589934591), (34, 17179869183), (35, 34359738367)] [0, 1, 4, 6, 2, 3, 5, 7, 8, 9, 10, 11, 12, 13, 16, 18, 14, 15, 17, 19, 20, 21, 22, 23, 24, 25, 26, 27, 28, 29, 30, 31, 32, 33, 34, 35] (by kernel_rfl) (by kernel_rfl) (by kernel_rfl) (by kernel_rfl) rfl rfl (fun _ _ _ _ _ h => h) ?_ (fun hHeld => ?_)
      · exact box_step (below_dr _) hall
      refine held_take (v := ?_) (at_drop rfl) rfl rfl ?_ ?_
      rotate_left
      · (intro w' hSw; (try dsimp only at hSw); go_simp; try with_reducible rfl)
      try simp only [Act.put, List.setIfInBounds_toArray, List.set_cons_zero, List.set_cons_succ]
      refine held_take (v := ?_) (at_drop rfl) rfl rfl ?_ ?_
      rotate_left
      · (intro w' hSw; (try dsimp only at hSw); go_simp; try with_reducible rfl)
      try simp only [Act.put, List.setIfInBounds_toArray, List.set_cons_zero, List.set_cons_succ]
      refine held_take (v := ?_) (at_drop rfl) rfl rfl ?_ ?_
      rotate_left
      · (intro w' hSw; (try dsimp only at hSw); go_simp; try with_reducible rfl)
      try simp only [Act.put, List.setIfInBounds_toArray, List.set_cons_zero, List.set_cons_succ]
      refine held_take (v := ?_) (at_drop rfl) rfl rfl ?_ ?_
      rotate_left
      · (intro w' hSw; (try dsimp only at hSw); go_simp; try with_reducible rfl)
      try simp only [Act.put, List.setIfInBounds_toArray, List.set_cons_zero, List.set_cons_succ]
      refine held_op (at_drop rfl) rfl rfl (fun K hK => ?_)
      go_simp
      refine hK.out _ _ ?_ (fun hNew => ?_)
      · first | exact box_step hB hHeld | exact box_step (below_al _ _) hHeld | exact box_step (below_dr _) hHeld
      clear hHeld hK K
      have hHeld := hNew
      clear hNew
      try simp only [Act.put, List.setIfInBounds_toArray, List.set_cons_zero, List.set_cons_succ]
      refine held_op (at_drop rfl) rfl rfl (fun K hK => ?_)
      go_simp
      (go_at_call 24; ((with_reducible refine (hM _ _ ?_).mono ?_); (focus (repeat' (first | with_reducible assumption | ((with_reducible refine new2 _ _ _ _ ?_ HO.out.1 HO.out.2); (first | rfl | (simp; done))) | with_reducible refine VecsV.al ?_ _ | with_reducible refine VecsV.dr ?_))); rintro e wm ⟨rfl, hB⟩))
      refine hK.out _ _ ?_ (fun hNew => ?_)
      · first | exact box_step hB hHeld | exact box_step (below_al _ _) hHeld | exact box_step (below_dr _) hHeld
      clear hHeld hK K
      have hHeld := hNew
      clear hNew
      try simp only [Act.put, List.setIfInBounds_toArray, List.set_cons_zero, List.set_cons_succ]
      refine held_op (at_drop rfl) rfl rfl (fun K hK => ?_)
      go_simp
      (go_at_call 12; ((with_reducible refine (hC3 _).mono ?_); rintro e wm ⟨rfl, hB⟩))
      refine hK.out _ _ ?_ (fun hNew => ?_)
      · first | exact box_step hB hHeld | exact box_step (below_al _ _) hHeld | exact box_step (below_dr _) hHeld
      clear hHeld hK K
      have hHeld := hNew
      clear hNew
      try simp only [Act.put, List.setIfInBounds_toArray, List.set_cons_zero, List.set_cons_succ]
      refine held_take (v := ?_) (at_drop rfl) rfl rfl ?_ ?_
      rotate_left
      · (intro w' hSw; (try dsimp only at hSw); go_simp; try with_reducible rfl)
      try simp only [Act.put, List.setIfInBounds_toArray, List.set_cons_zero, List.set_cons_succ]
      refine held_take (v := ?_) (at_drop rfl) rfl rfl ?_ ?_
      rotate_left
      · (intro w' hSw; (try dsimp only at hSw); go_simp; try with_reducible rfl)
      try simp only [Act.put, List.setIfInBounds_toArray, List.set_cons_zero, List.set_cons_succ]
      refine held_take (v := ?_) (at_drop rfl) rfl rfl ?_ ?_
      rotate_left
      · (intro w' hSw; (try dsimp only at hSw); go_simp; try with_reducible rfl)
      try simp only [Act.put, List.setIfInBounds_toArray, List.set_cons_zero, List.set_cons_succ]
      refine held_take (v := ?_) (at_drop rfl) rfl rfl ?_ ?_
      rotate_left
      · (intro w' hSw; (try dsimp only at hSw); go_simp; try with_reducible rfl)
      try simp only [Act.put, List.setIfInBounds_toArray, List.set_cons_zero, List.set_cons_succ]
      refine held_take (v := ?_) (at_drop rfl) rfl rfl ?_ ?_
      rotate_left
      · (intro w' hSw; (try dsimp only at hSw); go_simp; try with_reducible rfl)
      try simp only [Act.put, List.setIfInBounds_toArray, List.set_cons_zero, List.set_cons_succ]
      refine held_take (v := ?_) (at_drop rfl) rfl rfl ?_ ?_
      rotate_left
      · (intro w' hSw; (try dsimp only at hSw); go_simp; try with_reducible rfl)
      try simp only [Act.put, List.setIfInBounds_toArray, List.set_cons_zero, List.set_cons_succ]
      refine held_take (v := ?_) (at_drop rfl) rfl rfl ?_ ?_
      rotate_left
      · (intro w' hSw; (try dsimp only at hSw); go_simp; try with_reducible rfl)
      try simp only [Act.put, List.setIfInBounds_toArray, List.set_cons_zero, List.set_cons_succ]
      refine held_take (v := ?_) (at_drop rfl) rfl rfl ?_ ?_
      rotate_left
      · (intro w' hSw; (try dsimp only at hSw); go_simp; try with_reducible rfl)
      try simp only [Act.put, List.setIfInBounds_toArray, List.set_cons_zero, List.set_cons_succ]
      refine held_take (v := ?_) (at_drop rfl) rfl rfl ?_ ?_
      rotate_left
      · (intro w' hSw; (try dsimp only at hSw); go_simp; try with_reducible rfl)
      try simp only [Act.put, List.setIfInBounds_toArray, List.set_cons_zero, List.set_cons_succ]
      refine held_op (at_drop rfl) rfl rfl (fun K hK => ?_)
      go_simp
      refine hK.out _ _ ?_ (fun hNew => ?_)
      · first | exact box_step hB hHeld | exact box_step (below_al _ _) hHeld | exact box_step (below_dr _) hHeld
      clear hHeld hK K
      have hHeld := hNew
      clear hNew
      try simp only [Act.put, List.setIfInBounds_toArray, List.set_cons_zero, List.set_cons_succ]
      refine held_op (at_drop rfl) rfl rfl (fun K hK => ?_)
      go_simp
      (go_at_call 26; ((with_reducible refine (hm _ _ ?_).mono ?_); (focus (repeat' (first | with_reducible assumption | ((with_reducible refine new2 _ _ _ _ ?_ HO.out.1 HO.out.2); (first | rfl | (simp; done))) | with_reducible refine VecsV.al ?_ _ | with_reducible refine VecsV.dr ?_))); rintro e wm ⟨rfl, hB⟩))
      refine hK.out _ _ ?_ (fun hNew => ?_)
      · first | exact box_step hB hHeld | exact box_step (below_al _ _) hHeld | exact box_step (below_dr _) hHeld
      clear hHeld hK K
      have hHeld := hNew
      clear hNew
      try simp only [Act.put, List.setIfInBounds_toArray, List.set_cons_zero, List.set_cons_succ]
      refine held_op (at_drop rfl) rfl rfl (fun K hK => ?_)
      go_simp
      (go_at_call 12; ((with_reducible refine (hC4 _).mono ?_); rintro e wm ⟨rfl, hB⟩))
      refine hK.out _ _ ?_ (fun hNew => ?_)
      · first | exact box_step hB hHeld | exact box_step (below_al _ _) hHeld | exact box_step (below_dr _) hHeld
      clear hHeld hK K
      have hHeld := hNew
      clear hNew
      try simp only [Act.put, List.setIfInBounds_toArray, List.set_cons_zero, List.set_cons_succ]
      refine held_take (v := ?_) (at_drop rfl) rfl rfl ?_ ?_
      rotate_left
      · (intro w' hSw; (try dsimp only at hSw); go_simp; try with_reducible rfl)
      try simp only [Act.put, List.setIfInBounds_toArray, List.set_cons_zero, List.set_cons_succ]
      refine held_skip (at_drop rfl) rfl hHeld ?_
      try simp only [Act.put, List.setIfInBounds_toArray, List.set_cons_zero, List.set_cons_succ]
      refine held_take (v := ?_) (at_drop rfl) rfl rfl ?_ ?_
      rotate_left
      · (intro w' hSw; (try dsimp only at hSw); go_simp; try with_reducible rfl)
      try simp only [Act.put, List.setIfInBounds_toArray, List.set_cons_zero, List.set_cons_succ]
      refine held_take (v := ?_) (at_drop rfl) rfl rfl ?_ ?_
      rotate_left
      · (intro w' hSw; (try dsimp only at hSw); go_simp; try with_reducible rfl)
      try simp only [Act.put, List.setIfInBounds_toArray, List.set_cons_zero, List.set_cons_succ]
      refine held_take (v := ?_) (at_drop rfl) rfl rfl ?_ ?_
      rotate_left
      · (intro w' hSw; (try dsimp only at hSw); go_simp; try with_reducible rfl)
      try simp only [Act.put, List.setIfInBounds_toArray, List.set_cons_zero, List.set_cons_succ]
      refine held_take (v := ?_) (at_drop rfl) rfl rfl ?_ ?_
      rotate_left
      · (intro w' hSw; (try dsimp only at hSw); go_simp; try with_reducible rfl)
      try simp only [Act.put, List.setIfInBounds_toArray, List.set_cons_zero, List.set_cons_succ]
      refine held_take (v := ?_) (at_drop rfl) rfl rfl ?_ ?_
      rotate_left
      · (intro w' hSw; (try dsimp only at hSw); go_simp; try with_reducible rfl)
      try simp only [Act.put, List.setIfInBounds_toArray, List.set_cons_zero, List.set_cons_succ]
      refine held_take (v := ?_) (at_drop rfl) rfl rfl ?_ ?_
      rotate_left
      · (intro w' hSw; (try dsimp only at hSw); go_simp; try with_reducible rfl)
      try simp only [Act.put, List.setIfInBounds_toArray, List.set_cons_zero, List.set_cons_succ]
      refine held_op (at_drop rfl) rfl rfl (fun K hK => ?_)
      go_simp
      (go_at_call 14; ((with_reducible refine (hA1 _).mono ?_); rintro e wm ⟨rfl, hB⟩))
      refine hK.out _ _ ?_ (fun hNew => ?_)
      · first | exact box_step hB hHeld | exact box_step (below_al _ _) hHeld | exact box_step (below_dr _) hHeld
      clear hHeld hK K
      have hHeld := hNew
      clear hNew
      try simp only [Act.put, List.setIfInBounds_toArray, List.set_cons_zero, List.set_cons_succ]
      refine held_take (v := ?_) (at_drop rfl) rfl rfl ?_ ?_
      rotate_left
      · (intro w' hSw; (try dsimp only at hSw); go_simp; try with_reducible rfl)
      try simp only [Act.put, List.setIfInBounds_toArray, List.set_cons_zero, List.set_cons_succ]
      refine held_skip (at_drop rfl) rfl hHeld ?_
      try simp only [Act.put, List.setIfInBounds_toArray, List.set_cons_zero, List.set_cons_succ]
      refine held_take (v := ?_) (at_drop rfl) rfl rfl ?_ ?_
      rotate_left
      · (intro w' hSw; (try dsimp only at hSw); go_simp; try with_reducible rfl)
      try simp only [Act.put, List.setIfInBounds_toArray, List.set_cons_zero, List.set_cons_succ]
      refine held_take (v := ?_) (at_drop rfl) rfl rfl ?_ ?_
      rotate_left
      · (intro w' hSw; (try dsimp only at hSw); go_simp; try with_reducible rfl)
      try simp only [Act.put, List.setIfInBounds_toArray, List.set_cons_zero, List.set_cons_succ]
      refine held_skip (at_drop rfl) rfl hHeld ?_
      try simp only [Act.put, List.setIfInBounds_toArray, List.set_cons_zero, List.set_cons_succ]
      refine held_skip (at_drop rfl) rfl hHeld ?_
      try simp only [Act.put, List.setIfInBounds_toArray, List.set_cons_zero, List.set_cons_succ]
      refine held_take (v := ?_) (at_drop rfl) rfl rfl ?_ ?_
      rotate_left
      · (intro w' hSw; (try dsimp only at hSw); go_simp; try with_reducible rfl)
      try simp only [Act.put, List.setIfInBounds_toArray, List.set_cons_zero, List.set_cons_succ]
      refine held_take (v := ?_) (at_drop rfl) rfl rfl ?_ ?_
      rotate_left
      · (intro w' hSw; (try dsimp only at hSw); go_simp; try with_reducible rfl)
      try simp only [Act.put, List.setIfInBounds_toArray, List.set_cons_zero, List.set_cons_succ]
      refine NoPanic.normal ?_
      obtain ⟨hs, _⟩ := hHeld
      go_wp2
      go_meet
      exact ⟨rfl, hs⟩
    case false.false.true =>
      simp only [Bool.or_true, Bool.true_or, Bool.or_false, Bool.false_or, Bool.and_true, Bool.true_and, Bool.and_false, Bool.false_and, Bool.or_self, Bool.and_self] at hC3 hC4
      refine wp_region_noPanic ?_
      refine wp_region_ord (S := (fun w' => Boxes w a b (r, n) w' ∧ w'.cell? ⟨w.heap.size, 0, none⟩ = some (.int .u32 (a 0 : Int)) ∧ w'.cell? ⟨w.heap.size, 1, none⟩ = some (.int .u32 (a 1 : Int)) ∧ w'.cell? ⟨w.heap.size, 2, none⟩ = some (.int .u32 (a 2 : Int)) ∧ w'.cell? ⟨w.heap.size, 3, none⟩ = some (.int .u32 (a 3 : Int)) ∧ w'.cell? ⟨w.heap.size, 4, none⟩ = some (.int .u32 (a 4 : Int)) ∧ w'.cell? ⟨w.heap.size, 5, none⟩ = some (.int .u32 (a 5 : Int)) ∧ w'.cell? ⟨w.heap.size, 6, none⟩ = some (.int .u32 (a 6 : Int)) ∧ w'.cell? ⟨w.heap.size, 7, none⟩ = some (.int .u32 (a 7 : Int)) ∧ w'.cell? ⟨w.heap.size + 1, 0, none⟩ = some (.int .u32 (b 0 : Int)) ∧ w'.cell? ⟨w.heap.size + 1, 1, none⟩ = some (.int .u32 (b 1 : Int)) ∧ w'.cell? ⟨w.heap.size + 1, 2, none⟩ = some (.int .u32 (b 2 : Int)) ∧ w'.cell? ⟨w.heap.size + 1, 3, none⟩ = some (.int .u32 (b 3 : Int)) ∧ w'.cell? ⟨w.heap.size + 1, 4, none⟩ = some (.int .u32 (b 4 : Int)) ∧ w'.cell? ⟨w.heap.size + 1, 5, none⟩ = some (.int .u32 (b 5 : Int)) ∧ w'.cell? ⟨w.heap.size + 1, 6, none⟩ = some (.int .u32 (b 6 : Int)) ∧ w'.cell? ⟨w.heap.size + 1, 7, none⟩ = some (.int .u32 (b 7 : Int)) ∧ w'.cell? ⟨w.heap.size + 2, 0, none⟩ = some (.int .u8 (r : Int)) ∧ w'.cell? ⟨w.heap.size + 2, 1, none⟩ = some (.int .u32 (n : Int)))) [(0, 0), (1, 0), (2, 3), (3, 4), (4, 0), (5, 24), (6, 0), (7, 96), (8, 128), (9, 384), (10, 544), (11, 1152), (12, 2048), (13, 2048), (14, 14336), (15, 18432), (16, 2048), (17, 100352), (18, 2048), (19, 395264), (20, 524288), (21, 1574912), (22, 2230272), (23, 4196352), (24, 8912896), (25, 16777216), (26, 16777216), (27, 117440512), (28, 150994944), (29, 268435456), (30, 822083584), (31, 1358954496), (32, 2147483648), (33, 6442450944), (34, 10754195456), (35, 17196646400)] [(0, 0), (1, 1), (4, 3), (6, 19), (2, 83), (3, 87), (5, 95), (7, 127), (8, 255), (9, 511), (10, 1023), (11, 2047), (12, 4095), (13, 8191), (16, 16383), (18, 81919), (14, 344063), (15, 360447), (17, 393215), (19, 524287), (20, 1048575), (21, 2097151), (22, 4194303), (23, 8388607), (24, 16777215), (25, 33554431), (26, 67108863), (27, 134217727), (28, 268435455), (29, 536870911), (30, 1073741823), (31, 2147483647), (32, 4294967295), (33, 8589934591), (34, 17179869183), (35, 34359738367)] [0, 1, 4, 6, 2, 3, 5, 7, 8, 9, 10, 11, 12, 13, 16, 18, 14, 15, 17, 19, 20, 21, 22, 23, 24, 25, 26, 27, 28, 29, 30, 31, 32, 33, 34, 35] (by kernel_rfl) (by kernel_rfl) (by kernel_rfl) (by kernel_rfl) rfl rfl (fun _ _ _ _ _ h => h) ?_ (fun hHeld => ?_)
      · exact box_step (below_dr _) hall
      refine held_take (v := ?_) (at_drop rfl) rfl rfl ?_ ?_
      rotate_left
      · (intro w' hSw; (try dsimp only at hSw); go_simp; try with_reducible rfl)
      try simp only [Act.put, List.setIfInBounds_toArray, List.set_cons_zero, List.set_cons_succ]
      refine held_take (v := ?_) (at_drop rfl) rfl rfl ?_ ?_
      rotate_left
      · (intro w' hSw; (try dsimp only at hSw); go_simp; try with_reducible rfl)
      try simp only [Act.put, List.setIfInBounds_toArray, List.set_cons_zero, List.set_cons_succ]
      refine held_take (v := ?_) (at_drop rfl) rfl rfl ?_ ?_
      rotate_left
      · (intro w' hSw; (try dsimp only at hSw); go_simp; try with_reducible rfl)
      try simp only [Act.put, List.setIfInBounds_toArray, List.set_cons_zero, List.set_cons_succ]
      refine held_take (v := ?_) (at_drop rfl) rfl rfl ?_ ?_
      rotate_left
      · (intro w' hSw; (try dsimp only at hSw); go_simp; try with_reducible rfl)
      try simp only [Act.put, List.setIfInBounds_toArray, List.set_cons_zero, List.set_cons_succ]
      refine held_op (at_drop rfl) rfl rfl (fun K hK => ?_)
      go_simp
      refine hK.out _ _ ?_ (fun hNew => ?_)
      · first | exact box_step hB hHeld | exact box_step (below_al _ _) hHeld | exact box_step (below_dr _) hHeld
      clear hHeld hK K
      have hHeld := hNew
      clear hNew
      try simp only [Act.put, List.setIfInBounds_toArray, List.set_cons_zero, List.set_cons_succ]
      refine held_op (at_drop rfl) rfl rfl (fun K hK => ?_)
      go_simp
      (go_at_call 24; ((with_reducible refine (hM _ _ ?_).mono ?_); (focus (repeat' (first | with_reducible assumption | ((with_reducible refine new2 _ _ _ _ ?_ HO.out.1 HO.out.2); (first | rfl | (simp; done))) | with_reducible refine VecsV.al ?_ _ | with_reducible refine VecsV.dr ?_))); rintro e wm ⟨rfl, hB⟩))
      refine hK.out _ _ ?_ (fun hNew => ?_)
      · first | exact box_step hB hHeld | exact box_step (below_al _ _) hHeld | exact box_step (below_dr _) hHeld
      clear hHeld hK K
      have hHeld := hNew
      clear hNew
      try simp only [Act.put, List.setIfInBounds_toArray, List.set_cons_zero, List.set_cons_succ]
      refine held_op (at_drop rfl) rfl rfl (fun K hK => ?_)
      go_simp
      (go_at_call 12; ((with_reducible refine (hC3 _).mono ?_); rintro e wm ⟨rfl, hB⟩))
      refine hK.out _ _ ?_ (fun hNew => ?_)
      · first | exact box_step hB hHeld | exact box_step (below_al _ _) hHeld | exact box_step (below_dr _) hHeld
      clear hHeld hK K
      have hHeld := hNew
      clear hNew
      try simp only [Act.put, List.setIfInBounds_toArray, List.set_cons_zero, List.set_cons_succ]
      refine held_take (v := ?_) (at_drop rfl) rfl rfl ?_ ?_
      rotate_left
      · (intro w' hSw; (try dsimp only at hSw); go_simp; try with_reducible rfl)
      try simp only [Act.put, List.setIfInBounds_toArray, List.set_cons_zero, List.set_cons_succ]
      refine held_take (v := ?_) (at_drop rfl) rfl rfl ?_ ?_
      rotate_left
      · (intro w' hSw; (try dsimp only at hSw); go_simp; try with_reducible rfl)
      try simp only [Act.put, List.setIfInBounds_toArray, List.set_cons_zero, List.set_cons_succ]
      refine held_take (v := ?_) (at_drop rfl) rfl rfl ?_ ?_
      rotate_left
      · (intro w' hSw; (try dsimp only at hSw); go_simp; try with_reducible rfl)
      try simp only [Act.put, List.setIfInBounds_toArray, List.set_cons_zero, List.set_cons_succ]
      refine held_take (v := ?_) (at_drop rfl) rfl rfl ?_ ?_
      rotate_left
      · (intro w' hSw; (try dsimp only at hSw); go_simp; try with_reducible rfl)
      try simp only [Act.put, List.setIfInBounds_toArray, List.set_cons_zero, List.set_cons_succ]
      refine held_take (v := ?_) (at_drop rfl) rfl rfl ?_ ?_
      rotate_left
      · (intro w' hSw; (try dsimp only at hSw); go_simp; try with_reducible rfl)
      try simp only [Act.put, List.setIfInBounds_toArray, List.set_cons_zero, List.set_cons_succ]
      refine held_take (v := ?_) (at_drop rfl) rfl rfl ?_ ?_
      rotate_left
      · (intro w' hSw; (try dsimp only at hSw); go_simp; try with_reducible rfl)
      try simp only [Act.put, List.setIfInBounds_toArray, List.set_cons_zero, List.set_cons_succ]
      refine held_take (v := ?_) (at_drop rfl) rfl rfl ?_ ?_
      rotate_left
      · (intro w' hSw; (try dsimp only at hSw); go_simp; try with_reducible rfl)
      try simp only [Act.put, List.setIfInBounds_toArray, List.set_cons_zero, List.set_cons_succ]
      refine held_take (v := ?_) (at_drop rfl) rfl rfl ?_ ?_
      rotate_left
      · (intro w' hSw; (try dsimp only at hSw); go_simp; try with_reducible rfl)
      try simp only [Act.put, List.setIfInBounds_toArray, List.set_cons_zero, List.set_cons_succ]
      refine held_take (v := ?_) (at_drop rfl) rfl rfl ?_ ?_
      rotate_left
      · (intro w' hSw; (try dsimp only at hSw); go_simp; try with_reducible rfl)
      try simp only [Act.put, List.setIfInBounds_toArray, List.set_cons_zero, List.set_cons_succ]
      refine held_op (at_drop rfl) rfl rfl (fun K hK => ?_)
      go_simp
      refine hK.out _ _ ?_ (fun hNew => ?_)
      · first | exact box_step hB hHeld | exact box_step (below_al _ _) hHeld | exact box_step (below_dr _) hHeld
      clear hHeld hK K
      have hHeld := hNew
      clear hNew
      try simp only [Act.put, List.setIfInBounds_toArray, List.set_cons_zero, List.set_cons_succ]
      refine held_op (at_drop rfl) rfl rfl (fun K hK => ?_)
      go_simp
      (go_at_call 26; ((with_reducible refine (hm _ _ ?_).mono ?_); (focus (repeat' (first | with_reducible assumption | ((with_reducible refine new2 _ _ _ _ ?_ HO.out.1 HO.out.2); (first | rfl | (simp; done))) | with_reducible refine VecsV.al ?_ _ | with_reducible refine VecsV.dr ?_))); rintro e wm ⟨rfl, hB⟩))
      refine hK.out _ _ ?_ (fun hNew => ?_)
      · first | exact box_step hB hHeld | exact box_step (below_al _ _) hHeld | exact box_step (below_dr _) hHeld
      clear hHeld hK K
      have hHeld := hNew
      clear hNew
      try simp only [Act.put, List.setIfInBounds_toArray, List.set_cons_zero, List.set_cons_succ]
      refine held_op (at_drop rfl) rfl rfl (fun K hK => ?_)
      go_simp
      (go_at_call 12; ((with_reducible refine (hC4 _).mono ?_); rintro e wm ⟨rfl, hB⟩))
      refine hK.out _ _ ?_ (fun hNew => ?_)
      · first | exact box_step hB hHeld | exact box_step (below_al _ _) hHeld | exact box_step (below_dr _) hHeld
      clear hHeld hK K
      have hHeld := hNew
      clear hNew
      try simp only [Act.put, List.setIfInBounds_toArray, List.set_cons_zero, List.set_cons_succ]
      refine held_take (v := ?_) (at_drop rfl) rfl rfl ?_ ?_
      rotate_left
      · (intro w' hSw; (try dsimp only at hSw); go_simp; try with_reducible rfl)
      try simp only [Act.put, List.setIfInBounds_toArray, List.set_cons_zero, List.set_cons_succ]
      refine held_skip (at_drop rfl) rfl hHeld ?_
      try simp only [Act.put, List.setIfInBounds_toArray, List.set_cons_zero, List.set_cons_succ]
      refine held_take (v := ?_) (at_drop rfl) rfl rfl ?_ ?_
      rotate_left
      · (intro w' hSw; (try dsimp only at hSw); go_simp; try with_reducible rfl)
      try simp only [Act.put, List.setIfInBounds_toArray, List.set_cons_zero, List.set_cons_succ]
      refine held_take (v := ?_) (at_drop rfl) rfl rfl ?_ ?_
      rotate_left
      · (intro w' hSw; (try dsimp only at hSw); go_simp; try with_reducible rfl)
      try simp only [Act.put, List.setIfInBounds_toArray, List.set_cons_zero, List.set_cons_succ]
      refine held_take (v := ?_) (at_drop rfl) rfl rfl ?_ ?_
      rotate_left
      · (intro w' hSw; (try dsimp only at hSw); go_simp; try with_reducible rfl)
      try simp only [Act.put, List.setIfInBounds_toArray, List.set_cons_zero, List.set_cons_succ]
      refine held_take (v := ?_) (at_drop rfl) rfl rfl ?_ ?_
      rotate_left
      · (intro w' hSw; (try dsimp only at hSw); go_simp; try with_reducible rfl)
      try simp only [Act.put, List.setIfInBounds_toArray, List.set_cons_zero, List.set_cons_succ]
      refine held_take (v := ?_) (at_drop rfl) rfl rfl ?_ ?_
      rotate_left
      · (intro w' hSw; (try dsimp only at hSw); go_simp; try with_reducible rfl)
      try simp only [Act.put, List.setIfInBounds_toArray, List.set_cons_zero, List.set_cons_succ]
      refine held_take (v := ?_) (at_drop rfl) rfl rfl ?_ ?_
      rotate_left
      · (intro w' hSw; (try dsimp only at hSw); go_simp; try with_reducible rfl)
      try simp only [Act.put, List.setIfInBounds_toArray, List.set_cons_zero, List.set_cons_succ]
      refine held_op (at_drop rfl) rfl rfl (fun K hK => ?_)
      go_simp
      (go_at_call 14; ((with_reducible refine (hA1 _).mono ?_); rintro e wm ⟨rfl, hB⟩))
      refine hK.out _ _ ?_ (fun hNew => ?_)
      · first | exact box_step hB hHeld | exact box_step (below_al _ _) hHeld | exact box_step (below_dr _) hHeld
      clear hHeld hK K
      have hHeld := hNew
      clear hNew
      try simp only [Act.put, List.setIfInBounds_toArray, List.set_cons_zero, List.set_cons_succ]
      refine held_take (v := ?_) (at_drop rfl) rfl rfl ?_ ?_
      rotate_left
      · (intro w' hSw; (try dsimp only at hSw); go_simp; try with_reducible rfl)
      try simp only [Act.put, List.setIfInBounds_toArray, List.set_cons_zero, List.set_cons_succ]
      refine held_take (v := ?_) (at_drop rfl) rfl rfl ?_ ?_
      rotate_left
      · (intro w' hSw; (try dsimp only at hSw); go_simp; try with_reducible rfl)
      try simp only [Act.put, List.setIfInBounds_toArray, List.set_cons_zero, List.set_cons_succ]
      refine held_take (v := ?_) (at_drop rfl) rfl rfl ?_ ?_
      rotate_left
      · (intro w' hSw; (try dsimp only at hSw); go_simp; try with_reducible rfl)
      try simp only [Act.put, List.setIfInBounds_toArray, List.set_cons_zero, List.set_cons_succ]
      refine held_take (v := ?_) (at_drop rfl) rfl rfl ?_ ?_
      rotate_left
      · (intro w' hSw; (try dsimp only at hSw); go_simp; try with_reducible rfl)
      try simp only [Act.put, List.setIfInBounds_toArray, List.set_cons_zero, List.set_cons_succ]
      refine held_skip (at_drop rfl) rfl hHeld ?_
      try simp only [Act.put, List.setIfInBounds_toArray, List.set_cons_zero, List.set_cons_succ]
      refine held_skip (at_drop rfl) rfl hHeld ?_
      try simp only [Act.put, List.setIfInBounds_toArray, List.set_cons_zero, List.set_cons_succ]
      refine held_take (v := ?_) (at_drop rfl) rfl rfl ?_ ?_
      rotate_left
      · (intro w' hSw; (try dsimp only at hSw); go_simp; try with_reducible rfl)
      try simp only [Act.put, List.setIfInBounds_toArray, List.set_cons_zero, List.set_cons_succ]
      refine held_take (v := ?_) (at_drop rfl) rfl rfl ?_ ?_
      rotate_left
      · (intro w' hSw; (try dsimp only at hSw); go_simp; try with_reducible rfl)
      try simp only [Act.put, List.setIfInBounds_toArray, List.set_cons_zero, List.set_cons_succ]
      refine NoPanic.normal ?_
      obtain ⟨hs, _⟩ := hHeld
      go_wp2
      go_meet
      exact ⟨rfl, hs⟩
    case false.true.false =>
      simp only [Bool.or_true, Bool.true_or, Bool.or_false, Bool.false_or, Bool.and_true, Bool.true_and, Bool.and_false, Bool.false_and, Bool.or_self, Bool.and_self] at hC3 hC4
      refine wp_region_noPanic ?_
      refine wp_region_ord (S := (fun w' => Boxes w a b (r, n) w' ∧ w'.cell? ⟨w.heap.size, 0, none⟩ = some (.int .u32 (a 0 : Int)) ∧ w'.cell? ⟨w.heap.size, 1, none⟩ = some (.int .u32 (a 1 : Int)) ∧ w'.cell? ⟨w.heap.size, 2, none⟩ = some (.int .u32 (a 2 : Int)) ∧ w'.cell? ⟨w.heap.size, 3, none⟩ = some (.int .u32 (a 3 : Int)) ∧ w'.cell? ⟨w.heap.size, 4, none⟩ = some (.int .u32 (a 4 : Int)) ∧ w'.cell? ⟨w.heap.size, 5, none⟩ = some (.int .u32 (a 5 : Int)) ∧ w'.cell? ⟨w.heap.size, 6, none⟩ = some (.int .u32 (a 6 : Int)) ∧ w'.cell? ⟨w.heap.size, 7, none⟩ = some (.int .u32 (a 7 : Int)) ∧ w'.cell? ⟨w.heap.size + 1, 0, none⟩ = some (.int .u32 (b 0 : Int)) ∧ w'.cell? ⟨w.heap.size + 1, 1, none⟩ = some (.int .u32 (b 1 : Int)) ∧ w'.cell? ⟨w.heap.size + 1, 2, none⟩ = some (.int .u32 (b 2 : Int)) ∧ w'.cell? ⟨w.heap.size + 1, 3, none⟩ = some (.int .u32 (b 3 : Int)) ∧ w'.cell? ⟨w.heap.size + 1, 4, none⟩ = some (.int .u32 (b 4 : Int)) ∧ w'.cell? ⟨w.heap.size + 1, 5, none⟩ = some (.int .u32 (b 5 : Int)) ∧ w'.cell? ⟨w.heap.size + 1, 6, none⟩ = some (.int .u32 (b 6 : Int)) ∧ w'.cell? ⟨w.heap.size + 1, 7, none⟩ = some (.int .u32 (b 7 : Int)) ∧ w'.cell? ⟨w.heap.size + 2, 0, none⟩ = some (.int .u8 (r : Int)) ∧ w'.cell? ⟨w.heap.size + 2, 1, none⟩ = some (.int .u32 (n : Int)))) [(0, 0), (1, 0), (2, 3), (3, 4), (4, 0), (5, 24), (6, 0), (7, 96), (8, 128), (9, 384), (10, 544), (11, 1152), (12, 2048), (13, 2048), (14, 14336), (15, 18432), (16, 2048), (17, 100352), (18, 2048), (19, 395264), (20, 524288), (21, 1574912), (22, 2230272), (23, 4196352), (24, 8912896), (25, 16777216), (26, 16777216), (27, 117440512), (28, 150994944), (29, 268435456), (30, 822083584), (31, 1358954496), (32, 2147483648), (33, 6442450944), (34, 10754195456), (35, 17196646400)] [(0, 0), (1, 1), (4, 3), (6, 19), (2, 83), (3, 87), (5, 95), (7, 127), (8, 255), (9, 511), (10, 1023), (11, 2047), (12, 4095), (13, 8191), (16, 16383), (18, 81919), (14, 344063), (15, 360447), (17, 393215), (19, 524287), (20, 1048575), (21, 2097151), (22, 4194303), (23, 8388607), (24, 16777215), (25, 33554431), (26, 67108863), (27, 134217727), (28, 268435455), (29, 536870911), (30, 1073741823), (31, 2147483647), (32, 4294967295), (33, 8589934591), (34, 17179869183), (35, 34359738367)] [0, 1, 4, 6, 2, 3, 5, 7, 8, 9, 10, 11, 12, 13, 16, 18, 14, 15, 17, 19, 20, 21, 22, 23, 24, 25, 26, 27, 28, 29, 30, 31, 32, 33, 34, 35] (by kernel_rfl) (by kernel_rfl) (by kernel_rfl) (by kernel_rfl) rfl rfl (fun _ _ _ _ _ h => h) ?_ (fun hHeld => ?_)
      · exact box_step (below_dr _) hall
      refine held_take (v := ?_) (at_drop rfl) rfl rfl ?_ ?_
      rotate_left
      · (intro w' hSw; (try dsimp only at hSw); go_simp; try with_reducible rfl)
      try simp only [Act.put, List.setIfInBounds_toArray, List.set_cons_zero, List.set_cons_succ]
      refine held_take (v := ?_) (at_drop rfl) rfl rfl ?_ ?_
      rotate_left
      · (intro w' hSw; (try dsimp only at hSw); go_simp; try with_reducible rfl)
      try simp only [Act.put, List.setIfInBounds_toArray, List.set_cons_zero, List.set_cons_succ]
      refine held_take (v := ?_) (at_drop rfl) rfl rfl ?_ ?_
      rotate_left
      · (intro w' hSw; (try dsimp only at hSw); go_simp; try with_reducible rfl)
      try simp only [Act.put, List.setIfInBounds_toArray, List.set_cons_zero, List.set_cons_succ]
      refine held_take (v := ?_) (at_drop rfl) rfl rfl ?_ ?_
      rotate_left
      · (intro w' hSw; (try dsimp only at hSw); go_simp; try with_reducible rfl)
      try simp only [Act.put, List.setIfInBounds_toArray, List.set_cons_zero, List.set_cons_succ]
      refine held_op (at_drop rfl) rfl rfl (fun K hK => ?_)
      go_simp
      refine hK.out _ _ ?_ (fun hNew => ?_)
      · first | exact box_step hB hHeld | exact box_step (below_al _ _) hHeld | exact box_step (below_dr _) hHeld
      clear hHeld hK K
      have hHeld := hNew
      clear hNew
      try simp only [Act.put, List.setIfInBounds_toArray, List.set_cons_zero, List.set_cons_succ]
      refine held_op (at_drop rfl) rfl rfl (fun K hK => ?_)
      go_simp
      (go_at_call 24; ((with_reducible refine (hM _ _ ?_).mono ?_); (focus (repeat' (first | with_reducible assumption | ((with_reducible refine new2 _ _ _ _ ?_ HO.out.1 HO.out.2); (first | rfl | (simp; done))) | with_reducible refine VecsV.al ?_ _ | with_reducible refine VecsV.dr ?_))); rintro e wm ⟨rfl, hB⟩))
      refine hK.out _ _ ?_ (fun hNew => ?_)
      · first | exact box_step hB hHeld | exact box_step (below_al _ _) hHeld | exact box_step (below_dr _) hHeld
      clear hHeld hK K
      have hHeld := hNew
      clear hNew
      try simp only [Act.put, List.setIfInBounds_toArray, List.set_cons_zero, List.set_cons_succ]
      refine held_op (at_drop rfl) rfl rfl (fun K hK => ?_)
      go_simp
      (go_at_call 12; ((with_reducible refine (hC3 _).mono ?_); rintro e wm ⟨rfl, hB⟩))
      refine hK.out _ _ ?_ (fun hNew => ?_)
      · first | exact box_step hB hHeld | exact box_step (below_al _ _) hHeld | exact box_step (below_dr _) hHeld
      clear hHeld hK K
      have hHeld := hNew
      clear hNew
      try simp only [Act.put, List.setIfInBounds_toArray, List.set_cons_zero, List.set_cons_succ]
      refine held_take (v := ?_) (at_drop rfl) rfl rfl ?_ ?_
      rotate_left
      · (intro w' hSw; (try dsimp only at hSw); go_simp; try with_reducible rfl)
      try simp only [Act.put, List.setIfInBounds_toArray, List.set_cons_zero, List.set_cons_succ]
      refine held_take (v := ?_) (at_drop rfl) rfl rfl ?_ ?_
      rotate_left
      · (intro w' hSw; (try dsimp only at hSw); go_simp; try with_reducible rfl)
      try simp only [Act.put, List.setIfInBounds_toArray, List.set_cons_zero, List.set_cons_succ]
      refine held_take (v := ?_) (at_drop rfl) rfl rfl ?_ ?_
      rotate_left
      · (intro w' hSw; (try dsimp only at hSw); go_simp; try with_reducible rfl)
      try simp only [Act.put, List.setIfInBounds_toArray, List.set_cons_zero, List.set_cons_succ]
      refine held_take (v := ?_) (at_drop rfl) rfl rfl ?_ ?_
      rotate_left
      · (intro w' hSw; (try dsimp only at hSw); go_simp; try with_reducible rfl)
      try simp only [Act.put, List.setIfInBounds_toArray, List.set_cons_zero, List.set_cons_succ]
      refine held_take (v := ?_) (at_drop rfl) rfl rfl ?_ ?_
      rotate_left
      · (intro w' hSw; (try dsimp only at hSw); go_simp; try with_reducible rfl)
      try simp only [Act.put, List.setIfInBounds_toArray, List.set_cons_zero, List.set_cons_succ]
      refine held_take (v := ?_) (at_drop rfl) rfl rfl ?_ ?_
      rotate_left
      · (intro w' hSw; (try dsimp only at hSw); go_simp; try with_reducible rfl)
      try simp only [Act.put, List.setIfInBounds_toArray, List.set_cons_zero, List.set_cons_succ]
      refine held_take (v := ?_) (at_drop rfl) rfl rfl ?_ ?_
      rotate_left
      · (intro w' hSw; (try dsimp only at hSw); go_simp; try with_reducible rfl)
      try simp only [Act.put, List.setIfInBounds_toArray, List.set_cons_zero, List.set_cons_succ]
      refine held_take (v := ?_) (at_drop rfl) rfl rfl ?_ ?_
      rotate_left
      · (intro w' hSw; (try dsimp only at hSw); go_simp; try with_reducible rfl)
      try simp only [Act.put, List.setIfInBounds_toArray, List.set_cons_zero, List.set_cons_succ]
      refine held_take (v := ?_) (at_drop rfl) rfl rfl ?_ ?_
      rotate_left
      · (intro w' hSw; (try dsimp only at hSw); go_simp; try with_reducible rfl)
      try simp only [Act.put, List.setIfInBounds_toArray, List.set_cons_zero, List.set_cons_succ]
      refine held_op (at_drop rfl) rfl rfl (fun K hK => ?_)
      go_simp
      refine hK.out _ _ ?_ (fun hNew => ?_)
      · first | exact box_step hB hHeld | exact box_step (below_al _ _) hHeld | exact box_step (below_dr _) hHeld
      clear hHeld hK K
      have hHeld := hNew
      clear hNew
      try simp only [Act.put, List.setIfInBounds_toArray, List.set_cons_zero, List.set_cons_succ]
      refine held_op (at_drop rfl) rfl rfl (fun K hK => ?_)
      go_simp
      (go_at_call 26; ((with_reducible refine (hm _ _ ?_).mono ?_); (focus (repeat' (first | with_reducible assumption | ((with_reducible refine new2 _ _ _ _ ?_ HO.out.1 HO.out.2); (first | rfl | (simp; done))) | with_reducible refine VecsV.al ?_ _ | with_reducible refine VecsV.dr ?_))); rintro e wm ⟨rfl, hB⟩))
      refine hK.out _ _ ?_ (fun hNew => ?_)
      · first | exact box_step hB hHeld | exact box_step (below_al _ _) hHeld | exact box_step (below_dr _) hHeld
      clear hHeld hK K
      have hHeld := hNew
      clear hNew
      try simp only [Act.put, List.setIfInBounds_toArray, List.set_cons_zero, List.set_cons_succ]
      refine held_op (at_drop rfl) rfl rfl (fun K hK => ?_)
      go_simp
      (go_at_call 12; ((with_reducible refine (hC4 _).mono ?_); rintro e wm ⟨rfl, hB⟩))
      refine hK.out _ _ ?_ (fun hNew => ?_)
      · first | exact box_step hB hHeld | exact box_step (below_al _ _) hHeld | exact box_step (below_dr _) hHeld
      clear hHeld hK K
      have hHeld := hNew
      clear hNew
      try simp only [Act.put, List.setIfInBounds_toArray, List.set_cons_zero, List.set_cons_succ]
      refine held_take (v := ?_) (at_drop rfl) rfl rfl ?_ ?_
      rotate_left
      · (intro w' hSw; (try dsimp only at hSw); go_simp; try with_reducible rfl)
      try simp only [Act.put, List.setIfInBounds_toArray, List.set_cons_zero, List.set_cons_succ]
      refine held_skip (at_drop rfl) rfl hHeld ?_
      try simp only [Act.put, List.setIfInBounds_toArray, List.set_cons_zero, List.set_cons_succ]
      refine held_take (v := ?_) (at_drop rfl) rfl rfl ?_ ?_
      rotate_left
      · (intro w' hSw; (try dsimp only at hSw); go_simp; try with_reducible rfl)
      try simp only [Act.put, List.setIfInBounds_toArray, List.set_cons_zero, List.set_cons_succ]
      refine held_take (v := ?_) (at_drop rfl) rfl rfl ?_ ?_
      rotate_left
      · (intro w' hSw; (try dsimp only at hSw); go_simp; try with_reducible rfl)
      try simp only [Act.put, List.setIfInBounds_toArray, List.set_cons_zero, List.set_cons_succ]
      refine held_take (v := ?_) (at_drop rfl) rfl rfl ?_ ?_
      rotate_left
      · (intro w' hSw; (try dsimp only at hSw); go_simp; try with_reducible rfl)
      try simp only [Act.put, List.setIfInBounds_toArray, List.set_cons_zero, List.set_cons_succ]
      refine held_take (v := ?_) (at_drop rfl) rfl rfl ?_ ?_
      rotate_left
      · (intro w' hSw; (try dsimp only at hSw); go_simp; try with_reducible rfl)
      try simp only [Act.put, List.setIfInBounds_toArray, List.set_cons_zero, List.set_cons_succ]
      refine held_take (v := ?_) (at_drop rfl) rfl rfl ?_ ?_
      rotate_left
      · (intro w' hSw; (try dsimp only at hSw); go_simp; try with_reducible rfl)
      try simp only [Act.put, List.setIfInBounds_toArray, List.set_cons_zero, List.set_cons_succ]
      refine held_take (v := ?_) (at_drop rfl) rfl rfl ?_ ?_
      rotate_left
      · (intro w' hSw; (try dsimp only at hSw); go_simp; try with_reducible rfl)
      try simp only [Act.put, List.setIfInBounds_toArray, List.set_cons_zero, List.set_cons_succ]
      refine held_op (at_drop rfl) rfl rfl (fun K hK => ?_)
      go_simp
      (go_at_call 14; ((with_reducible refine (hA1 _).mono ?_); rintro e wm ⟨rfl, hB⟩))
      refine hK.out _ _ ?_ (fun hNew => ?_)
      · first | exact box_step hB hHeld | exact box_step (below_al _ _) hHeld | exact box_step (below_dr _) hHeld
      clear hHeld hK K
      have hHeld := hNew
      clear hNew
      try simp only [Act.put, List.setIfInBounds_toArray, List.set_cons_zero, List.set_cons_succ]
      refine held_take (v := ?_) (at_drop rfl) rfl rfl ?_ ?_
      rotate_left
      · (intro w' hSw; (try dsimp only at hSw); go_simp; try with_reducible rfl)
      try simp only [Act.put, List.setIfInBounds_toArray, List.set_cons_zero, List.set_cons_succ]
      refine held_skip (at_drop rfl) rfl hHeld ?_
      try simp only [Act.put, List.setIfInBounds_toArray, List.set_cons_zero, List.set_cons_succ]
      refine held_take (v := ?_) (at_drop rfl) rfl rfl ?_ ?_
      rotate_left
      · (intro w' hSw; (try dsimp only at hSw); go_simp; try with_reducible rfl)
      try simp only [Act.put, List.setIfInBounds_toArray, List.set_cons_zero, List.set_cons_succ]
      refine held_take (v := ?_) (at_drop rfl) rfl rfl ?_ ?_
      rotate_left
      · (intro w' hSw; (try dsimp only at hSw); go_simp; try with_reducible rfl)
      try simp only [Act.put, List.setIfInBounds_toArray, List.set_cons_zero, List.set_cons_succ]
      refine held_skip (at_drop rfl) rfl hHeld ?_
      try simp only [Act.put, List.setIfInBounds_toArray, List.set_cons_zero, List.set_cons_succ]
      refine held_skip (at_drop rfl) rfl hHeld ?_
      try simp only [Act.put, List.setIfInBounds_toArray, List.set_cons_zero, List.set_cons_succ]
      refine held_take (v := ?_) (at_drop rfl) rfl rfl ?_ ?_
      rotate_left
      · (intro w' hSw; (try dsimp only at hSw); go_simp; try with_reducible rfl)
      try simp only [Act.put, List.setIfInBounds_toArray, List.set_cons_zero, List.set_cons_succ]
      refine held_take (v := ?_) (at_drop rfl) rfl rfl ?_ ?_
      rotate_left
      · (intro w' hSw; (try dsimp only at hSw); go_simp; try with_reducible rfl)
      try simp only [Act.put, List.setIfInBounds_toArray, List.set_cons_zero, List.set_cons_succ]
      refine NoPanic.normal ?_
      obtain ⟨hs, _⟩ := hHeld
      go_wp2
      go_meet
      exact ⟨rfl, hs⟩
    case false.true.true =>
      exfalso
      have h := HCA.out HXY.out.2.2.symm HXY.out.2.1.symm
      rw [← HXY.out.1] at h
      cases h
    case true.false.false =>
      simp only [Bool.or_true, Bool.true_or, Bool.or_false, Bool.false_or, Bool.and_true, Bool.true_and, Bool.and_false, Bool.false_and, Bool.or_self, Bool.and_self] at hC3 hC4
      refine wp_region_noPanic ?_
      refine wp_region_ord (S := (fun w' => Boxes w a b (r, n) w' ∧ w'.cell? ⟨w.heap.size, 0, none⟩ = some (.int .u32 (a 0 : Int)) ∧ w'.cell? ⟨w.heap.size, 1, none⟩ = some (.int .u32 (a 1 : Int)) ∧ w'.cell? ⟨w.heap.size, 2, none⟩ = some (.int .u32 (a 2 : Int)) ∧ w'.cell? ⟨w.heap.size, 3, none⟩ = some (.int .u32 (a 3 : Int)) ∧ w'.cell? ⟨w.heap.size, 4, none⟩ = some (.int .u32 (a 4 : Int)) ∧ w'.cell? ⟨w.heap.size, 5, none⟩ = some (.int .u32 (a 5 : Int)) ∧ w'.cell? ⟨w.heap.size, 6, none⟩ = some (.int .u32 (a 6 : Int)) ∧ w'.cell? ⟨w.heap.size, 7, none⟩ = some (.int .u32 (a 7 : Int)) ∧ w'.cell? ⟨w.heap.size + 1, 0, none⟩ = some (.int .u32 (b 0 : Int)) ∧ w'.cell? ⟨w.heap.size + 1, 1, none⟩ = some (.int .u32 (b 1 : Int)) ∧ w'.cell? ⟨w.heap.size + 1, 2, none⟩ = some (.int .u32 (b 2 : Int)) ∧ w'.cell? ⟨w.heap.size + 1, 3, none⟩ = some (.int .u32 (b 3 : Int)) ∧ w'.cell? ⟨w.heap.size + 1, 4, none⟩ = some (.int .u32 (b 4 : Int)) ∧ w'.cell? ⟨w.heap.size + 1, 5, none⟩ = some (.int .u32 (b 5 : Int)) ∧ w'.cell? ⟨w.heap.size + 1, 6, none⟩ = some (.int .u32 (b 6 : Int)) ∧ w'.cell? ⟨w.heap.size + 1, 7, none⟩ = some (.int .u32 (b 7 : Int)) ∧ w'.cell? ⟨w.heap.size + 2, 0, none⟩ = some (.int .u8 (r : Int)) ∧ w'.cell? ⟨w.heap.size + 2, 1, none⟩ = some (.int .u32 (n : Int)))) [(0, 0), (1, 0), (2, 3), (3, 4), (4, 0), (5, 24), (6, 0), (7, 96), (8, 128), (9, 384), (10, 544), (11, 1152), (12, 2048), (13, 2048), (14, 14336), (15, 18432), (16, 2048), (17, 100352), (18, 2048), (19, 395264), (20, 524288), (21, 1574912), (22, 2230272), (23, 4196352), (24, 8912896), (25, 16777216), (26, 16777216), (27, 117440512), (28, 150994944), (29, 268435456), (30, 822083584), (31, 1358954496), (32, 2147483648), (33, 6442450944), (34, 10754195456), (35, 17196646400)] [(0, 0), (1, 1), (4, 3), (6, 19), (2, 83), (3, 87), (5, 95), (7, 127), (8, 255), (9, 511), (10, 1023), (11, 2047), (12, 4095), (13, 8191), (16, 16383), (18, 81919), (14, 344063), (15, 360447), (17, 393215), (19, 524287), (20, 1048575), (21, 2097151), (22, 4194303), (23, 8388607), (24, 16777215), (25, 33554431), (26, 67108863), (27, 134217727), (28, 268435455), (29, 536870911), (30, 1073741823), (31, 2147483647), (32, 4294967295), (33, 8589934591), (34, 17179869183), (35, 34359738367)] [0, 1, 4, 6, 2, 3, 5, 7, 8, 9, 10, 11, 12, 13, 16, 18, 14, 15, 17, 19, 20, 21, 22, 23, 24, 25, 26, 27, 28, 29, 30, 31, 32, 33, 34, 35] (by kernel_rfl) (by kernel_rfl) (by kernel_rfl) (by kernel_rfl) rfl rfl (fun _ _ _ _ _ h => h) ?_ (fun hHeld => ?_)
      · exact box_step (below_dr _) hall
      refine held_take (v := ?_) (at_drop rfl) rfl rfl ?_ ?_
      rotate_left
      · (intro w' hSw; (try dsimp only at hSw); go_simp; try with_reducible rfl)
      try simp only [Act.put, List.setIfInBounds_toArray, List.set_cons_zero, List.set_cons_succ]
      refine held_take (v := ?_) (at_drop rfl) rfl rfl ?_ ?_
      rotate_left
      · (intro w' hSw; (try dsimp only at hSw); go_simp; try with_reducible rfl)
      try simp only [Act.put, List.setIfInBounds_toArray, List.set_cons_zero, List.set_cons_succ]
      refine held_take (v := ?_) (at_drop rfl) rfl rfl ?_ ?_
      rotate_left
      · (intro w' hSw; (try dsimp only at hSw); go_simp; try with_reducible rfl)
      try simp only [Act.put, List.setIfInBounds_toArray, List.set_cons_zero, List.set_cons_succ]
      refine held_take (v := ?_) (at_drop rfl) rfl rfl ?_ ?_
      rotate_left
      · (intro w' hSw; (try dsimp only at hSw); go_simp; try with_reducible rfl)
      try simp only [Act.put, List.setIfInBounds_toArray, List.set_cons_zero, List.set_cons_succ]
      refine held_op (at_drop rfl) rfl rfl (fun K hK => ?_)
      go_simp
      refine hK.out _ _ ?_ (fun hNew => ?_)
      · first | exact box_step hB hHeld | exact box_step (below_al _ _) hHeld | exact box_step (below_dr _) hHeld
      clear hHeld hK K
      have hHeld := hNew
      clear hNew
      try simp only [Act.put, List.setIfInBounds_toArray, List.set_cons_zero, List.set_cons_succ]
      refine held_op (at_drop rfl) rfl rfl (fun K hK => ?_)
      go_simp
      (go_at_call 24; ((with_reducible refine (hM _ _ ?_).mono ?_); (focus (repeat' (first | with_reducible assumption | ((with_reducible refine new2 _ _ _ _ ?_ HO.out.1 HO.out.2); (first | rfl | (simp; done))) | with_reducible refine VecsV.al ?_ _ | with_reducible refine VecsV.dr ?_))); rintro e wm ⟨rfl, hB⟩))
      refine hK.out _ _ ?_ (fun hNew => ?_)
      · first | exact box_step hB hHeld | exact box_step (below_al _ _) hHeld | exact box_step (below_dr _) hHeld
      clear hHeld hK K
      have hHeld := hNew
      clear hNew
      try simp only [Act.put, List.setIfInBounds_toArray, List.set_cons_zero, List.set_cons_succ]
      refine held_op (at_drop rfl) rfl rfl (fun K hK => ?_)
      go_simp
      (go_at_call 12; ((with_reducible refine (hC3 _).mono ?_); rintro e wm ⟨rfl, hB⟩))
      refine hK.out _ _ ?_ (fun hNew => ?_)
      · first | exact box_step hB hHeld | exact box_step (below_al _ _) hHeld | exact box_step (below_dr _) hHeld
      clear hHeld hK K
      have hHeld := hNew
      clear hNew
      try simp only [Act.put, List.setIfInBounds_toArray, List.set_cons_zero, List.set_cons_succ]
      refine held_take (v := ?_) (at_drop rfl) rfl rfl ?_ ?_
      rotate_left
      · (intro w' hSw; (try dsimp only at hSw); go_simp; try with_reducible rfl)
      try simp only [Act.put, List.setIfInBounds_toArray, List.set_cons_zero, List.set_cons_succ]
      refine held_skip (at_drop rfl) rfl hHeld ?_
      try simp only [Act.put, List.setIfInBounds_toArray, List.set_cons_zero, List.set_cons_succ]
      refine held_take (v := ?_) (at_drop rfl) rfl rfl ?_ ?_
      rotate_left
      · (intro w' hSw; (try dsimp only at hSw); go_simp; try with_reducible rfl)
      try simp only [Act.put, List.setIfInBounds_toArray, List.set_cons_zero, List.set_cons_succ]
      refine held_take (v := ?_) (at_drop rfl) rfl rfl ?_ ?_
      rotate_left
      · (intro w' hSw; (try dsimp only at hSw); go_simp; try with_reducible rfl)
      try simp only [Act.put, List.setIfInBounds_toArray, List.set_cons_zero, List.set_cons_succ]
      refine held_take (v := ?_) (at_drop rfl) rfl rfl ?_ ?_
      rotate_left
      · (intro w' hSw; (try dsimp only at hSw); go_simp; try with_reducible rfl)
      try simp only [Act.put, List.setIfInBounds_toArray, List.set_cons_zero, List.set_cons_succ]
      refine held_take (v := ?_) (at_drop rfl) rfl rfl ?_ ?_
      rotate_left
      · (intro w' hSw; (try dsimp only at hSw); go_simp; try with_reducible rfl)
      try simp only [Act.put, List.setIfInBounds_toArray, List.set_cons_zero, List.set_cons_succ]
      refine held_take (v := ?_) (at_drop rfl) rfl rfl ?_ ?_
      rotate_left
      · (intro w' hSw; (try dsimp only at hSw); go_simp; try with_reducible rfl)
      try simp only [Act.put, List.setIfInBounds_toArray, List.set_cons_zero, List.set_cons_succ]
      refine held_take (v := ?_) (at_drop rfl) rfl rfl ?_ ?_
      rotate_left
      · (intro w' hSw; (try dsimp only at hSw); go_simp; try with_reducible rfl)
      try simp only [Act.put, List.setIfInBounds_toArray, List.set_cons_zero, List.set_cons_succ]
      refine held_take (v := ?_) (at_drop rfl) rfl rfl ?_ ?_
      rotate_left
      · (intro w' hSw; (try dsimp only at hSw); go_simp; try with_reducible rfl)
      try simp only [Act.put, List.setIfInBounds_toArray, List.set_cons_zero, List.set_cons_succ]
      refine held_op (at_drop rfl) rfl rfl (fun K hK => ?_)
      go_simp
      refine hK.out _ _ ?_ (fun hNew => ?_)
      · first | exact box_step hB hHeld | exact box_step (below_al _ _) hHeld | exact box_step (below_dr _) hHeld
      clear hHeld hK K
      have hHeld := hNew
      clear hNew
      try simp only [Act.put, List.setIfInBounds_toArray, List.set_cons_zero, List.set_cons_succ]
      refine held_op (at_drop rfl) rfl rfl (fun K hK => ?_)
      go_simp
      (go_at_call 26; ((with_reducible refine (hm _ _ ?_).mono ?_); (focus (repeat' (first | with_reducible assumption | ((with_reducible refine new2 _ _ _ _ ?_ HO.out.1 HO.out.2); (first | rfl | (simp; done))) | with_reducible refine VecsV.al ?_ _ | with_reducible refine VecsV.dr ?_))); rintro e wm ⟨rfl, hB⟩))
      refine hK.out _ _ ?_ (fun hNew => ?_)
      · first | exact box_step hB hHeld | exact box_step (below_al _ _) hHeld | exact box_step (below_dr _) hHeld
      clear hHeld hK K
      have hHeld := hNew
      clear hNew
      try simp only [Act.put, List.setIfInBounds_toArray, List.set_cons_zero, List.set_cons_succ]
      refine held_op (at_drop rfl) rfl rfl (fun K hK => ?_)
      go_simp
      (go_at_call 12; ((with_reducible refine (hC4 _).mono ?_); rintro e wm ⟨rfl, hB⟩))
      refine hK.out _ _ ?_ (fun hNew => ?_)
      · first | exact box_step hB hHeld | exact box_step (below_al _ _) hHeld | exact box_step (below_dr _) hHeld
      clear hHeld hK K
      have hHeld := hNew
      clear hNew
      try simp only [Act.put, List.setIfInBounds_toArray, List.set_cons_zero, List.set_cons_succ]
      refine held_take (v := ?_) (at_drop rfl) rfl rfl ?_ ?_
      rotate_left
      · (intro w' hSw; (try dsimp only at hSw); go_simp; try with_reducible rfl)
      try simp only [Act.put, List.setIfInBounds_toArray, List.set_cons_zero, List.set_cons_succ]
      refine held_take (v := ?_) (at_drop rfl) rfl rfl ?_ ?_
      rotate_left
      · (intro w' hSw; (try dsimp only at hSw); go_simp; try with_reducible rfl)
      try simp only [Act.put, List.setIfInBounds_toArray, List.set_cons_zero, List.set_cons_succ]
      refine held_take (v := ?_) (at_drop rfl) rfl rfl ?_ ?_
      rotate_left
      · (intro w' hSw; (try dsimp only at hSw); go_simp; try with_reducible rfl)
      try simp only [Act.put, List.setIfInBounds_toArray, List.set_cons_zero, List.set_cons_succ]
      refine held_take (v := ?_) (at_drop rfl) rfl rfl ?_ ?_
      rotate_left
      · (intro w' hSw; (try dsimp only at hSw); go_simp; try with_reducible rfl)
      try simp only [Act.put, List.setIfInBounds_toArray, List.set_cons_zero, List.set_cons_succ]
      refine held_take (v := ?_) (at_drop rfl) rfl rfl ?_ ?_
      rotate_left
      · (intro w' hSw; (try dsimp only at hSw); go_simp; try with_reducible rfl)
      try simp only [Act.put, List.setIfInBounds_toArray, List.set_cons_zero, List.set_cons_succ]
      refine held_take (v := ?_) (at_drop rfl) rfl rfl ?_ ?_
      rotate_left
      · (intro w' hSw; (try dsimp only at hSw); go_simp; try with_reducible rfl)
      try simp only [Act.put, List.setIfInBounds_toArray, List.set_cons_zero, List.set_cons_succ]
      refine held_take (v := ?_) (at_drop rfl) rfl rfl ?_ ?_
      rotate_left
      · (intro w' hSw; (try dsimp only at hSw); go_simp; try with_reducible rfl)
      try simp only [Act.put, List.setIfInBounds_toArray, List.set_cons_zero, List.set_cons_succ]
      refine held_take (v := ?_) (at_drop rfl) rfl rfl ?_ ?_
      rotate_left
      · (intro w' hSw; (try dsimp only at hSw); go_simp; try with_reducible rfl)
      try simp only [Act.put, List.setIfInBounds_toArray, List.set_cons_zero, List.set_cons_succ]
      refine held_op (at_drop rfl) rfl rfl (fun K hK => ?_)
      go_simp
      (go_at_call 14; ((with_reducible refine (hA1 _).mono ?_); rintro e wm ⟨rfl, hB⟩))
      refine hK.out _ _ ?_ (fun hNew => ?_)
      · first | exact box_step hB hHeld | exact box_step (below_al _ _) hHeld | exact box_step (below_dr _) hHeld
      clear hHeld hK K
      have hHeld := hNew
      clear hNew
      try simp only [Act.put, List.setIfInBounds_toArray, List.set_cons_zero, List.set_cons_succ]
      refine held_take (v := ?_) (at_drop rfl) rfl rfl ?_ ?_
      rotate_left
      · (intro w' hSw; (try dsimp only at hSw); go_simp; try with_reducible rfl)
      try simp only [Act.put, List.setIfInBounds_toArray, List.set_cons_zero, List.set_cons_succ]
      refine held_skip (at_drop rfl) rfl hHeld ?_
      try simp only [Act.put, List.setIfInBounds_toArray, List.set_cons_zero, List.set_cons_succ]
      refine held_take (v := ?_) (at_drop rfl) rfl rfl ?_ ?_
      rotate_left
      · (intro w' hSw; (try dsimp only at hSw); go_simp; try with_reducible rfl)
      try simp only [Act.put, List.setIfInBounds_toArray, List.set_cons_zero, List.set_cons_succ]
      refine held_take (v := ?_) (at_drop rfl) rfl rfl ?_ ?_
      rotate_left
      · (intro w' hSw; (try dsimp only at hSw); go_simp; try with_reducible rfl)
      try simp only [Act.put, List.setIfInBounds_toArray, List.set_cons_zero, List.set_cons_succ]
      refine held_skip (at_drop rfl) rfl hHeld ?_
      try simp only [Act.put, List.setIfInBounds_toArray, List.set_cons_zero, List.set_cons_succ]
      refine held_skip (at_drop rfl) rfl hHeld ?_
      try simp only [Act.put, List.setIfInBounds_toArray, List.set_cons_zero, List.set_cons_succ]
      refine held_take (v := ?_) (at_drop rfl) rfl rfl ?_ ?_
      rotate_left
      · (intro w' hSw; (try dsimp only at hSw); go_simp; try with_reducible rfl)
      try simp only [Act.put, List.setIfInBounds_toArray, List.set_cons_zero, List.set_cons_succ]
      refine held_take (v := ?_) (at_drop rfl) rfl rfl ?_ ?_
      rotate_left
      · (intro w' hSw; (try dsimp only at hSw); go_simp; try with_reducible rfl)
      try simp only [Act.put, List.setIfInBounds_toArray, List.set_cons_zero, List.set_cons_succ]
      refine NoPanic.normal ?_
      obtain ⟨hs, _⟩ := hHeld
      go_wp2
      go_meet
      exact ⟨rfl, hs⟩
    case true.false.true =>
      simp only [Bool.or_true, Bool.true_or, Bool.or_false, Bool.false_or, Bool.and_true, Bool.true_and, Bool.and_false, Bool.false_and, Bool.or_self, Bool.and_self] at hC3 hC4
      refine wp_region_noPanic ?_
      refine wp_region_ord (S := (fun w' => Boxes w a b (r, n) w' ∧ w'.cell? ⟨w.heap.size, 0, none⟩ = some (.int .u32 (a 0 : Int)) ∧ w'.cell? ⟨w.heap.size, 1, none⟩ = some (.int .u32 (a 1 : Int)) ∧ w'.cell? ⟨w.heap.size, 2, none⟩ = some (.int .u32 (a 2 : Int)) ∧ w'.cell? ⟨w.heap.size, 3, none⟩ = some (.int .u32 (a 3 : Int)) ∧ w'.cell? ⟨w.heap.size, 4, none⟩ = some (.int .u32 (a 4 : Int)) ∧ w'.cell? ⟨w.heap.size, 5, none⟩ = some (.int .u32 (a 5 : Int)) ∧ w'.cell? ⟨w.heap.size, 6, none⟩ = some (.int .u32 (a 6 : Int)) ∧ w'.cell? ⟨w.heap.size, 7, none⟩ = some (.int .u32 (a 7 : Int)) ∧ w'.cell? ⟨w.heap.size + 1, 0, none⟩ = some (.int .u32 (b 0 : Int)) ∧ w'.cell? ⟨w.heap.size + 1, 1, none⟩ = some (.int .u32 (b 1 : Int)) ∧ w'.cell? ⟨w.heap.size + 1, 2, none⟩ = some (.int .u32 (b 2 : Int)) ∧ w'.cell? ⟨w.heap.size + 1, 3, none⟩ = some (.int .u32 (b 3 : Int)) ∧ w'.cell? ⟨w.heap.size + 1, 4, none⟩ = some (.int .u32 (b 4 : Int)) ∧ w'.cell? ⟨w.heap.size + 1, 5, none⟩ = some (.int .u32 (b 5 : Int)) ∧ w'.cell? ⟨w.heap.size + 1, 6, none⟩ = some (.int .u32 (b 6 : Int)) ∧ w'.cell? ⟨w.heap.size + 1, 7, none⟩ = some (.int .u32 (b 7 : Int)) ∧ w'.cell? ⟨w.heap.size + 2, 0, none⟩ = some (.int .u8 (r : Int)) ∧ w'.cell? ⟨w.heap.size + 2, 1, none⟩ = some (.int .u32 (n : Int)))) [(0, 0), (1, 0), (2, 3), (3, 4), (4, 0), (5, 24), (6, 0), (7, 96), (8, 128), (9, 384), (10, 544), (11, 1152), (12, 2048), (13, 2048), (14, 14336), (15, 18432), (16, 2048), (17, 100352), (18, 2048), (19, 395264), (20, 524288), (21, 1574912), (22, 2230272), (23, 4196352), (24, 8912896), (25, 16777216), (26, 16777216), (27, 117440512), (28, 150994944), (29, 268435456), (30, 822083584), (31, 1358954496), (32, 2147483648), (33, 6442450944), (34, 10754195456), (35, 17196646400)] [(0, 0), (1, 1), (4, 3), (6, 19), (2, 83), (3, 87), (5, 95), (7, 127), (8, 255), (9, 511), (10, 1023), (11, 2047), (12, 4095), (13, 8191), (16, 16383), (18, 81919), (14, 344063), (15, 360447), (17, 393215), (19, 524287), (20, 1048575), (21, 2097151), (22, 4194303), (23, 8388607), (24, 16777215), (25, 33554431), (26, 67108863), (27, 134217727), (28, 268435455), (29, 536870911), (30, 1073741823), (31, 2147483647), (32, 4294967295), (33, 8589934591), (34, 17179869183), (35, 34359738367)] [0, 1, 4, 6, 2, 3, 5, 7, 8, 9, 10, 11, 12, 13, 16, 18, 14, 15, 17, 19, 20, 21, 22, 23, 24, 25, 26, 27, 28, 29, 30, 31, 32, 33, 34, 35] (by kernel_rfl) (by kernel_rfl) (by kernel_rfl) (by kernel_rfl) rfl rfl (fun _ _ _ _ _ h => h) ?_ (fun hHeld => ?_)
      · exact box_step (below_dr _) hall
      refine held_take (v := ?_) (at_drop rfl) rfl rfl ?_ ?_
      rotate_left
      · (intro w' hSw; (try dsimp only at hSw); go_simp; try with_reducible rfl)
      try simp only [Act.put, List.setIfInBounds_toArray, List.set_cons_zero, List.set_cons_succ]
      refine held_take (v := ?_) (at_drop rfl) rfl rfl ?_ ?_
      rotate_left
      · (intro w' hSw; (try dsimp only at hSw); go_simp; try with_reducible rfl)
      try simp only [Act.put, List.setIfInBounds_toArray, List.set_cons_zero, List.set_cons_succ]
      refine held_take (v := ?_) (at_drop rfl) rfl rfl ?_ ?_
      rotate_left
      · (intro w' hSw; (try dsimp only at hSw); go_simp; try with_reducible rfl)
      try simp only [Act.put, List.setIfInBounds_toArray, List.set_cons_zero, List.set_cons_succ]
      refine held_take (v := ?_) (at_drop rfl) rfl rfl ?_ ?_
      rotate_left
      · (intro w' hSw; (try dsimp only at hSw); go_simp; try with_reducible rfl)
      try simp only [Act.put, List.setIfInBounds_toArray, List.set_cons_zero, List.set_cons_succ]
      refine held_op (at_drop rfl) rfl rfl (fun K hK => ?_)
      go_simp
      refine hK.out _ _ ?_ (fun hNew => ?_)
      · first | exact box_step hB hHeld | exact box_step (below_al _ _) hHeld | exact box_step (below_dr _) hHeld
      clear hHeld hK K
      have hHeld := hNew
      clear hNew
      try simp only [Act.put, List.setIfInBounds_toArray, List.set_cons_zero, List.set_cons_succ]
      refine held_op (at_drop rfl) rfl rfl (fun K hK => ?_)
      go_simp
      (go_at_call 24; ((with_reducible refine (hM _ _ ?_).mono ?_); (focus (repeat' (first | with_reducible assumption | ((with_reducible refine new2 _ _ _ _ ?_ HO.out.1 HO.out.2); (first | rfl | (simp; done))) | with_reducible refine VecsV.al ?_ _ | with_reducible refine VecsV.dr ?_))); rintro e wm ⟨rfl, hB⟩))
      refine hK.out _ _ ?_ (fun hNew => ?_)
      · first | exact box_step hB hHeld | exact box_step (below_al _ _) hHeld | exact box_step (below_dr _) hHeld
      clear hHeld hK K
      have hHeld := hNew
      clear hNew
      try simp only [Act.put, List.setIfInBounds_toArray, List.set_cons_zero, List.set_cons_succ]
      refine held_op (at_drop rfl) rfl rfl (fun K hK => ?_)
      go_simp
      (go_at_call 12; ((with_reducible refine (hC3 _).mono ?_); rintro e wm ⟨rfl, hB⟩))
      refine hK.out _ _ ?_ (fun hNew => ?_)
      · first | exact box_step hB hHeld | exact box_step (below_al _ _) hHeld | exact box_step (below_dr _) hHeld
      clear hHeld hK K
      have hHeld := hNew
      clear hNew
      try simp only [Act.put, List.setIfInBounds_toArray, List.set_cons_zero, List.set_cons_succ]
      refine held_take (v := ?_) (at_drop rfl) rfl rfl ?_ ?_
      rotate_left
      · (intro w' hSw; (try dsimp only at hSw); go_simp; try with_reducible rfl)
      try simp only [Act.put, List.setIfInBounds_toArray, List.set_cons_zero, List.set_cons_succ]
      refine held_skip (at_drop rfl) rfl hHeld ?_
      try simp only [Act.put, List.setIfInBounds_toArray, List.set_cons_zero, List.set_cons_succ]
      refine held_take (v := ?_) (at_drop rfl) rfl rfl ?_ ?_
      rotate_left
      · (intro w' hSw; (try dsimp only at hSw); go_simp; try with_reducible rfl)
      try simp only [Act.put, List.setIfInBounds_toArray, List.set_cons_zero, List.set_cons_succ]
      refine held_take (v := ?_) (at_drop rfl) rfl rfl ?_ ?_
      rotate_left
      · (intro w' hSw; (try dsimp only at hSw); go_simp; try with_reducible rfl)
      try simp only [Act.put, List.setIfInBounds_toArray, List.set_cons_zero, List.set_cons_succ]
      refine held_take (v := ?_) (at_drop rfl) rfl rfl ?_ ?_
      rotate_left
      · (intro w' hSw; (try dsimp only at hSw); go_simp; try with_reducible rfl)
      try simp only [Act.put, List.setIfInBounds_toArray, List.set_cons_zero, List.set_cons_succ]
      refine held_take (v := ?_) (at_drop rfl) rfl rfl ?_ ?_
      rotate_left
      · (intro w' hSw; (try dsimp only at hSw); go_simp; try with_reducible rfl)
      try simp only [Act.put, List.setIfInBounds_toArray, List.set_cons_zero, List.set_cons_succ]
      refine held_take (v := ?_) (at_drop rfl) rfl rfl ?_ ?_
      rotate_left
      · (intro w' hSw; (try dsimp only at hSw); go_simp; try with_reducible rfl)
      try simp only [Act.put, List.setIfInBounds_toArray, List.set_cons_zero, List.set_cons_succ]
      refine held_take (v := ?_) (at_drop rfl) rfl rfl ?_ ?_
      rotate_left
      · (intro w' hSw; (try dsimp only at hSw); go_simp; try with_reducible rfl)
      try simp only [Act.put, List.setIfInBounds_toArray, List.set_cons_zero, List.set_cons_succ]
      refine held_take (v := ?_) (at_drop rfl) rfl rfl ?_ ?_
      rotate_left
      · (intro w' hSw; (try dsimp only at hSw); go_simp; try with_reducible rfl)
      try simp only [Act.put, List.setIfInBounds_toArray, List.set_cons_zero, List.set_cons_succ]
      refine held_op (at_drop rfl) rfl rfl (fun K hK => ?_)
      go_simp
      refine hK.out _ _ ?_ (fun hNew => ?_)
      · first | exact box_step hB hHeld | exact box_step (below_al _ _) hHeld | exact box_step (below_dr _) hHeld
      clear hHeld hK K
      have hHeld := hNew
      clear hNew
      try simp only [Act.put, List.setIfInBounds_toArray, List.set_cons_zero, List.set_cons_succ]
      refine held_op (at_drop rfl) rfl rfl (fun K hK => ?_)
      go_simp
      (go_at_call 26; ((with_reducible refine (hm _ _ ?_).mono ?_); (focus (repeat' (first | with_reducible assumption | ((with_reducible refine new2 _ _ _ _ ?_ HO.out.1 HO.out.2); (first | rfl | (simp; done))) | with_reducible refine VecsV.al ?_ _ | with_reducible refine VecsV.dr ?_))); rintro e wm ⟨rfl, hB⟩))
      refine hK.out _ _ ?_ (fun hNew => ?_)
      · first | exact box_step hB hHeld | exact box_step (below_al _ _) hHeld | exact box_step (below_dr _) hHeld
      clear hHeld hK K
      have hHeld := hNew
      clear hNew
      try simp only [Act.put, List.setIfInBounds_toArray, List.set_cons_zero, List.set_cons_succ]
      refine held_op (at_drop rfl) rfl rfl (fun K hK => ?_)
      go_simp
      (go_at_call 12; ((with_reducible refine (hC4 _).mono ?_); rintro e wm ⟨rfl, hB⟩))
      refine hK.out _ _ ?_ (fun hNew => ?_)
      · first | exact box_step hB hHeld | exact box_step (below_al _ _) hHeld | exact box_step (below_dr _) hHeld
      clear hHeld hK K
      have hHeld := hNew
      clear hNew
      try simp only [Act.put, List.setIfInBounds_toArray, List.set_cons_zero, List.set_cons_succ]
      refine held_take (v := ?_) (at_drop rfl) rfl rfl ?_ ?_
      rotate_left
      · (intro w' hSw; (try dsimp only at hSw); go_simp; try with_reducible rfl)
      try simp only [Act.put, List.setIfInBounds_toArray, List.set_cons_zero, List.set_cons_succ]
      refine held_take (v := ?_) (at_drop rfl) rfl rfl ?_ ?_
      rotate_left
      · (intro w' hSw; (try dsimp only at hSw); go_simp; try with_reducible rfl)
      try simp only [Act.put, List.setIfInBounds_toArray, List.set_cons_zero, List.set_cons_succ]
      refine held_take (v := ?_) (at_drop rfl) rfl rfl ?_ ?_
      rotate_left
      · (intro w' hSw; (try dsimp only at hSw); go_simp; try with_reducible rfl)
      try simp only [Act.put, List.setIfInBounds_toArray, List.set_cons_zero, List.set_cons_succ]
      refine held_take (v := ?_) (at_drop rfl) rfl rfl ?_ ?_
      rotate_left
      · (intro w' hSw; (try dsimp only at hSw); go_simp; try with_reducible rfl)
      try simp only [Act.put, List.setIfInBounds_toArray, List.set_cons_zero, List.set_cons_succ]
      refine held_take (v := ?_) (at_drop rfl) rfl rfl ?_ ?_
      rotate_left
      · (intro w' hSw; (try dsimp only at hSw); go_simp; try with_reducible rfl)
      try simp only [Act.put, List.setIfInBounds_toArray, List.set_cons_zero, List.set_cons_succ]
      refine held_take (v := ?_) (at_drop rfl) rfl rfl ?_ ?_
      rotate_left
      · (intro w' hSw; (try dsimp only at hSw); go_simp; try with_reducible rfl)
      try simp only [Act.put, List.setIfInBounds_toArray, List.set_cons_zero, List.set_cons_succ]
      refine held_take (v := ?_) (at_drop rfl) rfl rfl ?_ ?_
      rotate_left
      · (intro w' hSw; (try dsimp only at hSw); go_simp; try with_reducible rfl)
      try simp only [Act.put, List.setIfInBounds_toArray, List.set_cons_zero, List.set_cons_succ]
      refine held_take (v := ?_) (at_drop rfl) rfl rfl ?_ ?_
      rotate_left
      · (intro w' hSw; (try dsimp only at hSw); go_simp; try with_reducible rfl)
      try simp only [Act.put, List.setIfInBounds_toArray, List.set_cons_zero, List.set_cons_succ]
      refine held_op (at_drop rfl) rfl rfl (fun K hK => ?_)
      go_simp
      (go_at_call 14; ((with_reducible refine (hA1 _).mono ?_); rintro e wm ⟨rfl, hB⟩))
      refine hK.out _ _ ?_ (fun hNew => ?_)
      · first | exact box_step hB hHeld | exact box_step (below_al _ _) hHeld | exact box_step (below_dr _) hHeld
      clear hHeld hK K
      have hHeld := hNew
      clear hNew
      try simp only [Act.put, List.setIfInBounds_toArray, List.set_cons_zero, List.set_cons_succ]
      refine held_take (v := ?_) (at_drop rfl) rfl rfl ?_ ?_
      rotate_left
      · (intro w' hSw; (try dsimp only at hSw); go_simp; try with_reducible rfl)
      try simp only [Act.put, List.setIfInBounds_toArray, List.set_cons_zero, List.set_cons_succ]
      refine held_take (v := ?_) (at_drop rfl) rfl rfl ?_ ?_
      rotate_left
      · (intro w' hSw; (try dsimp only at hSw); go_simp; try with_reducible rfl)
      try simp only [Act.put, List.setIfInBounds_toArray, List.set_cons_zero, List.set_cons_succ]
      refine held_take (v := ?_) (at_drop rfl) rfl rfl ?_ ?_
      rotate_left
      · (intro w' hSw; (try dsimp only at hSw); go_simp; try with_reducible rfl)
      try simp only [Act.put, List.setIfInBounds_toArray, List.set_cons_zero, List.set_cons_succ]
      refine held_take (v := ?_) (at_drop rfl) rfl rfl ?_ ?_
      rotate_left
      · (intro w' hSw; (try dsimp only at hSw); go_simp; try with_reducible rfl)
      try simp only [Act.put, List.setIfInBounds_toArray, List.set_cons_zero, List.set_cons_succ]
      refine held_skip (at_drop rfl) rfl hHeld ?_
      try simp only [Act.put, List.setIfInBounds_toArray, List.set_cons_zero, List.set_cons_succ]
      refine held_skip (at_drop rfl) rfl hHeld ?_
      try simp only [Act.put, List.setIfInBounds_toArray, List.set_cons_zero, List.set_cons_succ]
      refine held_take (v := ?_) (at_drop rfl) rfl rfl ?_ ?_
      rotate_left
      · (intro w' hSw; (try dsimp only at hSw); go_simp; try with_reducible rfl)
      try simp only [Act.put, List.setIfInBounds_toArray, List.set_cons_zero, List.set_cons_succ]
      refine held_take (v := ?_) (at_drop rfl) rfl rfl ?_ ?_
      rotate_left
      · (intro w' hSw; (try dsimp only at hSw); go_simp; try with_reducible rfl)
      try simp only [Act.put, List.setIfInBounds_toArray, List.set_cons_zero, List.set_cons_succ]
      refine NoPanic.normal ?_
      obtain ⟨hs, _⟩ := hHeld
      go_wp2
      go_meet
      exact ⟨rfl, hs⟩
    case true.true.false =>
      simp only [Bool.or_true, Bool.true_or, Bool.or_false, Bool.false_or, Bool.and_true, Bool.true_and, Bool.and_false, Bool.false_and, Bool.or_self, Bool.and_self] at hC3 hC4
      refine wp_region_noPanic ?_
      refine wp_region_ord (S := (fun w' => Boxes w a b (r, n) w' ∧ w'.cell? ⟨w.heap.size, 0, none⟩ = some (.int .u32 (a 0 : Int)) ∧ w'.cell? ⟨w.heap.size, 1, none⟩ = some (.int .u32 (a 1 : Int)) ∧ w'.cell? ⟨w.heap.size, 2, none⟩ = some (.int .u32 (a 2 : Int)) ∧ w'.cell? ⟨w.heap.size, 3, none⟩ = some (.int .u32 (a 3 : Int)) ∧ w'.cell? ⟨w.heap.size, 4, none⟩ = some (.int .u32 (a 4 : Int)) ∧ w'.cell? ⟨w.heap.size, 5, none⟩ = some (.int .u32 (a 5 : Int)) ∧ w'.cell? ⟨w.heap.size, 6, none⟩ = some (.int .u32 (a 6 : Int)) ∧ w'.cell? ⟨w.heap.size, 7, none⟩ = some (.int .u32 (a 7 : Int)) ∧ w'.cell? ⟨w.heap.size + 1, 0, none⟩ = some (.int .u32 (b 0 : Int)) ∧ w'.cell? ⟨w.heap.size + 1, 1, none⟩ = some (.int .u32 (b 1 : Int)) ∧ w'.cell? ⟨w.heap.size + 1, 2, none⟩ = some (.int .u32 (b 2 : Int)) ∧ w'.cell? ⟨w.heap.size + 1, 3, none⟩ = some (.int .u32 (b 3 : Int)) ∧ w'.cell? ⟨w.heap.size + 1, 4, none⟩ = some (.int .u32 (b 4 : Int)) ∧ w'.cell? ⟨w.heap.size + 1, 5, none⟩ = some (.int .u32 (b 5 : Int)) ∧ w'.cell? ⟨w.heap.size + 1, 6, none⟩ = some (.int .u32 (b 6 : Int)) ∧ w'.cell? ⟨w.heap.size + 1, 7, none⟩ = some (.int .u32 (b 7 : Int)) ∧ w'.cell? ⟨w.heap.size + 2, 0, none⟩ = some (.int .u8 (r : Int)) ∧ w'.cell? ⟨w.heap.size + 2, 1, none⟩ = some (.int .u32 (n : Int)))) [(0, 0), (1, 0), (2, 3), (3, 4), (4, 0), (5, 24), (6, 0), (7, 96), (8, 128), (9, 384), (10, 544), (11, 1152), (12, 2048), (13, 2048), (14, 14336), (15, 18432), (16, 2048), (17, 100352), (18, 2048), (19, 395264), (20, 524288), (21, 1574912), (22, 2230272), (23, 4196352), (24, 8912896), (25, 16777216), (26, 16777216), (27, 117440512), (28, 150994944), (29, 268435456), (30, 822083584), (31, 1358954496), (32, 2147483648), (33, 6442450944), (34, 10754195456), (35, 17196646400)] [(0, 0), (1, 1), (4, 3), (6, 19), (2, 83), (3, 87), (5, 95), (7, 127), (8, 255), (9, 511), (10, 1023), (11, 2047), (12, 4095), (13, 8191), (16, 16383), (18, 81919), (14, 344063), (15, 360447), (17, 393215), (19, 524287), (20, 1048575), (21, 2097151), (22, 4194303), (23, 8388607), (24, 16777215), (25, 33554431), (26, 67108863), (27, 134217727), (28, 268435455), (29, 536870911), (30, 1073741823), (31, 2147483647), (32, 4294967295), (33, 8589934591), (34, 17179869183), (35, 34359738367)] [0, 1, 4, 6, 2, 3, 5, 7, 8, 9, 10, 11, 12, 13, 16, 18, 14, 15, 17, 19, 20, 21, 22, 23, 24, 25, 26, 27, 28, 29, 30, 31, 32, 33, 34, 35] (by kernel_rfl) (by kernel_rfl) (by kernel_rfl) (by kernel_rfl) rfl rfl (fun _ _ _ _ _ h => h) ?_ (fun hHeld => ?_)
      · exact box_step (below_dr _) hall
      refine held_take (v := ?_) (at_drop rfl) rfl rfl ?_ ?_
      rotate_left
      · (intro w' hSw; (try dsimp only at hSw); go_simp; try with_reducible rfl)
      try simp only [Act.put, List.setIfInBounds_toArray, List.set_cons_zero, List.set_cons_succ]
      refine held_take (v := ?_) (at_drop rfl) rfl rfl ?_ ?_
      rotate_left
      · (intro w' hSw; (try dsimp only at hSw); go_simp; try with_reducible rfl)
      try simp only [Act.put, List.setIfInBounds_toArray, List.set_cons_zero, List.set_cons_succ]
      refine held_take (v := ?_) (at_drop rfl) rfl rfl ?_ ?_
      rotate_left
      · (intro w' hSw; (try dsimp only at hSw); go_simp; try with_reducible rfl)
      try simp only [Act.put, List.setIfInBounds_toArray, List.set_cons_zero, List.set_cons_succ]
      refine held_take (v := ?_) (at_drop rfl) rfl rfl ?_ ?_
      rotate_left
      · (intro w' hSw; (try dsimp only at hSw); go_simp; try with_reducible rfl)
      try simp only [Act.put, List.setIfInBounds_toArray, List.set_cons_zero, List.set_cons_succ]
      refine held_op (at_drop rfl) rfl rfl (fun K hK => ?_)
      go_simp
      refine hK.out _ _ ?_ (fun hNew => ?_)
      · first | exact box_step hB hHeld | exact box_step (below_al _ _) hHeld | exact box_step (below_dr _) hHeld
      clear hHeld hK K
      have hHeld := hNew
      clear hNew
      try simp only [Act.put, List.setIfInBounds_toArray, List.set_cons_zero, List.set_cons_succ]
      refine held_op (at_drop rfl) rfl rfl (fun K hK => ?_)
      go_simp
      (go_at_call 24; ((with_reducible refine (hM _ _ ?_).mono ?_); (focus (repeat' (first | with_reducible assumption | ((with_reducible refine new2 _ _ _ _ ?_ HO.out.1 HO.out.2); (first | rfl | (simp; done))) | with_reducible refine VecsV.al ?_ _ | with_reducible refine VecsV.dr ?_))); rintro e wm ⟨rfl, hB⟩))
      refine hK.out _ _ ?_ (fun hNew => ?_)
      · first | exact box_step hB hHeld | exact box_step (below_al _ _) hHeld | exact box_step (below_dr _) hHeld
      clear hHeld hK K
      have hHeld := hNew
      clear hNew
      try simp only [Act.put, List.setIfInBounds_toArray, List.set_cons_zero, List.set_cons_succ]
      refine held_op (at_drop rfl) rfl rfl (fun K hK => ?_)
      go_simp
      (go_at_call 12; ((with_reducible refine (hC3 _).mono ?_); rintro e wm ⟨rfl, hB⟩))
      refine hK.out _ _ ?_ (fun hNew => ?_)
      · first | exact box_step hB hHeld | exact box_step (below_al _ _) hHeld | exact box_step (below_dr _) hHeld
      clear hHeld hK K
      have hHeld := hNew
      clear hNew
      try simp only [Act.put, List.setIfInBounds_toArray, List.set_cons_zero, List.set_cons_succ]
      refine held_take (v := ?_) (at_drop rfl) rfl rfl ?_ ?_
      rotate_left
      · (intro w' hSw; (try dsimp only at hSw); go_simp; try with_reducible rfl)
      try simp only [Act.put, List.setIfInBounds_toArray, List.set_cons_zero, List.set_cons_succ]
      refine held_skip (at_drop rfl) rfl hHeld ?_
      try simp only [Act.put, List.setIfInBounds_toArray, List.set_cons_zero, List.set_cons_succ]
      refine held_take (v := ?_) (at_drop rfl) rfl rfl ?_ ?_
      rotate_left
      · (intro w' hSw; (try dsimp only at hSw); go_simp; try with_reducible rfl)
      try simp only [Act.put, List.setIfInBounds_toArray, List.set_cons_zero, List.set_cons_succ]
      refine held_take (v := ?_) (at_drop rfl) rfl rfl ?_ ?_
      rotate_left
      · (intro w' hSw; (try dsimp only at hSw); go_simp; try with_reducible rfl)
      try simp only [Act.put, List.setIfInBounds_toArray, List.set_cons_zero, List.set_cons_succ]
      refine held_take (v := ?_) (at_drop rfl) rfl rfl ?_ ?_
      rotate_left
      · (intro w' hSw; (try dsimp only at hSw); go_simp; try with_reducible rfl)
      try simp only [Act.put, List.setIfInBounds_toArray, List.set_cons_zero, List.set_cons_succ]
      refine held_take (v := ?_) (at_drop rfl) rfl rfl ?_ ?_
      rotate_left
      · (intro w' hSw; (try dsimp only at hSw); go_simp; try with_reducible rfl)
      try simp only [Act.put, List.setIfInBounds_toArray, List.set_cons_zero, List.set_cons_succ]
      refine held_take (v := ?_) (at_drop rfl) rfl rfl ?_ ?_
      rotate_left
      · (intro w' hSw; (try dsimp only at hSw); go_simp; try with_reducible rfl)
      try simp only [Act.put, List.setIfInBounds_toArray, List.set_cons_zero, List.set_cons_succ]
      refine held_take (v := ?_) (at_drop rfl) rfl rfl ?_ ?_
      rotate_left
      · (intro w' hSw; (try dsimp only at hSw); go_simp; try with_reducible rfl)
      try simp only [Act.put, List.setIfInBounds_toArray, List.set_cons_zero, List.set_cons_succ]
      refine held_take (v := ?_) (at_drop rfl) rfl rfl ?_ ?_
      rotate_left
      · (intro w' hSw; (try dsimp only at hSw); go_simp; try with_reducible rfl)
      try simp only [Act.put, List.setIfInBounds_toArray, List.set_cons_zero, List.set_cons_succ]
      refine held_op (at_drop rfl) rfl rfl (fun K hK => ?_)
      go_simp
      refine hK.out _ _ ?_ (fun hNew => ?_)
      · first | exact box_step hB hHeld | exact box_step (below_al _ _) hHeld | exact box_step (below_dr _) hHeld
      clear hHeld hK K
      have hHeld := hNew
      clear hNew
      try simp only [Act.put, List.setIfInBounds_toArray, List.set_cons_zero, List.set_cons_succ]
      refine held_op (at_drop rfl) rfl rfl (fun K hK => ?_)
      go_simp
      (go_at_call 26; ((with_reducible refine (hm _ _ ?_).mono ?_); (focus (repeat' (first | with_reducible assumption | ((with_reducible refine new2 _ _ _ _ ?_ HO.out.1 HO.out.2); (first | rfl | (simp; done))) | with_reducible refine VecsV.al ?_ _ | with_reducible refine VecsV.dr ?_))); rintro e wm ⟨rfl, hB⟩))
      refine hK.out _ _ ?_ (fun hNew => ?_)
      · first | exact box_step hB hHeld | exact box_step (below_al _ _) hHeld | exact box_step (below_dr _) hHeld
      clear hHeld hK K
      have hHeld := hNew
      clear hNew
      try simp only [Act.put, List.setIfInBounds_toArray, List.set_cons_zero, List.set_cons_succ]
      refine held_op (at_drop rfl) rfl rfl (fun K hK => ?_)
      go_simp
      (go_at_call 12; ((with_reducible refine (hC4 _).mono ?_); rintro e wm ⟨rfl, hB⟩))
      refine hK.out _ _ ?_ (fun hNew => ?_)
      · first | exact box_step hB hHeld | exact box_step (below_al _ _) hHeld | exact box_step (below_dr _) hHeld
      clear hHeld hK K
      have hHeld := hNew
      clear hNew
      try simp only [Act.put, List.setIfInBounds_toArray, List.set_cons_zero, List.set_cons_succ]
      refine held_take (v := ?_) (at_drop rfl) rfl rfl ?_ ?_
      rotate_left
      · (intro w' hSw; (try dsimp only at hSw); go_simp; try with_reducible rfl)
      try simp only [Act.put, List.setIfInBounds_toArray, List.set_cons_zero, List.set_cons_succ]
      refine held_take (v := ?_) (at_drop rfl) rfl rfl ?_ ?_
      rotate_left
      · (intro w' hSw; (try dsimp only at hSw); go_simp; try with_reducible rfl)
      try simp only [Act.put, List.setIfInBounds_toArray, List.set_cons_zero, List.set_cons_succ]
      refine held_take (v := ?_) (at_drop rfl) rfl rfl ?_ ?_
      rotate_left
      · (intro w' hSw; (try dsimp only at hSw); go_simp; try with_reducible rfl)
      try simp only [Act.put, List.setIfInBounds_toArray, List.set_cons_zero, List.set_cons_succ]
      refine held_take (v := ?_) (at_drop rfl) rfl rfl ?_ ?_
      rotate_left
      · (intro w' hSw; (try dsimp only at hSw); go_simp; try with_reducible rfl)
      try simp only [Act.put, List.setIfInBounds_toArray, List.set_cons_zero, List.set_cons_succ]
      refine held_take (v := ?_) (at_drop rfl) rfl rfl ?_ ?_
      rotate_left
      · (intro w' hSw; (try dsimp only at hSw); go_simp; try with_reducible rfl)
      try simp only [Act.put, List.setIfInBounds_toArray, List.set_cons_zero, List.set_cons_succ]
      refine held_take (v := ?_) (at_drop rfl) rfl rfl ?_ ?_
      rotate_left
      · (intro w' hSw; (try dsimp only at hSw); go_simp; try with_reducible rfl)
      try simp only [Act.put, List.setIfInBounds_toArray, List.set_cons_zero, List.set_cons_succ]
      refine held_take (v := ?_) (at_drop rfl) rfl rfl ?_ ?_
      rotate_left
      · (intro w' hSw; (try dsimp only at hSw); go_simp; try with_reducible rfl)
      try simp only [Act.put, List.setIfInBounds_toArray, List.set_cons_zero, List.set_cons_succ]
      refine held_take (v := ?_) (at_drop rfl) rfl rfl ?_ ?_
      rotate_left
      · (intro w' hSw; (try dsimp only at hSw); go_simp; try with_reducible rfl)
      try simp only [Act.put, List.setIfInBounds_toArray, List.set_cons_zero, List.set_cons_succ]
      refine held_op (at_drop rfl) rfl rfl (fun K hK => ?_)
      go_simp
      (go_at_call 14; ((with_reducible refine (hA1 _).mono ?_); rintro e wm ⟨rfl, hB⟩))
      refine hK.out _ _ ?_ (fun hNew => ?_)
      · first | exact box_step hB hHeld | exact box_step (below_al _ _) hHeld | exact box_step (below_dr _) hHeld
      clear hHeld hK K
      have hHeld := hNew
      clear hNew
      try simp only [Act.put, List.setIfInBounds_toArray, List.set_cons_zero, List.set_cons_succ]
      refine held_take (v := ?_) (at_drop rfl) rfl rfl ?_ ?_
      rotate_left
      · (intro w' hSw; (try dsimp only at hSw); go_simp; try with_reducible rfl)
      try simp only [Act.put, List.setIfInBounds_toArray, List.set_cons_zero, List.set_cons_succ]
      refine held_skip (at_drop rfl) rfl hHeld ?_
      try simp only [Act.put, List.setIfInBounds_toArray, List.set_cons_zero, List.set_cons_succ]
      refine held_take (v := ?_) (at_drop rfl) rfl rfl ?_ ?_
      rotate_left
      · (intro w' hSw; (try dsimp only at hSw); go_simp; try with_reducible rfl)
      try simp only [Act.put, List.setIfInBounds_toArray, List.set_cons_zero, List.set_cons_succ]
      refine held_take (v := ?_) (at_drop rfl) rfl rfl ?_ ?_
      rotate_left
      · (intro w' hSw; (try dsimp only at hSw); go_simp; try with_reducible rfl)
      try simp only [Act.put, List.setIfInBounds_toArray, List.set_cons_zero, List.set_cons_succ]
      refine held_skip (at_drop rfl) rfl hHeld ?_
      try simp only [Act.put, List.setIfInBounds_toArray, List.set_cons_zero, List.set_cons_succ]
      refine held_skip (at_drop rfl) rfl hHeld ?_
      try simp only [Act.put, List.setIfInBounds_toArray, List.set_cons_zero, List.set_cons_succ]
      refine held_take (v := ?_) (at_drop rfl) rfl rfl ?_ ?_
      rotate_left
      · (intro w' hSw; (try dsimp only at hSw); go_simp; try with_reducible rfl)
      try simp only [Act.put, List.setIfInBounds_toArray, List.set_cons_zero, List.set_cons_succ]
      refine held_take (v := ?_) (at_drop rfl) rfl rfl ?_ ?_
      rotate_left
      · (intro w' hSw; (try dsimp only at hSw); go_simp; try with_reducible rfl)
      try simp only [Act.put, List.setIfInBounds_toArray, List.set_cons_zero, List.set_cons_succ]
      refine NoPanic.normal ?_
      obtain ⟨hs, _⟩ := hHeld
      go_wp2
      go_meet
      exact ⟨rfl, hs⟩
    case true.true.true =>
      simp only [Bool.or_true, Bool.true_or, Bool.or_false, Bool.false_or, Bool.and_true, Bool.true_and, Bool.and_false, Bool.false_and, Bool.or_self, Bool.and_self] at hC3 hC4
      refine wp_region_noPanic ?_
      refine wp_region_ord (S := (fun w' => Boxes w a b (r, n) w' ∧ w'.cell? ⟨w.heap.size, 0, none⟩ = some (.int .u32 (a 0 : Int)) ∧ w'.cell? ⟨w.heap.size, 1, none⟩ = some (.int .u32 (a 1 : Int)) ∧ w'.cell? ⟨w.heap.size, 2, none⟩ = some (.int .u32 (a 2 : Int)) ∧ w'.cell? ⟨w.heap.size, 3, none⟩ = some (.int .u32 (a 3 : Int)) ∧ w'.cell? ⟨w.heap.size, 4, none⟩ = some (.int .u32 (a 4 : Int)) ∧ w'.cell? ⟨w.heap.size, 5, none⟩ = some (.int .u32 (a 5 : Int)) ∧ w'.cell? ⟨w.heap.size, 6, none⟩ = some (.int .u32 (a 6 : Int)) ∧ w'.cell? ⟨w.heap.size, 7, none⟩ = some (.int .u32 (a 7 : Int)) ∧ w'.cell? ⟨w.heap.size + 1, 0, none⟩ = some (.int .u32 (b 0 : Int)) ∧ w'.cell? ⟨w.heap.size + 1, 1, none⟩ = some (.int .u32 (b 1 : Int)) ∧ w'.cell? ⟨w.heap.size + 1, 2, none⟩ = some (.int .u32 (b 2 : Int)) ∧ w'.cell? ⟨w.heap.size + 1, 3, none⟩ = some (.int .u32 (b 3 : Int)) ∧ w'.cell? ⟨w.heap.size + 1, 4, none⟩ = some (.int .u32 (b 4 : Int)) ∧ w'.cell? ⟨w.heap.size + 1, 5, none⟩ = some (.int .u32 (b 5 : Int)) ∧ w'.cell? ⟨w.heap.size + 1, 6, none⟩ = some (.int .u32 (b 6 : Int)) ∧ w'.cell? ⟨w.heap.size + 1, 7, none⟩ = some (.int .u32 (b 7 : Int)) ∧ w'.cell? ⟨w.heap.size + 2, 0, none⟩ = some (.int .u8 (r : Int)) ∧ w'.cell? ⟨w.heap.size + 2, 1, none⟩ = some (.int .u32 (n : Int)))) [(0, 0), (1, 0), (2, 3), (3, 4), (4, 0), (5, 24), (6, 0), (7, 96), (8, 128), (9, 384), (10, 544), (11, 1152), (12, 2048), (13, 2048), (14, 14336), (15, 18432), (16, 2048), (17, 100352), (18, 2048), (19, 395264), (20, 524288), (21, 1574912), (22, 2230272), (23, 4196352), (24, 8912896), (25, 16777216), (26, 16777216), (27, 117440512), (28, 150994944), (29, 268435456), (30, 822083584), (31, 1358954496), (32, 2147483648), (33, 6442450944), (34, 10754195456), (35, 17196646400)] [(0, 0), (1, 1), (4, 3), (6, 19), (2, 83), (3, 87), (5, 95), (7, 127), (8, 255), (9, 511), (10, 1023), (11, 2047), (12, 4095), (13, 8191), (16, 16383), (18, 81919), (14, 344063), (15, 360447), (17, 393215), (19, 524287), (20, 1048575), (21, 2097151), (22, 4194303), (23, 8388607), (24, 16777215), (25, 33554431), (26, 67108863), (27, 134217727), (28, 268435455), (29, 536870911), (30, 1073741823), (31, 2147483647), (32, 4294967295), (33, 8589934591), (34, 17179869183), (35, 34359738367)] [0, 1, 4, 6, 2, 3, 5, 7, 8, 9, 10, 11, 12, 13, 16, 18, 14, 15, 17, 19, 20, 21, 22, 23, 24, 25, 26, 27, 28, 29, 30, 31, 32, 33, 34, 35] (by kernel_rfl) (by kernel_rfl) (by kernel_rfl) (by kernel_rfl) rfl rfl (fun _ _ _ _ _ h => h) ?_ (fun hHeld => ?_)
      · exact box_step (below_dr _) hall
      refine held_take (v := ?_) (at_drop rfl) rfl rfl ?_ ?_
      rotate_left
      · (intro w' hSw; (try dsimp only at hSw); go_simp; try with_reducible rfl)
      try simp only [Act.put, List.setIfInBounds_toArray, List.set_cons_zero, List.set_cons_succ]
      refine held_take (v := ?_) (at_drop rfl) rfl rfl ?_ ?_
      rotate_left
      · (intro w' hSw; (try dsimp only at hSw); go_simp; try with_reducible rfl)
      try simp only [Act.put, List.setIfInBounds_toArray, List.set_cons_zero, List.set_cons_succ]
      refine held_take (v := ?_) (at_drop rfl) rfl rfl ?_ ?_
      rotate_left
      · (intro w' hSw; (try dsimp only at hSw); go_simp; try with_reducible rfl)
      try simp only [Act.put, List.setIfInBounds_toArray, List.set_cons_zero, List.set_cons_succ]
      refine held_take (v := ?_) (at_drop rfl) rfl rfl ?_ ?_
      rotate_left
      · (intro w' hSw; (try dsimp only at hSw); go_simp; try with_reducible rfl)
      try simp only [Act.put, List.setIfInBounds_toArray, List.set_cons_zero, List.set_cons_succ]
      refine held_op (at_drop rfl) rfl rfl (fun K hK => ?_)
      go_simp
      refine hK.out _ _ ?_ (fun hNew => ?_)
      · first | exact box_step hB hHeld | exact box_step (below_al _ _) hHeld | exact box_step (below_dr _) hHeld
      clear hHeld hK K
      have hHeld := hNew
      clear hNew
      try simp only [Act.put, List.setIfInBounds_toArray, List.set_cons_zero, List.set_cons_succ]
      refine held_op (at_drop rfl) rfl rfl (fun K hK => ?_)
      go_simp
      (go_at_call 24; ((with_reducible refine (hM _ _ ?_).mono ?_); (focus (repeat' (first | with_reducible assumption | ((with_reducible refine new2 _ _ _ _ ?_ HO.out.1 HO.out.2); (first | rfl | (simp; done))) | with_reducible refine VecsV.al ?_ _ | with_reducible refine VecsV.dr ?_))); rintro e wm ⟨rfl, hB⟩))
      refine hK.out _ _ ?_ (fun hNew => ?_)
      · first | exact box_step hB hHeld | exact box_step (below_al _ _) hHeld | exact box_step (below_dr _) hHeld
      clear hHeld hK K
      have hHeld := hNew
      clear hNew
      try simp only [Act.put, List.setIfInBounds_toArray, List.set_cons_zero, List.set_cons_succ]
      refine held_op (at_drop rfl) rfl rfl (fun K hK => ?_)
      go_simp
      (go_at_call 12; ((with_reducible refine (hC3 _).mono ?_); rintro e wm ⟨rfl, hB⟩))
      refine hK.out _ _ ?_ (fun hNew => ?_)
      · first | exact box_step hB hHeld | exact box_step (below_al _ _) hHeld | exact box_step (below_dr _) hHeld
      clear hHeld hK K
      have hHeld := hNew
      clear hNew
      try simp only [Act.put, List.setIfInBounds_toArray, List.set_cons_zero, List.set_cons_succ]
      refine held_take (v := ?_) (at_drop rfl) rfl rfl ?_ ?_
      rotate_left
      · (intro w' hSw; (try dsimp only at hSw); go_simp; try with_reducible rfl)
      try simp only [Act.put, List.setIfInBounds_toArray, List.set_cons_zero, List.set_cons_succ]
      refine held_skip (at_drop rfl) rfl hHeld ?_
      try simp only [Act.put, List.setIfInBounds_toArray, List.set_cons_zero, List.set_cons_succ]
      refine held_take (v := ?_) (at_drop rfl) rfl rfl ?_ ?_
      rotate_left
      · (intro w' hSw; (try dsimp only at hSw); go_simp; try with_reducible rfl)
      try simp only [Act.put, List.setIfInBounds_toArray, List.set_cons_zero, List.set_cons_succ]
      refine held_take (v := ?_) (at_drop rfl) rfl rfl ?_ ?_
      rotate_left
      · (intro w' hSw; (try dsimp only at hSw); go_simp; try with_reducible rfl)
      try simp only [Act.put, List.setIfInBounds_toArray, List.set_cons_zero, List.set_cons_succ]
      refine held_take (v := ?_) (at_drop rfl) rfl rfl ?_ ?_
      rotate_left
      · (intro w' hSw; (try dsimp only at hSw); go_simp; try with_reducible rfl)
      try simp only [Act.put, List.setIfInBounds_toArray, List.set_cons_zero, List.set_cons_succ]
      refine held_take (v := ?_) (at_drop rfl) rfl rfl ?_ ?_
      rotate_left
      · (intro w' hSw; (try dsimp only at hSw); go_simp; try with_reducible rfl)
      try simp only [Act.put, List.setIfInBounds_toArray, List.set_cons_zero, List.set_cons_succ]
      refine held_take (v := ?_) (at_drop rfl) rfl rfl ?_ ?_
      rotate_left
      · (intro w' hSw; (try dsimp only at hSw); go_simp; try with_reducible rfl)
      try simp only [Act.put, List.setIfInBounds_toArray, List.set_cons_zero, List.set_cons_succ]
      refine held_take (v := ?_) (at_drop rfl) rfl rfl ?_ ?_
      rotate_left
      · (intro w' hSw; (try dsimp only at hSw); go_simp; try with_reducible rfl)
      try simp only [Act.put, List.setIfInBounds_toArray, List.set_cons_zero, List.set_cons_succ]
      refine held_take (v := ?_) (at_drop rfl) rfl rfl ?_ ?_
      rotate_left
      · (intro w' hSw; (try dsimp only at hSw); go_simp; try with_reducible rfl)
      try simp only [Act.put, List.setIfInBounds_toArray, List.set_cons_zero, List.set_cons_succ]
      refine held_op (at_drop rfl) rfl rfl (fun K hK => ?_)
      go_simp
      refine hK.out _ _ ?_ (fun hNew => ?_)
      · first | exact box_step hB hHeld | exact box_step (below_al _ _) hHeld | exact box_step (below_dr _) hHeld
      clear hHeld hK K
      have hHeld := hNew
      clear hNew
      try simp only [Act.put, List.setIfInBounds_toArray, List.set_cons_zero, List.set_cons_succ]
      refine held_op (at_drop rfl) rfl rfl (fun K hK => ?_)
      go_simp
      (go_at_call 26; ((with_reducible refine (hm _ _ ?_).mono ?_); (focus (repeat' (first | with_reducible assumption | ((with_reducible refine new2 _ _ _ _ ?_ HO.out.1 HO.out.2); (first | rfl | (simp; done))) | with_reducible refine VecsV.al ?_ _ | with_reducible refine VecsV.dr ?_))); rintro e wm ⟨rfl, hB⟩))
      refine hK.out _ _ ?_ (fun hNew => ?_)
      · first | exact box_step hB hHeld | exact box_step (below_al _ _) hHeld | exact box_step (below_dr _) hHeld
      clear hHeld hK K
      have hHeld := hNew
      clear hNew
      try simp only [Act.put, List.setIfInBounds_toArray, List.set_cons_zero, List.set_cons_succ]
      refine held_op (at_drop rfl) rfl rfl (fun K hK => ?_)
      go_simp
      (go_at_call 12; ((with_reducible refine (hC4 _).mono ?_); rintro e wm ⟨rfl, hB⟩))
      refine hK.out _ _ ?_ (fun hNew => ?_)
      · first | exact box_step hB hHeld | exact box_step (below_al _ _) hHeld | exact box_step (below_dr _) hHeld
      clear hHeld hK K
      have hHeld := hNew
      clear hNew
      try simp only [Act.put, List.setIfInBounds_toArray, List.set_cons_zero, List.set_cons_succ]
      refine held_take (v := ?_) (at_drop rfl) rfl rfl ?_ ?_
      rotate_left
      · (intro w' hSw; (try dsimp only at hSw); go_simp; try with_reducible rfl)
      try simp only [Act.put, List.setIfInBounds_toArray, List.set_cons_zero, List.set_cons_succ]
      refine held_take (v := ?_) (at_drop rfl) rfl rfl ?_ ?_
      rotate_left
      · (intro w' hSw; (try dsimp only at hSw); go_simp; try with_reducible rfl)
      try simp only [Act.put, List.setIfInBounds_toArray, List.set_cons_zero, List.set_cons_succ]
      refine held_take (v := ?_) (at_drop rfl) rfl rfl ?_ ?_
      rotate_left
      · (intro w' hSw; (try dsimp only at hSw); go_simp; try with_reducible rfl)
      try simp only [Act.put, List.setIfInBounds_toArray, List.set_cons_zero, List.set_cons_succ]
      refine held_take (v := ?_) (at_drop rfl) rfl rfl ?_ ?_
      rotate_left
      · (intro w' hSw; (try dsimp only at hSw); go_simp; try with_reducible rfl)
      try simp only [Act.put, List.setIfInBounds_toArray, List.set_cons_zero, List.set_cons_succ]
      refine held_take (v := ?_) (at_drop rfl) rfl rfl ?_ ?_
      rotate_left
      · (intro w' hSw; (try dsimp only at hSw); go_simp; try with_reducible rfl)
      try simp only [Act.put, List.setIfInBounds_toArray, List.set_cons_zero, List.set_cons_succ]
      refine held_take (v := ?_) (at_drop rfl) rfl rfl ?_ ?_
      rotate_left
      · (intro w' hSw; (try dsimp only at hSw); go_simp; try with_reducible rfl)
      try simp only [Act.put, List.setIfInBounds_toArray, List.set_cons_zero, List.set_cons_succ]
      refine held_take (v := ?_) (at_drop rfl) rfl rfl ?_ ?_
      rotate_left
      · (intro w' hSw; (try dsimp only at hSw); go_simp; try with_reducible rfl)
      try simp only [Act.put, List.setIfInBounds_toArray, List.set_cons_zero, List.set_cons_succ]
      refine held_take (v := ?_) (at_drop rfl) rfl rfl ?_ ?_
      rotate_left
      · (intro w' hSw; (try dsimp only at hSw); go_simp; try with_reducible rfl)
      try simp only [Act.put, List.setIfInBounds_toArray, List.set_cons_zero, List.set_cons_succ]
      refine held_op (at_drop rfl) rfl rfl (fun K hK => ?_)
      go_simp
      (go_at_call 14; ((with_reducible refine (hA1 _).mono ?_); rintro e wm ⟨rfl, hB⟩))
      refine hK.out _ _ ?_ (fun hNew => ?_)
      · first | exact box_step hB hHeld | exact box_step (below_al _ _) hHeld | exact box_step (below_dr _) hHeld
      clear hHeld hK K
      have hHeld := hNew
      clear hNew
      try simp only [Act.put, List.setIfInBounds_toArray, List.set_cons_zero, List.set_cons_succ]
      refine held_take (v := ?_) (at_drop rfl) rfl rfl ?_ ?_
      rotate_left
      · (intro w' hSw; (try dsimp only at hSw); go_simp; try with_reducible rfl)
      try simp only [Act.put, List.setIfInBounds_toArray, List.set_cons_zero, List.set_cons_succ]
      refine held_take (v := ?_) (at_drop rfl) rfl rfl ?_ ?_
      rotate_left
      · (intro w' hSw; (try dsimp only at hSw); go_simp; try with_reducible rfl)
      try simp only [Act.put, List.setIfInBounds_toArray, List.set_cons_zero, List.set_cons_succ]
      refine held_take (v := ?_) (at_drop rfl) rfl rfl ?_ ?_
      rotate_left
      · (intro w' hSw; (try dsimp only at hSw); go_simp; try with_reducible rfl)
      try simp only [Act.put, List.setIfInBounds_toArray, List.set_cons_zero, List.set_cons_succ]
      refine held_take (v := ?_) (at_drop rfl) rfl rfl ?_ ?_
      rotate_left
      · (intro w' hSw; (try dsimp only at hSw); go_simp; try with_reducible rfl)
      try simp only [Act.put, List.setIfInBounds_toArray, List.set_cons_zero, List.set_cons_succ]
      refine held_take (v := ?_) (at_drop rfl) rfl rfl ?_ ?_
      rotate_left
      · (intro w' hSw; (try dsimp only at hSw); go_simp; try with_reducible rfl)
      try simp only [Act.put, List.setIfInBounds_toArray, List.set_cons_zero, List.set_cons_succ]
      refine held_take (v := ?_) (at_drop rfl) rfl rfl ?_ ?_
      rotate_left
      · (intro w' hSw; (try dsimp only at hSw); go_simp; try with_reducible rfl)
      try simp only [Act.put, List.setIfInBounds_toArray, List.set_cons_zero, List.set_cons_succ]
      refine held_take (v := ?_) (at_drop rfl) rfl rfl ?_ ?_
      rotate_left
      · (intro w' hSw; (try dsimp only at hSw); go_simp; try with_reducible rfl)
      try simp only [Act.put, List.setIfInBounds_toArray, List.set_cons_zero, List.set_cons_succ]
      refine held_take (v := ?_) (at_drop rfl) rfl rfl ?_ ?_
      rotate_left
      · (intro w' hSw; (try dsimp only at hSw); go_simp; try with_reducible rfl)
      try simp only [Act.put, List.setIfInBounds_toArray, List.set_cons_zero, List.set_cons_succ]
      refine NoPanic.normal ?_
      obtain ⟨hs, _⟩ := hHeld
      go_wp2
      go_meet
      exact ⟨rfl, hs⟩
  case rest =>
    obtain ⟨rfl, hbx⟩ := hcut
    clear hC1 hC2 hC3 hC4 hA1 hM hm HQ hall
    by_cases h8 : 8 ≤ r
    · have e1 : nextE a r = 2 := by unfold nextE; rw [if_pos h8]
      rw [e1] at hN1
      generalize nextD a r = nd at hN1
      obtain ⟨x, y⟩ := nd
      dsimp only at hN1
      have HBX0 := hid hbx
      obtain ⟨a00, a01, a02, a03, a04, a05, a06, a07⟩ := cells8 hbx.x
      obtain ⟨d00, d01⟩ := cells2 hbx.z
      go_wp2_with (first
        | (go_at_call 8; (with_reducible refine (hN1 _).mono ?_); rintro e w1 ⟨rfl, hB⟩; have HBX1 := hid (HBX0.out.keep hB); clear hB)
        | (go_at_call 23; (with_reducible refine (hhead _).mono ?_); rintro e w12 ⟨rfl, hB⟩))
      go_ret
      exact ⟨rfl, HBX1.out.below.trans ((st1 hB).mono HBX1.out.below.size)⟩
    · by_cases hmax : a r = 4294967295
      · have e1 : nextE a r = 6 := by unfold nextE; rw [if_neg h8, if_pos hmax]
        rw [e1] at hN1
        generalize nextD a r = nd at hN1
        obtain ⟨x, y⟩ := nd
        dsimp only at hN1
        have HBX0 := hid hbx
        obtain ⟨a00, a01, a02, a03, a04, a05, a06, a07⟩ := cells8 hbx.x
        obtain ⟨d00, d01⟩ := cells2 hbx.z
        go_wp2_with (first
          | (go_at_call 8; (with_reducible refine (hN1 _).mono ?_); rintro e w1 ⟨rfl, hB⟩; have HBX1 := hid (HBX0.out.keep hB); clear hB)
          | (go_at_call 23; (with_reducible refine (hhead _).mono ?_); rintro e w12 ⟨rfl, hB⟩))
        go_ret
        exact ⟨rfl, HBX1.out.below.trans ((st1 hB).mono HBX1.out.below.size)⟩
      · have e1 : nextE a r = 0 := by unfold nextE; rw [if_neg h8, if_neg hmax]
        have e2 : nextD a r = (r, a r + 1) := by unfold nextD; rw [if_neg h8, if_neg hmax]
        rw [e1, e2] at hN1
        dsimp only at hN1
        have har := HO.out.1.1 r
        have hsum : sumTo (upd a r (a r + 1)) 8 = sumTo a 8 + 1 := (sum_upd a 8).1 (by omega)
        have hle : sumTo a 8 ≤ 34359738360 := sumTo_le HO.out.1 8
        have hcn : covB a (r, a r + 1) = false := by simp [covB]
        have hcp : covB (upd a r (a r + 1)) (r, a r + 1) = true := by
          have h8' : r < 8 := by omega
          simp [covB, mayD, upd_at, h8']
        have hcd : (r, n) ≠ (r, a r + 1) → covB (upd a r (a r + 1)) (r, n) = X := fun h => by rw [cov_upd h, HXY.out.1]
        have hpv : putV a (r, a r + 1) = upd a r (a r + 1) ∧ putE a (r, a r + 1) = 0 := by
          have h8' : r < 8 := by omega
          simp [putV, putE, mayD, h8']
        have hput := fun W => vec_Put a (r, a r + 1) HO.out.1 ⟨HD.out.1, by show a r + 1 < 4294967296; omega⟩ W
        rw [hpv.1, hpv.2] at hput
        have hpok : okV (upd a r (a r + 1)) := ok_upd HO.out.1 (by omega) (by omega)
        have hk1 := fun W => vec_Covers a (r, a r + 1) W
        have hk2 := fun W => vec_Covers (upd a r (a r + 1)) (r, a r + 1) W
        have hk3 := fun W => vec_Covers (upd a r (a r + 1)) (r, n) W
        have hk4 := fun W => vec_Count (upd a r (a r + 1)) hpok W
        have hk5 := fun W => vec_Above (upd a r (a r + 1)) a W
        rw [hcn] at hk1
        rw [hcp] at hk2
        rw [hsum] at hk4
        rw [above_upd] at hk5
        have hq := fun W => run_eql r n r (a r + 1) W
        dsimp only at hput hk1 hk2 hk3
        clear hpok hcn hcp hpv e1 e2 hsum har
        generalize upd a r (a r + 1) = pv at hput hk2 hk3 hk4 hk5 hcd
        obtain ⟨y, hy⟩ : ∃ y, y = a r + 1 := ⟨_, rfl⟩
        rw [← hy] at hN1 hput hk1 hk2 hcd
        rw [← hy] at hq
        obtain ⟨sc, hsc⟩ : ∃ sc, sc = sumTo a 8 := ⟨_, rfl⟩
        rw [← hsc] at hS1 hk4 hle
        have hc64 : ((sc : Int) + 1) % 18446744073709551616 = ((sc + 1 : Nat) : Int) := by omega
        have hc65 : (((sc + 1 : Nat) : Int)) = (sc : Int) + 1 := by omega
        clear hy hsc hle h8 hmax
        have HBX0 := hid hbx
        obtain ⟨a00, a01, a02, a03, a04, a05, a06, a07⟩ := cells8 hbx.x
        obtain ⟨d00, d01⟩ := cells2 hbx.z
        go_wp2_with (first
          | (go_at_call 8; (with_reducible refine (hN1 _).mono ?_); rintro e w1 ⟨rfl, hB⟩; have HBX1 := hid (HBX0.out.keep hB); obtain ⟨a10, a11, a12, a13, a14, a15, a16, a17⟩ := cells8a HBX1.out.x; clear hB)
          | (go_at_call 10; (with_reducible refine (hput _).mono ?_); rintro e w3 ⟨rfl, hB⟩; have HBX3 := hid (HBX1.out.al hB); have HX3 := hid (keep_last hB); clear hB))
        have hcases : (∀ W, (binOp .eql 26 (.agg #[.int .u8 (r : Int), .int .u32 (n : Int)]) (.agg #[.int .u8 (r : Int), .int .u32 (y : Int)])).run Try.prog W = .ok (.bool true) W) ∨
            ((∀ W, (binOp .eql 26 (.agg #[.int .u8 (r : Int), .int .u32 (n : Int)]) (.agg #[.int .u8 (r : Int), .int .u32 (y : Int)])).run Try.prog W = .ok (.bool false) W) ∧ covB pv (r, n) = X) := by
          by_cases hdn : n = y
          · exact .inl fun W => by rw [hq, eqB_true (by rw [hdn])]
          · have hne : (r, n) ≠ (r, y) := fun e => hdn (by cases e; rfl)
            exact .inr ⟨fun W => by rw [hq, eqB_false hne], hcd hne⟩
        clear hq hcd hN1 hput HXY HCA HO HD H0 HBX1 a10 a11 a12 a13 a14 a15 a16 a17 d00 d01 a00 a01 a02 a03 a04 a05 a06 a07 HBX0 hbx
        refine wp_region_later_n (by kernel_rfl) (by kernel_rfl) ?_
        intro wd hwd
        have HBd := hid (show Boxes w a b (r, n) wd by rw [hwd]; exact HBX3.out.keep (below_al _ _))
        have HXd := hid (show wd.heap[w1.heap.size]? = some (.cells #[.int .u8 (r : Int), .int .u32 (y : Int)] 26 (0, 0)) ∧ wd.heap[w3.heap.size]? = some (.cells (vc pv) 24 (0, 0)) by
          rw [hwd]; exact ⟨heap_al HX3.out _, heap_alloc_last' _ _⟩)
        clear hwd HBX3 HX3
        have fa0 : ∀ p : Later wd.heap.size wd, p.val.cell? ⟨w.heap.size, 0, none⟩ = some (.int .u32 (a 0 : Int)) := fun p => cellV (heap_keep HBd.out.x p.ok) (by omega)
        have fa1 : ∀ p : Later wd.heap.size wd, p.val.cell? ⟨w.heap.size, 1, none⟩ = some (.int .u32 (a 1 : Int)) := fun p => cellV (heap_keep HBd.out.x p.ok) (by omega)
        have fa2 : ∀ p : Later wd.heap.size wd, p.val.cell? ⟨w.heap.size, 2, none⟩ = some (.int .u32 (a 2 : Int)) := fun p => cellV (heap_keep HBd.out.x p.ok) (by omega)
        have fa3 : ∀ p : Later wd.heap.size wd, p.val.cell? ⟨w.heap.size, 3, none⟩ = some (.int .u32 (a 3 : Int)) := fun p => cellV (heap_keep HBd.out.x p.ok) (by omega)
        have fa4 : ∀ p : Later wd.heap.size wd, p.val.cell? ⟨w.heap.size, 4, none⟩ = some (.int .u32 (a 4 : Int)) := fun p => cellV (heap_keep HBd.out.x p.ok) (by omega)
        have fa5 : ∀ p : Later wd.heap.size wd, p.val.cell? ⟨w.heap.size, 5, none⟩ = some (.int .u32 (a 5 : Int)) := fun p => cellV (heap_keep HBd.out.x p.ok) (by omega)
        have fa6 : ∀ p : Later wd.heap.size wd, p.val.cell? ⟨w.heap.size, 6, none⟩ = some (.int .u32 (a 6 : Int)) := fun p => cellV (heap_keep HBd.out.x p.ok) (by omega)
        have fa7 : ∀ p : Later wd.heap.size wd, p.val.cell? ⟨w.heap.size, 7, none⟩ = some (.int .u32 (a 7 : Int)) := fun p => cellV (heap_keep HBd.out.x p.ok) (by omega)
        have fd0 : ∀ p : Later wd.heap.size wd, p.val.cell? ⟨w.heap.size + 2, 0, none⟩ = some (.int .u8 (r : Int)) := fun p => (cells2 (heap_keep HBd.out.z p.ok)).1
        have fd1 : ∀ p : Later wd.heap.size wd, p.val.cell? ⟨w.heap.size + 2, 1, none⟩ = some (.int .u32 (n : Int)) := fun p => (cells2 (heap_keep HBd.out.z p.ok)).2
        have fn0 : ∀ p : Later wd.heap.size wd, p.val.cell? ⟨w1.heap.size, 0, none⟩ = some (.int .u8 (r : Int)) := fun p => (cells2 (heap_keep HXd.out.1 p.ok)).1
        have fn1 : ∀ p : Later wd.heap.size wd, p.val.cell? ⟨w1.heap.size, 1, none⟩ = some (.int .u32 (y : Int)) := fun p => (cells2 (heap_keep HXd.out.1 p.ok)).2
        have fp0 : ∀ p : Later wd.heap.size wd, p.val.cell? ⟨w3.heap.size, 0, none⟩ = some (.int .u32 (pv 0 : Int)) := fun p => cellV (heap_keep HXd.out.2 p.ok) (by omega)
        have fp1 : ∀ p : Later wd.heap.size wd, p.val.cell? ⟨w3.heap.size, 1, none⟩ = some (.int .u32 (pv 1 : Int)) := fun p => cellV (heap_keep HXd.out.2 p.ok) (by omega)
        have fp2 : ∀ p : Later wd.heap.size wd, p.val.cell? ⟨w3.heap.size, 2, none⟩ = some (.int .u32 (pv 2 : Int)) := fun p => cellV (heap_keep HXd.out.2 p.ok) (by omega)
        have fp3 : ∀ p : Later wd.heap.size wd, p.val.cell? ⟨w3.heap.size, 3, none⟩ = some (.int .u32 (pv 3 : Int)) := fun p => cellV (heap_keep HXd.out.2 p.ok) (by omega)
        have fp4 : ∀ p : Later wd.heap.size wd, p.val.cell? ⟨w3.heap.size, 4, none⟩ = some (.int .u32 (pv 4 : Int)) := fun p => cellV (heap_keep HXd.out.2 p.ok) (by omega)
        have fp5 : ∀ p : Later wd.heap.size wd, p.val.cell? ⟨w3.heap.size, 5, none⟩ = some (.int .u32 (pv 5 : Int)) := fun p => cellV (heap_keep HXd.out.2 p.ok) (by omega)
        have fp6 : ∀ p : Later wd.heap.size wd, p.val.cell? ⟨w3.heap.size, 6, none⟩ = some (.int .u32 (pv 6 : Int)) := fun p => cellV (heap_keep HXd.out.2 p.ok) (by omega)
        have fp7 : ∀ p : Later wd.heap.size wd, p.val.cell? ⟨w3.heap.size, 7, none⟩ = some (.int .u32 (pv 7 : Int)) := fun p => cellV (heap_keep HXd.out.2 p.ok) (by omega)
        rcases hcases with hq1 | ⟨hq1, hcd⟩
        · repeat (go_big_quiet_step (first | (go_at_call 12; with_reducible exact Calls.later_of (Nat.le_refl _) (hk1 _)) | (go_at_call 12; with_reducible exact Calls.later_of (Nat.le_refl _) (hk2 _)) | (go_at_call 12; with_reducible exact Calls.later_of (Nat.le_refl _) (hk3 _)) | (go_at_call 17; with_reducible exact Calls.later_of (Nat.le_refl _) (hk4 _)) | (go_at_call 17; with_reducible exact Calls.later_of (Nat.le_refl _) (hS1 _)) | (go_at_call 14; with_reducible exact Calls.later_of (Nat.le_refl _) (hk5 _)) | (go_at_call 23; with_reducible exact Calls.later_of (Nat.le_refl _) (hhead _))))
          refine wpQuiet_nil ?_
          rintro _ ⟨p, rfl⟩
          have hbx := HBd.out.keep p.ok
          generalize p.val = w5 at hbx
          clear fa0 fp0 fa1 fp1 fa2 fp2 fa3 fp3 fa4 fp4 fa5 fp5 fa6 fp6 fa7 fp7 fd0 fd1 fn0 fn1
          go_wp2
          go_ret
          exact ⟨rfl, hbx.below⟩
        · rw [hcd] at hk3
          repeat (go_big_quiet_step (first | (go_at_call 12; with_reducible exact Calls.later_of (Nat.le_refl _) (hk1 _)) | (go_at_call 12; with_reducible exact Calls.later_of (Nat.le_refl _) (hk2 _)) | (go_at_call 12; with_reducible exact Calls.later_of (Nat.le_refl _) (hk3 _)) | (go_at_call 17; with_reducible exact Calls.later_of (Nat.le_refl _) (hk4 _)) | (go_at_call 17; with_reducible exact Calls.later_of (Nat.le_refl _) (hS1 _)) | (go_at_call 14; with_reducible exact Calls.later_of (Nat.le_refl _) (hk5 _)) | (go_at_call 23; with_reducible exact Calls.later_of (Nat.le_refl _) (hhead _))))
          refine wpQuiet_nil ?_
          rintro _ ⟨p, rfl⟩
          have hbx := HBd.out.keep p.ok
          generalize p.val = w5 at hbx
          clear fa0 fp0 fa1 fp1 fa2 fp2 fa3 fp3 fa4 fp4 fa5 fp5 fa6 fp6 fa7 fp7 fd0 fd1 fn0 fn1
          go_wp2
          go_ret
          exact ⟨rfl, hbx.below⟩

end Go.Proofs.Ytckfdjfcikljaaa
