/-
  The law DotSums: rows put together and parted.
-/
import Derived.Test.YtmjmgjdklhdcdaaSumM
import Derived.LoopTactic
namespace Go.Proofs.Ytmjmgjdklhdcdaa
set_option linter.unusedVariables false
set_option linter.unusedSimpArgs false
open Go Go.RowKit

theorem sums_long (v0 v1 : Value) (a0 : Option Addr) (len0 cap0 : Nat) (a1 : Option Addr) (len1 cap1 : Nat) (hb : 300 < len0 ∨ 300 < len1) (w : World) :
    Calls Try.prog 6 #[.slice a0 len0 cap0, .slice a1 len1 cap1] w fun e w' => e = .returned (.bool true) ∧ Below w.heap.size w w' := by
  by_cases h2 : 300 < len0
  · have h2' : (300 : Int) < (len0 : Int) := by omega
    clear hb h2
    go_enter Try.func6, Try.ntmps6
    go_wp2_with fail
    refine (law_head _).mono ?_
    rintro e w4 ⟨rfl, hB4⟩
    go_wp2
    go_ret
    exact ⟨rfl, hB4⟩
  · have h' : (300 : Int) < (len1 : Int) := by omega
    have h2' : ¬ (300 : Int) < (len0 : Int) := by omega
    clear hb h2
    go_enter Try.func6, Try.ntmps6
    go_wp2_with fail
    refine (law_head _).mono ?_
    rintro e w4 ⟨rfl, hB4⟩
    go_wp2
    go_ret
    exact ⟨rfl, hB4⟩

set_option maxHeartbeats 16000000 in
theorem law_DotSums (a0 : Option Addr) (len0 cap0 : Nat) (z0 : List Dot) (a1 : Option Addr) (len1 cap1 : Nat) (z1 : List Dot) (w : World) (w0 : IsDots w a0 len0 cap0 z0) (w1 : IsDots w a1 len1 cap1 z1) :
    Calls Try.prog 6 #[.slice a0 len0 cap0, .slice a1 len1 cap1] w fun e w' => e = .returned (.bool true) ∧ Below w.heap.size w w' := by
  by_cases hb : 300 < len0 ∨ 300 < len1
  · exact sums_long (.bool true) (.bool true) a0 len0 cap0 a1 len1 cap1 hb w
  have hv0 := hid w0.toV
  have hv1 := hid w1.toV
  have hl0 : z0.length = len0 := w0.1
  have hl1 : z1.length = len1 := w1.1
  clear w0 w1
  have n0 : z0.length ≤ 400000 := by omega
  have n1 : z1.length ≤ 400000 := by omega
  have h1 : ¬ (300 : Int) < (len0 : Int) := by omega
  have h2 : ¬ (300 : Int) < (len1 : Int) := by omega
  have m1 := len_uni z0 z1
  have m2 := len_both z0 z1
  have m3 := len_less z0 z1
  have m4 := sum_len z0 z1
  have c1 : ∀ W v, DotsV W v z0 → Calls Try.prog 20 #[v] W (SPost W (can z0)) := fun W v h => (p_Sort v z0 W h n0).mono fun _ _ => SPost.of
  have c2 : ∀ W v v', DotsV W v z0 → DotsV W v' z1 → Calls Try.prog 22 #[v, v'] W (SPost W (uniD z0 z1)) := fun W v v' h h' => (p_Union v v' z0 z1 W h h' n0 n1).mono fun _ _ => SPost.of
  have c3 : ∀ W v v', DotsV W v z0 → DotsV W v' z1 → Calls Try.prog 24 #[v, v'] W (SPost W (bothD z0 z1)) := fun W v v' h h' => (p_Both v v' z0 z1 W h h' n0 n1).mono fun _ _ => SPost.of
  have c4 : ∀ W v v', DotsV W v z0 → DotsV W v' z1 → Calls Try.prog 26 #[v, v'] W (SPost W (lessD z0 z1)) := fun W v v' h h' => (p_Minus v v' z0 z1 W h h' n0 n1).mono fun _ _ => SPost.of
  have c5 : ∀ W v v', DotsV W v (bothD z0 z1) → DotsV W v' (lessD z0 z1) → Calls Try.prog 22 #[v, v'] W (VPost W (can z0)) := fun W v v' h h' => sum_uni z0 z1 ▸ p_Union v v' _ _ W h h' (by omega) (by omega)
  have c6 : ∀ W v v', DotsV W v (lessD z0 z1) → DotsV W v' z1 → Calls Try.prog 22 #[v, v'] W (VPost W (uniD z0 z1)) := fun W v v' h h' => less_uni z0 z1 ▸ p_Union v v' _ _ W h h' (by omega) (by omega)
  have c7 : ∀ W v v', DotsV W v z1 → DotsV W v' z0 → Calls Try.prog 22 #[v, v'] W (VPost W (uniD z0 z1)) := fun W v v' h h' => uni_swap z0 z1 ▸ p_Union v v' _ _ W h h' (by omega) (by omega)
  have c8 : ∀ W v v', DotsV W v z1 → DotsV W v' z0 → Calls Try.prog 24 #[v, v'] W (VPost W (bothD z0 z1)) := fun W v v' h h' => both_swap z0 z1 ▸ p_Both v v' _ _ W h h' (by omega) (by omega)
  have c9 : ∀ W v, DotsV W v (uniD z0 z1) → Calls Try.prog 20 #[v] W (VPost W (uniD z0 z1)) := fun W v h => by
    have k := p_Sort v _ W h (by omega)
    rw [can_can] at k
    exact k
  have c10 : ∀ W v v', DotsV W v (lessD z0 z1) → DotsV W v' z1 → Calls Try.prog 24 #[v, v'] W (SPost W []) := fun W v v' h h' => (less_both z0 z1 ▸ p_Both v v' _ _ W h h' (by omega) (by omega) : Calls _ _ _ _ _).mono fun _ _ => SPost.of
  have hinc := hid (inc_uni z0 z1)
  generalize can z0 = S at *
  generalize uniD z0 z1 = U at *
  generalize bothD z0 z1 = X at *
  generalize lessD z0 z1 = L at *
  have q1 : S.length ≤ 600 := by omega
  have q2 : U.length ≤ 600 := by omega
  have q3 : X.length ≤ 600 := by omega
  have q4 : L.length ≤ 600 := by omega
  have q5 : (X.length : Int) + (L.length : Int) = (S.length : Int) := by omega
  clear hb m1 m2 m3 m4 n0 n1
  obtain ⟨nS, hnS⟩ : ∃ n, n = S.length := ⟨_, rfl⟩
  obtain ⟨nU, hnU⟩ : ∃ n, n = U.length := ⟨_, rfl⟩
  obtain ⟨nX, hnX⟩ : ∃ n, n = X.length := ⟨_, rfl⟩
  obtain ⟨nL, hnL⟩ : ∃ n, n = L.length := ⟨_, rfl⟩
  have HC1 := hid c1; have HC2 := hid c2; have HC3 := hid c3; have HC4 := hid c4; have HC5 := hid c5; have HC6 := hid c6; have HC7 := hid c7; have HC8 := hid c8; have HC9 := hid c9; have HC10 := hid c10
  clear c1 c2 c3 c4 c5 c6 c7 c8 c9 c10
  rw [← hnS] at q1 q5; rw [← hnU] at q2; rw [← hnX] at q3 q5; rw [← hnL] at q4 q5
  have HN := hid (And.intro hnS (And.intro hnU (And.intro hnX hnL)))
  clear hnS hnU hnX hnL hl0 hl1
  have q0 : nU ≤ 9223372036854775807 := by omega
  go_enter Try.func6, Try.ntmps6
  go_wp2_with fail
  refine (HC1.out _ _ hv0.out).mono ?_
  rintro e w1 ⟨b1, d1, rfl, hI1, hB⟩
  rw [← HN.out.1] at hI1 ⊢
  have HB1 := hid hB
  clear hB
  go_wp2_with fail
  refine (HC2.out _ _ _ (hv0.out.keep HB1.out) (hv1.out.keep HB1.out)).mono ?_
  rintro e w2 ⟨b2, d2, rfl, hI2, hB⟩
  rw [← HN.out.2.1] at hI2 ⊢
  have HB2 := hid (HB1.out.trans (hB.mono HB1.out.size))
  clear HB1
  have hI1 := hI1.keep hB
  clear hB
  go_wp2_with fail
  refine (HC3.out _ _ _ (hv0.out.keep HB2.out) (hv1.out.keep HB2.out)).mono ?_
  rintro e w3 ⟨b3, d3, rfl, hI3, hB⟩
  rw [← HN.out.2.2.1] at hI3 ⊢
  have HB3 := hid (HB2.out.trans (hB.mono HB2.out.size))
  clear HB2
  have hI1 := hI1.keep hB
  have hI2 := hI2.keep hB
  clear hB
  go_wp2_with fail
  refine (HC4.out _ _ _ (hv0.out.keep HB3.out) (hv1.out.keep HB3.out)).mono ?_
  rintro e w4 ⟨b4, d4, rfl, hI4, hB⟩
  rw [← HN.out.2.2.2] at hI4 ⊢
  have HB4 := hid (HB3.out.trans (hB.mono HB3.out.size))
  clear HB3
  have hI1 := hI1.keep hB
  have hI2 := hI2.keep hB
  have hI3 := hI3.keep hB
  clear hB
  have HI1 := hid hI1; have HI2 := hid hI2; have HI3 := hid hI3; have HI4 := hid hI4
  clear hI1 hI2 hI3 hI4
  go_wp2
  go_loopw [9] (fun i wr => ∃ k : Nat, 1 ≤ k ∧ k ≤ nU + 1 ∧ i = .int .i64 k ∧ Below w4.heap.size w4 wr) (fun i _ => nU + 1 - (intOf i).toNat)
  case atStart => exact ⟨1, by omega, by omega, rfl, Below.refl _ _⟩
  case round =>
    obtain ⟨k, hk1, hk, rfl, hB⟩ := hrel
    by_cases hlt : k < nU
    · obtain ⟨j, hj⟩ : ∃ j, k = j + 1 := ⟨k - 1, by omega⟩
      have hkj : (k : Int) - 1 = (j : Int) := by omega
      have hjn : j < nU := by omega
      cases b2 with
      | none => have := HI2.out.none_len; omega
      | some ad =>
        obtain ⟨r, m, B, O, sp, hx, hr, hm, hA, hc0, hc1⟩ := (HI2.out.keep hB).at j hjn
        obtain ⟨s, q, B', O', sp', hy, hs, hq, hA', hd0, hd1⟩ := (HI2.out.keep hB).at k hlt
        have hcmp : ∀ W, Calls Try.prog 14 #[.agg #[.int .u8 (r : Int), .int .u32 (m : Int)], .agg #[.int .u8 (s : Int), .int .u32 (q : Int)]] W fun e w' => e = .returned (.int .i64 (-1)) ∧ Below W.heap.size W w' := fun W => by
          have h := compare_below (r, m) (s, q) W
          rw [hj] at hy
          rw [inc_at hinc.out hx hy] at h
          exact h
        have hlt' : (k : Int) < (nU : Int) := by omega
        have fc0 : ∀ p : Later wr.heap.size wr, p.val.cell? ⟨B, O, sp⟩ = some (.int .u8 (r : Int)) := fun p => cell_keep p.ok hc0
        have fc1 : ∀ p : Later wr.heap.size wr, p.val.cell? ⟨B, O + 1, none⟩ = some (.int .u32 (m : Int)) := fun p => cell_keep p.ok hc1
        have fd0 : ∀ p : Later wr.heap.size wr, p.val.cell? ⟨B', O', sp'⟩ = some (.int .u8 (s : Int)) := fun p => cell_keep p.ok hd0
        have fd1 : ∀ p : Later wr.heap.size wr, p.val.cell? ⟨B', O' + 1, none⟩ = some (.int .u32 (q : Int)) := fun p => cell_keep p.ok hd1
        clear hx hy hr hm hs hq hc0 hc1 hd0 hd1 hj
        have HB' := hid hB
        clear hB
        go_wp2
        refine wp_region_later wr.heap.size (by kernel_rfl) (by kernel_rfl) ?_
        repeat (go_big_quiet_step ((go_at_call 14; exact Calls.later_of (Nat.le_refl _) (hcmp _))))
        refine wpQuiet_nil ?_
        rintro _ ⟨p, rfl⟩
        have hpo := p.ok
        clear fc0 fc1 fd0 fd1 hcmp
        generalize p.val = wq at hpo ⊢
        have hB := HB'.out.trans (hpo.mono HB'.out.size)
        clear hpo
        go_wp2
        go_roundw
        case rel => exact ⟨k + 1, by omega, by omega, by go_num, hB⟩
        case measure => simp [intOf]; omega
    · have hlt' : ¬ (k : Int) < (nU : Int) := by omega
      have HW := hid (HB4.out.trans (hB.mono HB4.out.size))
      have HJ1 := hid (HI1.out.keep hB)
      have HJ2 := hid (HI2.out.keep hB)
      have HJ3 := hid (HI3.out.keep hB)
      have HJ4 := hid (HI4.out.keep hB)
      have hz0 := hid (hv0.out.keep HW.out)
      have hz1 := hid (hv1.out.keep HW.out)
      clear HI1 HI2 HI3 HI4 hB hk1 hk HB4 hv0 hv1
      go_wp2_with fail
      refine (HC5.out _ _ _ HJ3.out.toV HJ4.out.toV).mono ?_
      rintro e v21 ⟨u21, rfl, hu21, hB⟩
      replace HJ1 := hid (HJ1.out.keep hB)
      replace HJ2 := hid (HJ2.out.keep hB)
      replace HJ3 := hid (HJ3.out.keep hB)
      replace HJ4 := hid (HJ4.out.keep hB)
      replace hz0 := hid (hz0.out.keep hB)
      replace hz1 := hid (hz1.out.keep hB)
      replace HW := hid (HW.out.trans (hB.mono HW.out.size))
      clear hB
      go_wp2_with fail
      refine (same_true _ _ S _ hu21 HJ1.out.toV).mono ?_
      rintro e v22 ⟨rfl, hB⟩
      replace HJ1 := hid (HJ1.out.keep hB)
      replace HJ2 := hid (HJ2.out.keep hB)
      replace HJ3 := hid (HJ3.out.keep hB)
      replace HJ4 := hid (HJ4.out.keep hB)
      replace hz0 := hid (hz0.out.keep hB)
      replace hz1 := hid (hz1.out.keep hB)
      replace HW := hid (HW.out.trans (hB.mono HW.out.size))
      clear hB
      go_wp2_with fail
      refine (HC6.out _ _ _ HJ4.out.toV hz1.out).mono ?_
      rintro e v23 ⟨u23, rfl, hu23, hB⟩
      replace HJ1 := hid (HJ1.out.keep hB)
      replace HJ2 := hid (HJ2.out.keep hB)
      replace HJ3 := hid (HJ3.out.keep hB)
      replace HJ4 := hid (HJ4.out.keep hB)
      replace hz0 := hid (hz0.out.keep hB)
      replace hz1 := hid (hz1.out.keep hB)
      replace HW := hid (HW.out.trans (hB.mono HW.out.size))
      clear hB
      go_wp2_with fail
      refine (same_true _ _ U _ hu23 HJ2.out.toV).mono ?_
      rintro e v24 ⟨rfl, hB⟩
      replace HJ1 := hid (HJ1.out.keep hB)
      replace HJ2 := hid (HJ2.out.keep hB)
      replace HJ3 := hid (HJ3.out.keep hB)
      replace HJ4 := hid (HJ4.out.keep hB)
      replace hz0 := hid (hz0.out.keep hB)
      replace hz1 := hid (hz1.out.keep hB)
      replace HW := hid (HW.out.trans (hB.mono HW.out.size))
      clear hB
      go_wp2_with fail
      refine (HC7.out _ _ _ hz1.out hz0.out).mono ?_
      rintro e v25 ⟨u25, rfl, hu25, hB⟩
      replace HJ1 := hid (HJ1.out.keep hB)
      replace HJ2 := hid (HJ2.out.keep hB)
      replace HJ3 := hid (HJ3.out.keep hB)
      replace HJ4 := hid (HJ4.out.keep hB)
      replace hz0 := hid (hz0.out.keep hB)
      replace hz1 := hid (hz1.out.keep hB)
      replace HW := hid (HW.out.trans (hB.mono HW.out.size))
      clear hB
      go_wp2_with fail
      refine (same_true _ _ U _ hu25 HJ2.out.toV).mono ?_
      rintro e v26 ⟨rfl, hB⟩
      replace HJ1 := hid (HJ1.out.keep hB)
      replace HJ2 := hid (HJ2.out.keep hB)
      replace HJ3 := hid (HJ3.out.keep hB)
      replace HJ4 := hid (HJ4.out.keep hB)
      replace hz0 := hid (hz0.out.keep hB)
      replace hz1 := hid (hz1.out.keep hB)
      replace HW := hid (HW.out.trans (hB.mono HW.out.size))
      clear hB
      go_wp2_with fail
      refine (HC8.out _ _ _ hz1.out hz0.out).mono ?_
      rintro e v27 ⟨u27, rfl, hu27, hB⟩
      replace HJ1 := hid (HJ1.out.keep hB)
      replace HJ2 := hid (HJ2.out.keep hB)
      replace HJ3 := hid (HJ3.out.keep hB)
      replace HJ4 := hid (HJ4.out.keep hB)
      replace hz0 := hid (hz0.out.keep hB)
      replace hz1 := hid (hz1.out.keep hB)
      replace HW := hid (HW.out.trans (hB.mono HW.out.size))
      clear hB
      go_wp2_with fail
      refine (same_true _ _ X _ hu27 HJ3.out.toV).mono ?_
      rintro e v28 ⟨rfl, hB⟩
      replace HJ1 := hid (HJ1.out.keep hB)
      replace HJ2 := hid (HJ2.out.keep hB)
      replace HJ3 := hid (HJ3.out.keep hB)
      replace HJ4 := hid (HJ4.out.keep hB)
      replace hz0 := hid (hz0.out.keep hB)
      replace hz1 := hid (hz1.out.keep hB)
      replace HW := hid (HW.out.trans (hB.mono HW.out.size))
      clear hB
      go_wp2_with fail
      refine (HC9.out _ _ HJ2.out.toV).mono ?_
      rintro e v29 ⟨u29, rfl, hu29, hB⟩
      replace HJ1 := hid (HJ1.out.keep hB)
      replace HJ2 := hid (HJ2.out.keep hB)
      replace HJ3 := hid (HJ3.out.keep hB)
      replace HJ4 := hid (HJ4.out.keep hB)
      replace hz0 := hid (hz0.out.keep hB)
      replace hz1 := hid (hz1.out.keep hB)
      replace HW := hid (HW.out.trans (hB.mono HW.out.size))
      clear hB
      go_wp2_with fail
      refine (same_true _ _ U _ hu29 HJ2.out.toV).mono ?_
      rintro e v30 ⟨rfl, hB⟩
      replace HJ1 := hid (HJ1.out.keep hB)
      replace HJ2 := hid (HJ2.out.keep hB)
      replace HJ3 := hid (HJ3.out.keep hB)
      replace HJ4 := hid (HJ4.out.keep hB)
      replace hz0 := hid (hz0.out.keep hB)
      replace hz1 := hid (hz1.out.keep hB)
      replace HW := hid (HW.out.trans (hB.mono HW.out.size))
      clear hB
      go_wp2_with fail
      refine (HC10.out _ _ _ HJ4.out.toV hz1.out).mono ?_
      rintro e v31 ⟨b31, d31, rfl, hI31, hB⟩
      replace HJ1 := hid (HJ1.out.keep hB)
      replace HJ2 := hid (HJ2.out.keep hB)
      replace HJ3 := hid (HJ3.out.keep hB)
      replace HJ4 := hid (HJ4.out.keep hB)
      replace hz0 := hid (hz0.out.keep hB)
      replace hz1 := hid (hz1.out.keep hB)
      replace HW := hid (HW.out.trans (hB.mono HW.out.size))
      clear hB
      simp only [List.length_nil]
      go_wp2_with fail
      refine (law_head _).mono ?_
      rintro e v32 ⟨rfl, hB⟩
      replace HJ1 := hid (HJ1.out.keep hB)
      replace HJ2 := hid (HJ2.out.keep hB)
      replace HJ3 := hid (HJ3.out.keep hB)
      replace HJ4 := hid (HJ4.out.keep hB)
      replace hz0 := hid (hz0.out.keep hB)
      replace hz1 := hid (hz1.out.keep hB)
      replace HW := hid (HW.out.trans (hB.mono HW.out.size))
      clear hB
      go_wp2
      go_ret
      exact ⟨rfl, HW.out⟩

end Go.Proofs.Ytmjmgjdklhdcdaa
