/-
  Sorting indices by a comparing method value: the partition.
-/
import Derived.Test.YtfnmekmgjcjglaaDoorYHK2
namespace Go.Proofs.YtfnmekmgjcjglaaDoor.V
set_option linter.unusedVariables false
set_option linter.unusedSimpArgs false
set_option maxRecDepth 100000
open Go Go.RowKit Go.Maps Wire
set_option maxRecDepth 100000
set_option linter.unusedVariables false
set_option linter.unusedSimpArgs false
open Go.Sort (swp PermIn SortedIn SWO scanUp scanDown partLoop)
variable {w0 : World} {blk : Nat} {ok : Nat → Prop} {d : Array Nat} {W W' : World}
theorem gen_exit {Q : Exit → Act → World → Prop} {e : Exit} {a : Act} {w : World} (R : World → Prop) (hR : R w) (h : ∀ W, R W → Q e a W) : Q e a w := h w hR
theorem up_stop {p : Nat → Bool} {d : Array Nat} {i j : Nat} (h : ¬ i ≤ j ∨ p (gA d i) = false) : scanUp p d j i = i := by
  unfold scanUp
  rw [if_neg]
  intro hc
  rw [Bool.and_eq_true, decide_eq_true_eq] at hc
  rcases h with h | h
  · exact h hc.1
  · have h2 : p d[i]! = true := hc.2
    rw [show p d[i]! = false from h] at h2
    cases h2
theorem up_go {p : Nat → Bool} {d : Array Nat} {i j : Nat} (h : i ≤ j) (hp : p (gA d i) = true) : scanUp p d j i = scanUp p d j (i + 1) := by
  conv => lhs; unfold scanUp
  rw [if_pos]
  rw [Bool.and_eq_true, decide_eq_true_eq]
  exact ⟨h, hp⟩
theorem down_stop {p : Nat → Bool} {d : Array Nat} {i j : Nat} (h : ¬ i ≤ j ∨ p (gA d j) = false) : scanDown p d i j = j := by
  cases j with
  | zero => rfl
  | succ j =>
    unfold scanDown
    rw [if_neg]
    intro hc
    rw [Bool.and_eq_true, decide_eq_true_eq] at hc
    rcases h with h | h
    · exact h hc.1
    · have h2 : p d[j + 1]! = true := hc.2
      rw [show p d[j + 1]! = false from h] at h2
      cases h2
theorem down_go {p : Nat → Bool} {d : Array Nat} {i j : Nat} (h0 : 0 < j) (h : i ≤ j) (hp : p (gA d j) = true) : scanDown p d i j = scanDown p d i (j - 1) := by
  cases j with
  | zero => omega
  | succ j =>
    rw [Nat.add_sub_cancel]
    conv => lhs; unfold scanDown
    rw [if_pos]
    rw [Bool.and_eq_true, decide_eq_true_eq]
    exact ⟨h, hp⟩
abbrev pU (c : Nat → Nat → Int) (d : Array Nat) (a : Nat) : Nat → Bool := fun x => ltC c x d[a]!
abbrev pD (c : Nat → Nat → Int) (d : Array Nat) (a : Nat) : Nat → Bool := fun x => !ltC c x d[a]!
theorem part_step {c : Nat → Nat → Int} {a i j i2 j2 : Nat} {d : Array Nat} (hi : scanUp (pU c d a) d j i = i2) (hj : scanDown (pD c d a) d i2 j = j2) :
    partLoop (ltC c) a i j d = if i2 > j2 then (j2, d) else partLoop (ltC c) a (i2 + 1) (j2 - 1) (swp d i2 j2) := by
  subst hi hj
  rw [Go.Sort.partLoop_eq]
set_option maxHeartbeats 2000000 in
theorem sort_partition (recv : Value) (c : Nat → Nat → Int) (HC : Hid (CmpOK w0 recv ok c)) (n cap a b pivot : Nat) (d0 : Array Nat) (hn : d0.size = n) (hap : a ≤ pivot) (hpb : pivot < b) (hbs : b ≤ n) (hsz : n < 1000000000) (W0 : World) (h : Srt w0 blk ok d0 W0) :
    Calls Tryd.prog 93 #[.slice (some ⟨blk, 0, none⟩) n cap, .int .i64 (a : Nat), .int .i64 (b : Nat), .int .i64 (pivot : Nat), .func (.func 59) #[recv] #[]] W0 fun e w' => ∃ ap : Bool, e = .returned (.tuple #[.int .i64 ((Go.Sort.partition (ltC c) d0 a b pivot).1 : Nat), .bool ap]) ∧ Srt w0 blk ok (Go.Sort.partition (ltC c) d0 a b pivot).2.2 w' := by
  rw [Go.Sort.partition_fst, Go.Sort.partition_arr]
  have HS0 := hid (h.swap (i := a) (j := pivot) (by omega) (by omega))
  have c0 := h.cell (i := a) (by omega)
  have c1 := h.cell (i := pivot) (by omega)
  have f0 := h.free a
  have f1 := h.free pivot
  have q0 : (a : Int) < (n : Int) := by omega
  have q1 : (pivot : Int) < (n : Int) := by omega
  have hds0 : (swp d0 a pivot).size = n := by rw [Go.Sort.size_swp]; exact hn
  obtain ⟨d1, hd1⟩ : ∃ d1, d1 = swp d0 a pivot := ⟨_, rfl⟩
  rw [← hd1] at HS0 hds0 ⊢
  obtain ⟨R, hR⟩ : ∃ R, R = partLoop (ltC c) a (a + 1) (b - 1) d1 := ⟨_, rfl⟩
  rw [← hR]
  have HR := hid hR
  clear hR hd1 h
  have hb1 : (b : Int) - 1 = ((b - 1 : Nat) : Int) := by omega
  go_enter Tryd.func93, Tryd.ntmps93
  go_upto_region 1 with (fail)
  rcases (show a = pivot ∨ a ≠ pivot by omega) with hne | hne
  · subst hne
    go_region
    refine gen_exit (fun W => Srt w0 blk ok d1 W) HS0.out.dr ?_
    intro W1 hs1
    have HS := hid hs1
    clear hs1 c0 c1 f0 f1 HS0
    go_wp2
    go_loopw [12] (fun x wr => ∃ i : Nat, x = .int .i64 (i : Nat) ∧ (a + 1) ≤ i ∧ i ≤ (b - 1) + 1 ∧ Hid (scanUp (pU c d1 a) d1 ((b - 1)) i = scanUp (pU c d1 a) d1 ((b - 1)) ((a + 1))) ∧ Srt w0 blk ok d1 wr) (fun x _ => (b - 1) + 2 - (intOf x).toNat)
    case atStart => exact ⟨(a + 1), by go_num, by omega, by omega, rfl, HS.out⟩
    case round =>
      obtain ⟨i, rfl, hi1, hi2, htu, hs⟩ := hrel
      have HSu := hid hs
      clear hs
      go_upto_region 3 with (fail)
      refine wp_flow (fun _ => none) (Fa.eq (.int .i64 ((i : Nat))) :: Fa.eq (.int .i64 (((b - 1) : Nat))) :: Fa.eq (.bool (decide (((i : Nat)) ≤ (((b - 1) : Nat))))) :: Fa.eq (.bool (decide (((i : Nat)) ≤ (((b - 1) : Nat))))) :: Fa.eq (gd (decide (((i : Nat)) ≤ (((b - 1) : Nat)))) (.func (.func 59) #[recv] #[])) :: Fa.eq (gd (decide (((i : Nat)) ≤ (((b - 1) : Nat)))) (.slice (some ⟨blk, 0, none⟩) n cap)) :: Fa.eq (gd (decide (((i : Nat)) ≤ (((b - 1) : Nat)))) (.int .i64 ((i : Nat)))) :: Fa.eq (gd (decide (((i : Nat)) ≤ (((b - 1) : Nat)))) (.pointer (some ⟨blk, i, none⟩))) :: Fa.eq (gd (decide (((i : Nat)) ≤ (((b - 1) : Nat)))) (.int .i64 (gA d1 (i) : Nat))) :: Fa.eq (gd (decide (((i : Nat)) ≤ (((b - 1) : Nat)))) (.slice (some ⟨blk, 0, none⟩) n cap)) :: Fa.eq (gd (decide (((i : Nat)) ≤ (((b - 1) : Nat)))) (.int .i64 ((a : Nat)))) :: Fa.eq (gd (decide (((i : Nat)) ≤ (((b - 1) : Nat)))) (.pointer (some ⟨blk, a, none⟩))) :: Fa.eq (gd (decide (((i : Nat)) ≤ (((b - 1) : Nat)))) (.int .i64 (gA d1 (a) : Nat))) :: Fa.eq (gd (decide (((i : Nat)) ≤ (((b - 1) : Nat)))) (.int .i64 (c (gA d1 (i)) (gA d1 (a))))) :: Fa.eq (gd (decide (((i : Nat)) ≤ (((b - 1) : Nat)))) (.bool (decide ((c (gA d1 (i)) (gA d1 (a))) < (0))))) :: Fa.eq (.bool ((decide (((i : Nat)) ≤ (((b - 1) : Nat)))) && (decide ((c (gA d1 (i)) (gA d1 (a))) < (0))))) :: []) 178 (by kernel_rfl) rfl (by kernel_rfl) rfl (by kernel_rfl) ?_ ?_ ?_
      · exact fits_plain _ _ rfl
      · refine ⟨?_, ?_, ?_, ?_, ?_, ?_, ?_, ?_, ?_, ?_, ?_, ?_, ?_, ?_, ?_, ?_, trivial⟩
        · exact v_move (.inl rfl) rfl (by kernel_rfl) True.intro (Ev.out (by kernel_rfl) rfl)
        · exact v_move (.inl rfl) rfl (by kernel_rfl) True.intro (Ev.out (by kernel_rfl) rfl)
        · exact v_bin (u := .int .i64 ((i : Nat))) (v := .int .i64 (((b - 1) : Nat))) (c := .bool (decide (((i : Nat)) ≤ (((b - 1) : Nat))))) rfl (fun w => (by go_simp)) rfl (by kernel_rfl) True.intro (Ev.at (i := 0) (by kernel_rfl) (by kernel_rfl) rfl) (Ev.at (i := 1) (by kernel_rfl) (by kernel_rfl) rfl)
        · exact v_move (.inl rfl) rfl (by kernel_rfl) True.intro (Ev.at (i := 2) (by kernel_rfl) (by kernel_rfl) rfl)
        · exact flow_gd (decide (((i : Nat)) ≤ (((b - 1) : Nat)))) (.func (.func 59) #[recv] #[]) 3 true (.bool (decide (((i : Nat)) ≤ (((b - 1) : Nat))))) rfl (by kernel_rfl) rfl gu_t rfl (fun hg hF hj => v_move (.inl rfl) hF (by kernel_rfl) (guard_of rfl (by kernel_rfl) (by kernel_rfl) hj) (Ev.out (by kernel_rfl) rfl))
        · exact flow_gd (decide (((i : Nat)) ≤ (((b - 1) : Nat)))) (.slice (some ⟨blk, 0, none⟩) n cap) 3 true (.bool (decide (((i : Nat)) ≤ (((b - 1) : Nat))))) rfl (by kernel_rfl) rfl gu_t rfl (fun hg hF hj => v_move (.inl rfl) hF (by kernel_rfl) (guard_of rfl (by kernel_rfl) (by kernel_rfl) hj) (Ev.out (by kernel_rfl) rfl))
        · exact flow_gd (decide (((i : Nat)) ≤ (((b - 1) : Nat)))) (.int .i64 ((i : Nat))) 3 true (.bool (decide (((i : Nat)) ≤ (((b - 1) : Nat))))) rfl (by kernel_rfl) rfl gu_t rfl (fun hg hF hj => v_move (.inl rfl) hF (by kernel_rfl) (guard_of rfl (by kernel_rfl) (by kernel_rfl) hj) (Ev.out (by kernel_rfl) rfl))
        · exact flow_gd (decide (((i : Nat)) ≤ (((b - 1) : Nat)))) (.pointer (some ⟨blk, i, none⟩)) 3 true (.bool (decide (((i : Nat)) ≤ (((b - 1) : Nat))))) rfl (by kernel_rfl) rfl gu_t rfl (fun hg hF hj => v_iaddr (u := .slice (some ⟨blk, 0, none⟩) n cap) (v := .int .i64 ((i : Nat))) (c := .pointer (some ⟨blk, i, none⟩)) rfl (fun w => idx_int (by have := of_decide_eq_true hg; omega) (rfl) w) hF (by kernel_rfl) (guard_of rfl (by kernel_rfl) (by kernel_rfl) hj) (Ev.at (i := 5) (by kernel_rfl) (by kernel_rfl) (fe rfl (gd_t hg))) (Ev.at (i := 6) (by kernel_rfl) (by kernel_rfl) (fe rfl (gd_t hg))))
        · exact flow_gd (decide (((i : Nat)) ≤ (((b - 1) : Nat)))) (.int .i64 (gA d1 (i) : Nat)) 3 true (.bool (decide (((i : Nat)) ≤ (((b - 1) : Nat))))) rfl (by kernel_rfl) rfl gu_t rfl (fun hg hF hj => v_load (u := .pointer (some ⟨blk, i, none⟩)) (c := .int .i64 (gA d1 (i) : Nat)) rfl (fun w hB => ld_int ((HSu.out.dr).later hB) (by have := of_decide_eq_true hg; omega)) hF (by kernel_rfl) (guard_of rfl (by kernel_rfl) (by kernel_rfl) hj) (Ev.at (i := 7) (by kernel_rfl) (by kernel_rfl) (fe rfl (gd_t hg))))
        · exact flow_gd (decide (((i : Nat)) ≤ (((b - 1) : Nat)))) (.slice (some ⟨blk, 0, none⟩) n cap) 3 true (.bool (decide (((i : Nat)) ≤ (((b - 1) : Nat))))) rfl (by kernel_rfl) rfl gu_t rfl (fun hg hF hj => v_move (.inl rfl) hF (by kernel_rfl) (guard_of rfl (by kernel_rfl) (by kernel_rfl) hj) (Ev.out (by kernel_rfl) rfl))
        · exact flow_gd (decide (((i : Nat)) ≤ (((b - 1) : Nat)))) (.int .i64 ((a : Nat))) 3 true (.bool (decide (((i : Nat)) ≤ (((b - 1) : Nat))))) rfl (by kernel_rfl) rfl gu_t rfl (fun hg hF hj => v_move (.inl rfl) hF (by kernel_rfl) (guard_of rfl (by kernel_rfl) (by kernel_rfl) hj) (Ev.out (by kernel_rfl) rfl))
        · exact flow_gd (decide (((i : Nat)) ≤ (((b - 1) : Nat)))) (.pointer (some ⟨blk, a, none⟩)) 3 true (.bool (decide (((i : Nat)) ≤ (((b - 1) : Nat))))) rfl (by kernel_rfl) rfl gu_t rfl (fun hg hF hj => v_iaddr (u := .slice (some ⟨blk, 0, none⟩) n cap) (v := .int .i64 ((a : Nat))) (c := .pointer (some ⟨blk, a, none⟩)) rfl (fun w => idx_int (by omega) (rfl) w) hF (by kernel_rfl) (guard_of rfl (by kernel_rfl) (by kernel_rfl) hj) (Ev.at (i := 9) (by kernel_rfl) (by kernel_rfl) (fe rfl (gd_t hg))) (Ev.at (i := 10) (by kernel_rfl) (by kernel_rfl) (fe rfl (gd_t hg))))
        · exact flow_gd (decide (((i : Nat)) ≤ (((b - 1) : Nat)))) (.int .i64 (gA d1 (a) : Nat)) 3 true (.bool (decide (((i : Nat)) ≤ (((b - 1) : Nat))))) rfl (by kernel_rfl) rfl gu_t rfl (fun hg hF hj => v_load (u := .pointer (some ⟨blk, a, none⟩)) (c := .int .i64 (gA d1 (a) : Nat)) rfl (fun w hB => ld_int ((HSu.out.dr).later hB) (by omega)) hF (by kernel_rfl) (guard_of rfl (by kernel_rfl) (by kernel_rfl) hj) (Ev.at (i := 11) (by kernel_rfl) (by kernel_rfl) (fe rfl (gd_t hg))))
        · exact flow_gd (decide (((i : Nat)) ≤ (((b - 1) : Nat)))) (.int .i64 (c (gA d1 (i)) (gA d1 (a)))) 3 true (.bool (decide (((i : Nat)) ≤ (((b - 1) : Nat))))) rfl (by kernel_rfl) rfl gu_t rfl (fun hg hF hj => v_callv (f := 59) (pre := #[recv]) (vs := #[.int .i64 (gA d1 (i) : Nat), .int .i64 (gA d1 (a) : Nat)]) (c := .int .i64 (c (gA d1 (i)) (gA d1 (a)))) rfl (fun args w => rfl) (fun w hB => (HC.out.call _ ((HSu.out.dr).later hB).below _ _ (((HSu.out.dr).later hB).ok _ (by have := of_decide_eq_true hg; omega)) (((HSu.out.dr).later hB).ok _ (by omega)))) hF (by kernel_rfl) (guard_of rfl (by kernel_rfl) (by kernel_rfl) hj) (Ev.at (i := 4) (by kernel_rfl) (by kernel_rfl) (fe rfl (gd_t hg))) (ev2 (Ev.at (i := 8) (by kernel_rfl) (by kernel_rfl) (fe rfl (gd_t hg))) (Ev.at (i := 12) (by kernel_rfl) (by kernel_rfl) (fe rfl (gd_t hg)))))
        · exact flow_gd (decide (((i : Nat)) ≤ (((b - 1) : Nat)))) (.bool (decide ((c (gA d1 (i)) (gA d1 (a))) < (0)))) 3 true (.bool (decide (((i : Nat)) ≤ (((b - 1) : Nat))))) rfl (by kernel_rfl) rfl gu_t rfl (fun hg hF hj => v_bin (u := .int .i64 (c (gA d1 (i)) (gA d1 (a)))) (v := .int .i64 (0)) (c := .bool (decide ((c (gA d1 (i)) (gA d1 (a))) < (0)))) rfl (fun w => (by go_simp)) hF (by kernel_rfl) (guard_of rfl (by kernel_rfl) (by kernel_rfl) hj) (Ev.at (i := 13) (by kernel_rfl) (by kernel_rfl) (fe rfl (gd_t hg))) Ev.const)
        · exact v_and (p := decide (((i : Nat)) ≤ (((b - 1) : Nat)))) (q := decide ((c (gA d1 (i)) (gA d1 (a))) < (0))) rfl rfl (by kernel_rfl) True.intro (Ev.at (i := 3) (by kernel_rfl) (by kernel_rfl) rfl) (fun hp => (Ev.at (i := 14) (by kernel_rfl) (by kernel_rfl) (fe rfl (gd_t hp))))
      intro _ vs wu hBu hf
      have e0 : vs 0 = .int .i64 ((i : Nat)) := hf 0 (by decide)
      have e1 : vs 1 = .int .i64 (((b - 1) : Nat)) := hf 1 (by decide)
      have e2 : vs 2 = .bool (decide (((i : Nat)) ≤ (((b - 1) : Nat)))) := hf 2 (by decide)
      have e3 : vs 3 = .bool (decide (((i : Nat)) ≤ (((b - 1) : Nat)))) := hf 3 (by decide)
      have e4 : vs 4 = gd (decide (((i : Nat)) ≤ (((b - 1) : Nat)))) (.func (.func 59) #[recv] #[]) := hf 4 (by decide)
      have e5 : vs 5 = gd (decide (((i : Nat)) ≤ (((b - 1) : Nat)))) (.slice (some ⟨blk, 0, none⟩) n cap) := hf 5 (by decide)
      have e6 : vs 6 = gd (decide (((i : Nat)) ≤ (((b - 1) : Nat)))) (.int .i64 ((i : Nat))) := hf 6 (by decide)
      have e7 : vs 7 = gd (decide (((i : Nat)) ≤ (((b - 1) : Nat)))) (.pointer (some ⟨blk, i, none⟩)) := hf 7 (by decide)
      have e8 : vs 8 = gd (decide (((i : Nat)) ≤ (((b - 1) : Nat)))) (.int .i64 (gA d1 (i) : Nat)) := hf 8 (by decide)
      have e9 : vs 9 = gd (decide (((i : Nat)) ≤ (((b - 1) : Nat)))) (.slice (some ⟨blk, 0, none⟩) n cap) := hf 9 (by decide)
      have e10 : vs 10 = gd (decide (((i : Nat)) ≤ (((b - 1) : Nat)))) (.int .i64 ((a : Nat))) := hf 10 (by decide)
      have e11 : vs 11 = gd (decide (((i : Nat)) ≤ (((b - 1) : Nat)))) (.pointer (some ⟨blk, a, none⟩)) := hf 11 (by decide)
      have e12 : vs 12 = gd (decide (((i : Nat)) ≤ (((b - 1) : Nat)))) (.int .i64 (gA d1 (a) : Nat)) := hf 12 (by decide)
      have e13 : vs 13 = gd (decide (((i : Nat)) ≤ (((b - 1) : Nat)))) (.int .i64 (c (gA d1 (i)) (gA d1 (a)))) := hf 13 (by decide)
      have e14 : vs 14 = gd (decide (((i : Nat)) ≤ (((b - 1) : Nat)))) (.bool (decide ((c (gA d1 (i)) (gA d1 (a))) < (0)))) := hf 14 (by decide)
      have e15 : vs 15 = .bool ((decide (((i : Nat)) ≤ (((b - 1) : Nat)))) && (decide ((c (gA d1 (i)) (gA d1 (a))) < (0)))) := hf 15 (by decide)
      obtain ⟨z, hz⟩ : ∃ z : Bool, ((decide (((i : Nat)) ≤ (((b - 1) : Nat)))) && (decide ((c (gA d1 (i)) (gA d1 (a))) < (0)))) = z := ⟨_, rfl⟩
      rw [hz] at e15
      have HZ := hid hz
      clear hz
      simp only [fill, List.setIfInBounds_toArray, List.set_cons_zero, List.set_cons_succ, e0, e1, e2, e3, e4, e5, e6, e7, e8, e9, e10, e11, e12, e13, e14, e15]
      clear e0 e1 e2 e3 e4 e5 e6 e7 e8 e9 e10 e11 e12 e13 e14 e15
      have HSv := hid (HSu.out.later hBu)
      have hz := HZ.out
      clear hBu hf HZ
      cases z
      · have hst := up_stop (p := pU c d1 a) (d := d1) (i := i) (j := (b - 1)) (by
          rw [Bool.and_eq_false_iff] at hz
          rcases hz with hz | hz
          · left; have := of_decide_eq_false hz; omega
          · exact .inr hz)
        have HNI := hid (show ¬ i ≤ (b - 1) ∨ ltC c (gA d1 i) (gA d1 a) = false by
          rw [Bool.and_eq_false_iff] at hz
          rcases hz with hz | hz
          · left; have := of_decide_eq_false hz; omega
          · exact .inr hz)
        have HI := hid (htu.out.symm.trans hst)
        clear hz hst
        go_wp2
        go_loopw [13] (fun x wr => ∃ q : Nat, x = .int .i64 (q : Nat) ∧ q ≤ (b - 1) ∧ i ≤ q + 1 ∧ Hid (scanDown (pD c d1 a) d1 i q = scanDown (pD c d1 a) d1 i ((b - 1))) ∧ Srt w0 blk ok d1 wr) (fun x _ => (intOf x).toNat)
        case atStart => exact ⟨(b - 1), by go_num, by omega, by omega, rfl, HSv.out⟩
        case round =>
          obtain ⟨q, rfl, hq1, hq2, htd, hs⟩ := hrel
          have HSu2 := hid hs
          clear hs
          go_upto_region 5 with (fail)
          refine wp_flow (fun _ => none) (Fa.eq (.int .i64 ((i : Nat))) :: Fa.eq (.int .i64 ((q : Nat))) :: Fa.eq (.bool (decide (((i : Nat)) ≤ ((q : Nat))))) :: Fa.eq (.bool (decide (((i : Nat)) ≤ ((q : Nat))))) :: Fa.eq (gd (decide (((i : Nat)) ≤ ((q : Nat)))) (.func (.func 59) #[recv] #[])) :: Fa.eq (gd (decide (((i : Nat)) ≤ ((q : Nat)))) (.slice (some ⟨blk, 0, none⟩) n cap)) :: Fa.eq (gd (decide (((i : Nat)) ≤ ((q : Nat)))) (.int .i64 ((q : Nat)))) :: Fa.eq (gd (decide (((i : Nat)) ≤ ((q : Nat)))) (.pointer (some ⟨blk, q, none⟩))) :: Fa.eq (gd (decide (((i : Nat)) ≤ ((q : Nat)))) (.int .i64 (gA d1 (q) : Nat))) :: Fa.eq (gd (decide (((i : Nat)) ≤ ((q : Nat)))) (.slice (some ⟨blk, 0, none⟩) n cap)) :: Fa.eq (gd (decide (((i : Nat)) ≤ ((q : Nat)))) (.int .i64 ((a : Nat)))) :: Fa.eq (gd (decide (((i : Nat)) ≤ ((q : Nat)))) (.pointer (some ⟨blk, a, none⟩))) :: Fa.eq (gd (decide (((i : Nat)) ≤ ((q : Nat)))) (.int .i64 (gA d1 (a) : Nat))) :: Fa.eq (gd (decide (((i : Nat)) ≤ ((q : Nat)))) (.int .i64 (c (gA d1 (q)) (gA d1 (a))))) :: Fa.eq (gd (decide (((i : Nat)) ≤ ((q : Nat)))) (.bool (decide ((c (gA d1 (q)) (gA d1 (a))) < (0))))) :: Fa.eq (gd (decide (((i : Nat)) ≤ ((q : Nat)))) (.bool (!(decide ((c (gA d1 (q)) (gA d1 (a))) < (0)))))) :: Fa.eq (.bool ((decide (((i : Nat)) ≤ ((q : Nat)))) && (!(decide ((c (gA d1 (q)) (gA d1 (a))) < (0)))))) :: []) 178 (by kernel_rfl) rfl (by kernel_rfl) rfl (by kernel_rfl) ?_ ?_ ?_
          · exact fits_plain _ _ rfl
          · refine ⟨?_, ?_, ?_, ?_, ?_, ?_, ?_, ?_, ?_, ?_, ?_, ?_, ?_, ?_, ?_, ?_, ?_, trivial⟩
            · exact v_move (.inl rfl) rfl (by kernel_rfl) True.intro (Ev.out (by kernel_rfl) rfl)
            · exact v_move (.inl rfl) rfl (by kernel_rfl) True.intro (Ev.out (by kernel_rfl) rfl)
            · exact v_bin (u := .int .i64 ((i : Nat))) (v := .int .i64 ((q : Nat))) (c := .bool (decide (((i : Nat)) ≤ ((q : Nat))))) rfl (fun w => (by go_simp)) rfl (by kernel_rfl) True.intro (Ev.at (i := 0) (by kernel_rfl) (by kernel_rfl) rfl) (Ev.at (i := 1) (by kernel_rfl) (by kernel_rfl) rfl)
            · exact v_move (.inl rfl) rfl (by kernel_rfl) True.intro (Ev.at (i := 2) (by kernel_rfl) (by kernel_rfl) rfl)
            · exact flow_gd (decide (((i : Nat)) ≤ ((q : Nat)))) (.func (.func 59) #[recv] #[]) 3 true (.bool (decide (((i : Nat)) ≤ ((q : Nat))))) rfl (by kernel_rfl) rfl gu_t rfl (fun hg hF hj => v_move (.inl rfl) hF (by kernel_rfl) (guard_of rfl (by kernel_rfl) (by kernel_rfl) hj) (Ev.out (by kernel_rfl) rfl))
            · exact flow_gd (decide (((i : Nat)) ≤ ((q : Nat)))) (.slice (some ⟨blk, 0, none⟩) n cap) 3 true (.bool (decide (((i : Nat)) ≤ ((q : Nat))))) rfl (by kernel_rfl) rfl gu_t rfl (fun hg hF hj => v_move (.inl rfl) hF (by kernel_rfl) (guard_of rfl (by kernel_rfl) (by kernel_rfl) hj) (Ev.out (by kernel_rfl) rfl))
            · exact flow_gd (decide (((i : Nat)) ≤ ((q : Nat)))) (.int .i64 ((q : Nat))) 3 true (.bool (decide (((i : Nat)) ≤ ((q : Nat))))) rfl (by kernel_rfl) rfl gu_t rfl (fun hg hF hj => v_move (.inl rfl) hF (by kernel_rfl) (guard_of rfl (by kernel_rfl) (by kernel_rfl) hj) (Ev.out (by kernel_rfl) rfl))
            · exact flow_gd (decide (((i : Nat)) ≤ ((q : Nat)))) (.pointer (some ⟨blk, q, none⟩)) 3 true (.bool (decide (((i : Nat)) ≤ ((q : Nat))))) rfl (by kernel_rfl) rfl gu_t rfl (fun hg hF hj => v_iaddr (u := .slice (some ⟨blk, 0, none⟩) n cap) (v := .int .i64 ((q : Nat))) (c := .pointer (some ⟨blk, q, none⟩)) rfl (fun w => idx_int (by have := of_decide_eq_true hg; omega) (rfl) w) hF (by kernel_rfl) (guard_of rfl (by kernel_rfl) (by kernel_rfl) hj) (Ev.at (i := 5) (by kernel_rfl) (by kernel_rfl) (fe rfl (gd_t hg))) (Ev.at (i := 6) (by kernel_rfl) (by kernel_rfl) (fe rfl (gd_t hg))))
            · exact flow_gd (decide (((i : Nat)) ≤ ((q : Nat)))) (.int .i64 (gA d1 (q) : Nat)) 3 true (.bool (decide (((i : Nat)) ≤ ((q : Nat))))) rfl (by kernel_rfl) rfl gu_t rfl (fun hg hF hj => v_load (u := .pointer (some ⟨blk, q, none⟩)) (c := .int .i64 (gA d1 (q) : Nat)) rfl (fun w hB => ld_int ((HSu2.out.dr).later hB) (by have := of_decide_eq_true hg; omega)) hF (by kernel_rfl) (guard_of rfl (by kernel_rfl) (by kernel_rfl) hj) (Ev.at (i := 7) (by kernel_rfl) (by kernel_rfl) (fe rfl (gd_t hg))))
            · exact flow_gd (decide (((i : Nat)) ≤ ((q : Nat)))) (.slice (some ⟨blk, 0, none⟩) n cap) 3 true (.bool (decide (((i : Nat)) ≤ ((q : Nat))))) rfl (by kernel_rfl) rfl gu_t rfl (fun hg hF hj => v_move (.inl rfl) hF (by kernel_rfl) (guard_of rfl (by kernel_rfl) (by kernel_rfl) hj) (Ev.out (by kernel_rfl) rfl))
            · exact flow_gd (decide (((i : Nat)) ≤ ((q : Nat)))) (.int .i64 ((a : Nat))) 3 true (.bool (decide (((i : Nat)) ≤ ((q : Nat))))) rfl (by kernel_rfl) rfl gu_t rfl (fun hg hF hj => v_move (.inl rfl) hF (by kernel_rfl) (guard_of rfl (by kernel_rfl) (by kernel_rfl) hj) (Ev.out (by kernel_rfl) rfl))
            · exact flow_gd (decide (((i : Nat)) ≤ ((q : Nat)))) (.pointer (some ⟨blk, a, none⟩)) 3 true (.bool (decide (((i : Nat)) ≤ ((q : Nat))))) rfl (by kernel_rfl) rfl gu_t rfl (fun hg hF hj => v_iaddr (u := .slice (some ⟨blk, 0, none⟩) n cap) (v := .int .i64 ((a : Nat))) (c := .pointer (some ⟨blk, a, none⟩)) rfl (fun w => idx_int (by omega) (rfl) w) hF (by kernel_rfl) (guard_of rfl (by kernel_rfl) (by kernel_rfl) hj) (Ev.at (i := 9) (by kernel_rfl) (by kernel_rfl) (fe rfl (gd_t hg))) (Ev.at (i := 10) (by kernel_rfl) (by kernel_rfl) (fe rfl (gd_t hg))))
            · exact flow_gd (decide (((i : Nat)) ≤ ((q : Nat)))) (.int .i64 (gA d1 (a) : Nat)) 3 true (.bool (decide (((i : Nat)) ≤ ((q : Nat))))) rfl (by kernel_rfl) rfl gu_t rfl (fun hg hF hj => v_load (u := .pointer (some ⟨blk, a, none⟩)) (c := .int .i64 (gA d1 (a) : Nat)) rfl (fun w hB => ld_int ((HSu2.out.dr).later hB) (by omega)) hF (by kernel_rfl) (guard_of rfl (by kernel_rfl) (by kernel_rfl) hj) (Ev.at (i := 11) (by kernel_rfl) (by kernel_rfl) (fe rfl (gd_t hg))))
            · exact flow_gd (decide (((i : Nat)) ≤ ((q : Nat)))) (.int .i64 (c (gA d1 (q)) (gA d1 (a)))) 3 true (.bool (decide (((i : Nat)) ≤ ((q : Nat))))) rfl (by kernel_rfl) rfl gu_t rfl (fun hg hF hj => v_callv (f := 59) (pre := #[recv]) (vs := #[.int .i64 (gA d1 (q) : Nat), .int .i64 (gA d1 (a) : Nat)]) (c := .int .i64 (c (gA d1 (q)) (gA d1 (a)))) rfl (fun args w => rfl) (fun w hB => (HC.out.call _ ((HSu2.out.dr).later hB).below _ _ (((HSu2.out.dr).later hB).ok _ (by have := of_decide_eq_true hg; omega)) (((HSu2.out.dr).later hB).ok _ (by omega)))) hF (by kernel_rfl) (guard_of rfl (by kernel_rfl) (by kernel_rfl) hj) (Ev.at (i := 4) (by kernel_rfl) (by kernel_rfl) (fe rfl (gd_t hg))) (ev2 (Ev.at (i := 8) (by kernel_rfl) (by kernel_rfl) (fe rfl (gd_t hg))) (Ev.at (i := 12) (by kernel_rfl) (by kernel_rfl) (fe rfl (gd_t hg)))))
            · exact flow_gd (decide (((i : Nat)) ≤ ((q : Nat)))) (.bool (decide ((c (gA d1 (q)) (gA d1 (a))) < (0)))) 3 true (.bool (decide (((i : Nat)) ≤ ((q : Nat))))) rfl (by kernel_rfl) rfl gu_t rfl (fun hg hF hj => v_bin (u := .int .i64 (c (gA d1 (q)) (gA d1 (a)))) (v := .int .i64 (0)) (c := .bool (decide ((c (gA d1 (q)) (gA d1 (a))) < (0)))) rfl (fun w => (by go_simp)) hF (by kernel_rfl) (guard_of rfl (by kernel_rfl) (by kernel_rfl) hj) (Ev.at (i := 13) (by kernel_rfl) (by kernel_rfl) (fe rfl (gd_t hg))) Ev.const)
            · exact flow_gd (decide (((i : Nat)) ≤ ((q : Nat)))) (.bool (!(decide ((c (gA d1 (q)) (gA d1 (a))) < (0))))) 3 true (.bool (decide (((i : Nat)) ≤ ((q : Nat))))) rfl (by kernel_rfl) rfl gu_t rfl (fun hg hF hj => v_not rfl hF (by kernel_rfl) (guard_of rfl (by kernel_rfl) (by kernel_rfl) hj) (Ev.at (i := 14) (by kernel_rfl) (by kernel_rfl) (fe rfl (gd_t hg))))
            · exact v_and (p := decide (((i : Nat)) ≤ ((q : Nat)))) (q := !(decide ((c (gA d1 (q)) (gA d1 (a))) < (0)))) rfl rfl (by kernel_rfl) True.intro (Ev.at (i := 3) (by kernel_rfl) (by kernel_rfl) rfl) (fun hp => (Ev.at (i := 15) (by kernel_rfl) (by kernel_rfl) (fe rfl (gd_t hp))))
          intro _ vs wv hBv hf
          have e0 : vs 0 = .int .i64 ((i : Nat)) := hf 0 (by decide)
          have e1 : vs 1 = .int .i64 ((q : Nat)) := hf 1 (by decide)
          have e2 : vs 2 = .bool (decide (((i : Nat)) ≤ ((q : Nat)))) := hf 2 (by decide)
          have e3 : vs 3 = .bool (decide (((i : Nat)) ≤ ((q : Nat)))) := hf 3 (by decide)
          have e4 : vs 4 = gd (decide (((i : Nat)) ≤ ((q : Nat)))) (.func (.func 59) #[recv] #[]) := hf 4 (by decide)
          have e5 : vs 5 = gd (decide (((i : Nat)) ≤ ((q : Nat)))) (.slice (some ⟨blk, 0, none⟩) n cap) := hf 5 (by decide)
          have e6 : vs 6 = gd (decide (((i : Nat)) ≤ ((q : Nat)))) (.int .i64 ((q : Nat))) := hf 6 (by decide)
          have e7 : vs 7 = gd (decide (((i : Nat)) ≤ ((q : Nat)))) (.pointer (some ⟨blk, q, none⟩)) := hf 7 (by decide)
          have e8 : vs 8 = gd (decide (((i : Nat)) ≤ ((q : Nat)))) (.int .i64 (gA d1 (q) : Nat)) := hf 8 (by decide)
          have e9 : vs 9 = gd (decide (((i : Nat)) ≤ ((q : Nat)))) (.slice (some ⟨blk, 0, none⟩) n cap) := hf 9 (by decide)
          have e10 : vs 10 = gd (decide (((i : Nat)) ≤ ((q : Nat)))) (.int .i64 ((a : Nat))) := hf 10 (by decide)
          have e11 : vs 11 = gd (decide (((i : Nat)) ≤ ((q : Nat)))) (.pointer (some ⟨blk, a, none⟩)) := hf 11 (by decide)
          have e12 : vs 12 = gd (decide (((i : Nat)) ≤ ((q : Nat)))) (.int .i64 (gA d1 (a) : Nat)) := hf 12 (by decide)
          have e13 : vs 13 = gd (decide (((i : Nat)) ≤ ((q : Nat)))) (.int .i64 (c (gA d1 (q)) (gA d1 (a)))) := hf 13 (by decide)
          have e14 : vs 14 = gd (decide (((i : Nat)) ≤ ((q : Nat)))) (.bool (decide ((c (gA d1 (q)) (gA d1 (a))) < (0)))) := hf 14 (by decide)
          have e15 : vs 15 = gd (decide (((i : Nat)) ≤ ((q : Nat)))) (.bool (!(decide ((c (gA d1 (q)) (gA d1 (a))) < (0))))) := hf 15 (by decide)
          have e16 : vs 16 = .bool ((decide (((i : Nat)) ≤ ((q : Nat)))) && (!(decide ((c (gA d1 (q)) (gA d1 (a))) < (0))))) := hf 16 (by decide)
          obtain ⟨z, hz⟩ : ∃ z : Bool, ((decide (((i : Nat)) ≤ ((q : Nat)))) && (!(decide ((c (gA d1 (q)) (gA d1 (a))) < (0))))) = z := ⟨_, rfl⟩
          rw [hz] at e16
          have HZ := hid hz
          clear hz
          simp only [fill, List.setIfInBounds_toArray, List.set_cons_zero, List.set_cons_succ, e0, e1, e2, e3, e4, e5, e6, e7, e8, e9, e10, e11, e12, e13, e14, e15, e16]
          clear e0 e1 e2 e3 e4 e5 e6 e7 e8 e9 e10 e11 e12 e13 e14 e15 e16
          have HSw := hid (HSu2.out.later hBv)
          have hz := HZ.out
          clear hBv hf HZ
          cases z
          · have hst := down_stop (p := pD c d1 a) (d := d1) (i := i) (j := q) (by
              rw [Bool.and_eq_false_iff] at hz
              rcases hz with hz | hz
              · left; have := of_decide_eq_false hz; omega
              · exact .inr hz)
            have HNJ := hid (show ¬ i ≤ q ∨ ltC c (gA d1 q) (gA d1 a) = true by
              rw [Bool.and_eq_false_iff] at hz
              rcases hz with hz | hz
              · left; have := of_decide_eq_false hz; omega
              · right; simpa [ltC] using hz)
            have HJ := hid (htd.out.symm.trans hst)
            clear hz hst
            have HST := hid (part_step (c := c) (a := a) (i := a + 1) (j := b - 1) (d := d1) HI.out HJ.out)
            by_cases hgt : i > q
            · have k0 : decide ((q : Int) < (i : Int)) = true := decide_eq_true (by omega)
              have c0 := HSw.out.cell (i := q) (by omega)
              have c1 := HSw.out.cell (i := a) (by omega)
              have f0 := HSw.out.free q
              have f1 := HSw.out.free a
              have q2 : (q : Int) < (n : Int) := by omega
              have HFS := hid (HSw.out.swap (i := q) (j := a) (by omega) (by omega))
              have HRE := hid (show R = (q, d1) by rw [HR.out, HST.out, if_pos hgt])
              go_wp2
              rcases (show q = a ∨ q ≠ a by omega) with hqa | hqa
              · subst hqa
                go_region
                go_wp2
                go_ret2
                refine ⟨_, by rw [HRE.out]; rfl, ?_⟩
                rw [HRE.out]
                exact HFS.out.dr
              · go_region
                go_wp2
                go_ret2
                refine ⟨_, by rw [HRE.out]; rfl, ?_⟩
                rw [HRE.out]
                exact HFS.out.dr
            · have k0 : decide ((q : Int) < (i : Int)) = false := decide_eq_false (by omega)
              have hlt : i < q := by
                rcases HNI.out with h | h
                · omega
                · rcases HNJ.out with h' | h'
                  · omega
                  · rcases Nat.lt_or_eq_of_le (show i ≤ q by omega) with h2 | h2
                    · exact h2
                    · subst h2; rw [h] at h'; cases h'
              have c0 := HSw.out.cell (i := i) (by omega)
              have c1 := HSw.out.cell (i := q) (by omega)
              have f0 := HSw.out.free i
              have f1 := HSw.out.free q
              have q2 : (i : Int) < (n : Int) := by omega
              have q3 : (q : Int) < (n : Int) := by omega
              have hne2 : i ≠ q := by omega
              have q4 : (q : Int) - 1 = ((q - 1 : Nat) : Int) := by omega
              have HSX := hid (HSw.out.swap (i := i) (j := q) (by omega) (by omega))
              go_upto_region 10 with (fail)
              go_region
              refine gen_exit (fun W => Srt w0 blk ok (swp d1 i q) W) HSX.out.dr ?_
              intro W5 hs5
              have HSY := hid hs5
              clear hs5 c0 c1 f0 f1 HSX hne2 q2 q3
              go_wp2
              go_loopw [12, 13] (fun x y wr => ∃ (i j : Nat) (d2 : Array Nat), x = .int .i64 (i : Nat) ∧ y = .int .i64 (j : Nat) ∧ a < i ∧ i ≤ j + 1 ∧ j < b ∧ d2.size = n ∧ Hid (partLoop (ltC c) a i j d2 = R) ∧ Srt w0 blk ok d2 wr) (fun x y _ => (intOf y + 1 - intOf x).toNat)
              case atStart => exact ⟨i + 1, q - 1, swp d1 i q, by go_num, by go_num, by omega, by omega, by omega, by rw [Go.Sort.size_swp]; exact hds0, hid (by rw [HR.out, HST.out, if_neg hgt]), HSY.out⟩
              case round =>
                clear HSY HSw HSu HSv HI HJ HNI HNJ HST htu htd hgt k0 hlt hi1 hi2 hq1 hq2
                obtain ⟨i0, j, d2, rfl, rfl, hi0, hij, hjb, hds2, htl, hs⟩ := hrel
                have HSl := hid hs
                clear hs
                go_wp2
                go_loopw [12] (fun x wr => ∃ i : Nat, x = .int .i64 (i : Nat) ∧ i0 ≤ i ∧ i ≤ j + 1 ∧ Hid (scanUp (pU c d2 a) d2 (j) i = scanUp (pU c d2 a) d2 (j) (i0)) ∧ Srt w0 blk ok d2 wr) (fun x _ => j + 2 - (intOf x).toNat)
                case atStart => exact ⟨i0, by go_num, by omega, by omega, rfl, HSl.out⟩
                case round =>
                  obtain ⟨i, rfl, hi1, hi2, htu, hs⟩ := hrel
                  have HSu := hid hs
                  clear hs
                  go_upto_region 13 with (fail)
                  refine wp_flow (fun _ => none) (Fa.eq (.int .i64 ((i : Nat))) :: Fa.eq (.int .i64 ((j : Nat))) :: Fa.eq (.bool (decide (((i : Nat)) ≤ ((j : Nat))))) :: Fa.eq (.bool (decide (((i : Nat)) ≤ ((j : Nat))))) :: Fa.eq (gd (decide (((i : Nat)) ≤ ((j : Nat)))) (.func (.func 59) #[recv] #[])) :: Fa.eq (gd (decide (((i : Nat)) ≤ ((j : Nat)))) (.slice (some ⟨blk, 0, none⟩) n cap)) :: Fa.eq (gd (decide (((i : Nat)) ≤ ((j : Nat)))) (.int .i64 ((i : Nat)))) :: Fa.eq (gd (decide (((i : Nat)) ≤ ((j : Nat)))) (.pointer (some ⟨blk, i, none⟩))) :: Fa.eq (gd (decide (((i : Nat)) ≤ ((j : Nat)))) (.int .i64 (gA d2 (i) : Nat))) :: Fa.eq (gd (decide (((i : Nat)) ≤ ((j : Nat)))) (.slice (some ⟨blk, 0, none⟩) n cap)) :: Fa.eq (gd (decide (((i : Nat)) ≤ ((j : Nat)))) (.int .i64 ((a : Nat)))) :: Fa.eq (gd (decide (((i : Nat)) ≤ ((j : Nat)))) (.pointer (some ⟨blk, a, none⟩))) :: Fa.eq (gd (decide (((i : Nat)) ≤ ((j : Nat)))) (.int .i64 (gA d2 (a) : Nat))) :: Fa.eq (gd (decide (((i : Nat)) ≤ ((j : Nat)))) (.int .i64 (c (gA d2 (i)) (gA d2 (a))))) :: Fa.eq (gd (decide (((i : Nat)) ≤ ((j : Nat)))) (.bool (decide ((c (gA d2 (i)) (gA d2 (a))) < (0))))) :: Fa.eq (.bool ((decide (((i : Nat)) ≤ ((j : Nat)))) && (decide ((c (gA d2 (i)) (gA d2 (a))) < (0))))) :: []) 178 (by kernel_rfl) rfl (by kernel_rfl) rfl (by kernel_rfl) ?_ ?_ ?_
                  · exact fits_plain _ _ rfl
                  · refine ⟨?_, ?_, ?_, ?_, ?_, ?_, ?_, ?_, ?_, ?_, ?_, ?_, ?_, ?_, ?_, ?_, trivial⟩
                    · exact v_move (.inl rfl) rfl (by kernel_rfl) True.intro (Ev.out (by kernel_rfl) rfl)
                    · exact v_move (.inl rfl) rfl (by kernel_rfl) True.intro (Ev.out (by kernel_rfl) rfl)
                    · exact v_bin (u := .int .i64 ((i : Nat))) (v := .int .i64 ((j : Nat))) (c := .bool (decide (((i : Nat)) ≤ ((j : Nat))))) rfl (fun w => (by go_simp)) rfl (by kernel_rfl) True.intro (Ev.at (i := 0) (by kernel_rfl) (by kernel_rfl) rfl) (Ev.at (i := 1) (by kernel_rfl) (by kernel_rfl) rfl)
                    · exact v_move (.inl rfl) rfl (by kernel_rfl) True.intro (Ev.at (i := 2) (by kernel_rfl) (by kernel_rfl) rfl)
                    · exact flow_gd (decide (((i : Nat)) ≤ ((j : Nat)))) (.func (.func 59) #[recv] #[]) 3 true (.bool (decide (((i : Nat)) ≤ ((j : Nat))))) rfl (by kernel_rfl) rfl gu_t rfl (fun hg hF hj => v_move (.inl rfl) hF (by kernel_rfl) (guard_of rfl (by kernel_rfl) (by kernel_rfl) hj) (Ev.out (by kernel_rfl) rfl))
                    · exact flow_gd (decide (((i : Nat)) ≤ ((j : Nat)))) (.slice (some ⟨blk, 0, none⟩) n cap) 3 true (.bool (decide (((i : Nat)) ≤ ((j : Nat))))) rfl (by kernel_rfl) rfl gu_t rfl (fun hg hF hj => v_move (.inl rfl) hF (by kernel_rfl) (guard_of rfl (by kernel_rfl) (by kernel_rfl) hj) (Ev.out (by kernel_rfl) rfl))
                    · exact flow_gd (decide (((i : Nat)) ≤ ((j : Nat)))) (.int .i64 ((i : Nat))) 3 true (.bool (decide (((i : Nat)) ≤ ((j : Nat))))) rfl (by kernel_rfl) rfl gu_t rfl (fun hg hF hj => v_move (.inl rfl) hF (by kernel_rfl) (guard_of rfl (by kernel_rfl) (by kernel_rfl) hj) (Ev.out (by kernel_rfl) rfl))
                    · exact flow_gd (decide (((i : Nat)) ≤ ((j : Nat)))) (.pointer (some ⟨blk, i, none⟩)) 3 true (.bool (decide (((i : Nat)) ≤ ((j : Nat))))) rfl (by kernel_rfl) rfl gu_t rfl (fun hg hF hj => v_iaddr (u := .slice (some ⟨blk, 0, none⟩) n cap) (v := .int .i64 ((i : Nat))) (c := .pointer (some ⟨blk, i, none⟩)) rfl (fun w => idx_int (by have := of_decide_eq_true hg; omega) (rfl) w) hF (by kernel_rfl) (guard_of rfl (by kernel_rfl) (by kernel_rfl) hj) (Ev.at (i := 5) (by kernel_rfl) (by kernel_rfl) (fe rfl (gd_t hg))) (Ev.at (i := 6) (by kernel_rfl) (by kernel_rfl) (fe rfl (gd_t hg))))
                    · exact flow_gd (decide (((i : Nat)) ≤ ((j : Nat)))) (.int .i64 (gA d2 (i) : Nat)) 3 true (.bool (decide (((i : Nat)) ≤ ((j : Nat))))) rfl (by kernel_rfl) rfl gu_t rfl (fun hg hF hj => v_load (u := .pointer (some ⟨blk, i, none⟩)) (c := .int .i64 (gA d2 (i) : Nat)) rfl (fun w hB => ld_int ((HSu.out.dr).later hB) (by have := of_decide_eq_true hg; omega)) hF (by kernel_rfl) (guard_of rfl (by kernel_rfl) (by kernel_rfl) hj) (Ev.at (i := 7) (by kernel_rfl) (by kernel_rfl) (fe rfl (gd_t hg))))
                    · exact flow_gd (decide (((i : Nat)) ≤ ((j : Nat)))) (.slice (some ⟨blk, 0, none⟩) n cap) 3 true (.bool (decide (((i : Nat)) ≤ ((j : Nat))))) rfl (by kernel_rfl) rfl gu_t rfl (fun hg hF hj => v_move (.inl rfl) hF (by kernel_rfl) (guard_of rfl (by kernel_rfl) (by kernel_rfl) hj) (Ev.out (by kernel_rfl) rfl))
                    · exact flow_gd (decide (((i : Nat)) ≤ ((j : Nat)))) (.int .i64 ((a : Nat))) 3 true (.bool (decide (((i : Nat)) ≤ ((j : Nat))))) rfl (by kernel_rfl) rfl gu_t rfl (fun hg hF hj => v_move (.inl rfl) hF (by kernel_rfl) (guard_of rfl (by kernel_rfl) (by kernel_rfl) hj) (Ev.out (by kernel_rfl) rfl))
                    · exact flow_gd (decide (((i : Nat)) ≤ ((j : Nat)))) (.pointer (some ⟨blk, a, none⟩)) 3 true (.bool (decide (((i : Nat)) ≤ ((j : Nat))))) rfl (by kernel_rfl) rfl gu_t rfl (fun hg hF hj => v_iaddr (u := .slice (some ⟨blk, 0, none⟩) n cap) (v := .int .i64 ((a : Nat))) (c := .pointer (some ⟨blk, a, none⟩)) rfl (fun w => idx_int (by omega) (rfl) w) hF (by kernel_rfl) (guard_of rfl (by kernel_rfl) (by kernel_rfl) hj) (Ev.at (i := 9) (by kernel_rfl) (by kernel_rfl) (fe rfl (gd_t hg))) (Ev.at (i := 10) (by kernel_rfl) (by kernel_rfl) (fe rfl (gd_t hg))))
                    · exact flow_gd (decide (((i : Nat)) ≤ ((j : Nat)))) (.int .i64 (gA d2 (a) : Nat)) 3 true (.bool (decide (((i : Nat)) ≤ ((j : Nat))))) rfl (by kernel_rfl) rfl gu_t rfl (fun hg hF hj => v_load (u := .pointer (some ⟨blk, a, none⟩)) (c := .int .i64 (gA d2 (a) : Nat)) rfl (fun w hB => ld_int ((HSu.out.dr).later hB) (by omega)) hF (by kernel_rfl) (guard_of rfl (by kernel_rfl) (by kernel_rfl) hj) (Ev.at (i := 11) (by kernel_rfl) (by kernel_rfl) (fe rfl (gd_t hg))))
                    · exact flow_gd (decide (((i : Nat)) ≤ ((j : Nat)))) (.int .i64 (c (gA d2 (i)) (gA d2 (a)))) 3 true (.bool (decide (((i : Nat)) ≤ ((j : Nat))))) rfl (by kernel_rfl) rfl gu_t rfl (fun hg hF hj => v_callv (f := 59) (pre := #[recv]) (vs := #[.int .i64 (gA d2 (i) : Nat), .int .i64 (gA d2 (a) : Nat)]) (c := .int .i64 (c (gA d2 (i)) (gA d2 (a)))) rfl (fun args w => rfl) (fun w hB => (HC.out.call _ ((HSu.out.dr).later hB).below _ _ (((HSu.out.dr).later hB).ok _ (by have := of_decide_eq_true hg; omega)) (((HSu.out.dr).later hB).ok _ (by omega)))) hF (by kernel_rfl) (guard_of rfl (by kernel_rfl) (by kernel_rfl) hj) (Ev.at (i := 4) (by kernel_rfl) (by kernel_rfl) (fe rfl (gd_t hg))) (ev2 (Ev.at (i := 8) (by kernel_rfl) (by kernel_rfl) (fe rfl (gd_t hg))) (Ev.at (i := 12) (by kernel_rfl) (by kernel_rfl) (fe rfl (gd_t hg)))))
                    · exact flow_gd (decide (((i : Nat)) ≤ ((j : Nat)))) (.bool (decide ((c (gA d2 (i)) (gA d2 (a))) < (0)))) 3 true (.bool (decide (((i : Nat)) ≤ ((j : Nat))))) rfl (by kernel_rfl) rfl gu_t rfl (fun hg hF hj => v_bin (u := .int .i64 (c (gA d2 (i)) (gA d2 (a)))) (v := .int .i64 (0)) (c := .bool (decide ((c (gA d2 (i)) (gA d2 (a))) < (0)))) rfl (fun w => (by go_simp)) hF (by kernel_rfl) (guard_of rfl (by kernel_rfl) (by kernel_rfl) hj) (Ev.at (i := 13) (by kernel_rfl) (by kernel_rfl) (fe rfl (gd_t hg))) Ev.const)
                    · exact v_and (p := decide (((i : Nat)) ≤ ((j : Nat)))) (q := decide ((c (gA d2 (i)) (gA d2 (a))) < (0))) rfl rfl (by kernel_rfl) True.intro (Ev.at (i := 3) (by kernel_rfl) (by kernel_rfl) rfl) (fun hp => (Ev.at (i := 14) (by kernel_rfl) (by kernel_rfl) (fe rfl (gd_t hp))))
                  intro _ vs wu hBu hf
                  have e0 : vs 0 = .int .i64 ((i : Nat)) := hf 0 (by decide)
                  have e1 : vs 1 = .int .i64 ((j : Nat)) := hf 1 (by decide)
                  have e2 : vs 2 = .bool (decide (((i : Nat)) ≤ ((j : Nat)))) := hf 2 (by decide)
                  have e3 : vs 3 = .bool (decide (((i : Nat)) ≤ ((j : Nat)))) := hf 3 (by decide)
                  have e4 : vs 4 = gd (decide (((i : Nat)) ≤ ((j : Nat)))) (.func (.func 59) #[recv] #[]) := hf 4 (by decide)
                  have e5 : vs 5 = gd (decide (((i : Nat)) ≤ ((j : Nat)))) (.slice (some ⟨blk, 0, none⟩) n cap) := hf 5 (by decide)
                  have e6 : vs 6 = gd (decide (((i : Nat)) ≤ ((j : Nat)))) (.int .i64 ((i : Nat))) := hf 6 (by decide)
                  have e7 : vs 7 = gd (decide (((i : Nat)) ≤ ((j : Nat)))) (.pointer (some ⟨blk, i, none⟩)) := hf 7 (by decide)
                  have e8 : vs 8 = gd (decide (((i : Nat)) ≤ ((j : Nat)))) (.int .i64 (gA d2 (i) : Nat)) := hf 8 (by decide)
                  have e9 : vs 9 = gd (decide (((i : Nat)) ≤ ((j : Nat)))) (.slice (some ⟨blk, 0, none⟩) n cap) := hf 9 (by decide)
                  have e10 : vs 10 = gd (decide (((i : Nat)) ≤ ((j : Nat)))) (.int .i64 ((a : Nat))) := hf 10 (by decide)
                  have e11 : vs 11 = gd (decide (((i : Nat)) ≤ ((j : Nat)))) (.pointer (some ⟨blk, a, none⟩)) := hf 11 (by decide)
                  have e12 : vs 12 = gd (decide (((i : Nat)) ≤ ((j : Nat)))) (.int .i64 (gA d2 (a) : Nat)) := hf 12 (by decide)
                  have e13 : vs 13 = gd (decide (((i : Nat)) ≤ ((j : Nat)))) (.int .i64 (c (gA d2 (i)) (gA d2 (a)))) := hf 13 (by decide)
                  have e14 : vs 14 = gd (decide (((i : Nat)) ≤ ((j : Nat)))) (.bool (decide ((c (gA d2 (i)) (gA d2 (a))) < (0)))) := hf 14 (by decide)
                  have e15 : vs 15 = .bool ((decide (((i : Nat)) ≤ ((j : Nat)))) && (decide ((c (gA d2 (i)) (gA d2 (a))) < (0)))) := hf 15 (by decide)
                  obtain ⟨z, hz⟩ : ∃ z : Bool, ((decide (((i : Nat)) ≤ ((j : Nat)))) && (decide ((c (gA d2 (i)) (gA d2 (a))) < (0)))) = z := ⟨_, rfl⟩
                  rw [hz] at e15
                  have HZ := hid hz
                  clear hz
                  simp only [fill, List.setIfInBounds_toArray, List.set_cons_zero, List.set_cons_succ, e0, e1, e2, e3, e4, e5, e6, e7, e8, e9, e10, e11, e12, e13, e14, e15]
                  clear e0 e1 e2 e3 e4 e5 e6 e7 e8 e9 e10 e11 e12 e13 e14 e15
                  have HSv := hid (HSu.out.later hBu)
                  have hz := HZ.out
                  clear hBu hf HZ
                  cases z
                  · have hst := up_stop (p := pU c d2 a) (d := d2) (i := i) (j := j) (by
                      rw [Bool.and_eq_false_iff] at hz
                      rcases hz with hz | hz
                      · left; have := of_decide_eq_false hz; omega
                      · exact .inr hz)
                    have HNI := hid (show ¬ i ≤ j ∨ ltC c (gA d2 i) (gA d2 a) = false by
                      rw [Bool.and_eq_false_iff] at hz
                      rcases hz with hz | hz
                      · left; have := of_decide_eq_false hz; omega
                      · exact .inr hz)
                    have HI := hid (htu.out.symm.trans hst)
                    clear hz hst
                    go_wp2
                    go_loopw [13] (fun x wr => ∃ q : Nat, x = .int .i64 (q : Nat) ∧ q ≤ j ∧ i ≤ q + 1 ∧ Hid (scanDown (pD c d2 a) d2 i q = scanDown (pD c d2 a) d2 i (j)) ∧ Srt w0 blk ok d2 wr) (fun x _ => (intOf x).toNat)
                    case atStart => exact ⟨j, by go_num, by omega, by omega, rfl, HSv.out⟩
                    case round =>
                      obtain ⟨q, rfl, hq1, hq2, htd, hs⟩ := hrel
                      have HSu2 := hid hs
                      clear hs
                      go_upto_region 15 with (fail)
                      refine wp_flow (fun _ => none) (Fa.eq (.int .i64 ((i : Nat))) :: Fa.eq (.int .i64 ((q : Nat))) :: Fa.eq (.bool (decide (((i : Nat)) ≤ ((q : Nat))))) :: Fa.eq (.bool (decide (((i : Nat)) ≤ ((q : Nat))))) :: Fa.eq (gd (decide (((i : Nat)) ≤ ((q : Nat)))) (.func (.func 59) #[recv] #[])) :: Fa.eq (gd (decide (((i : Nat)) ≤ ((q : Nat)))) (.slice (some ⟨blk, 0, none⟩) n cap)) :: Fa.eq (gd (decide (((i : Nat)) ≤ ((q : Nat)))) (.int .i64 ((q : Nat)))) :: Fa.eq (gd (decide (((i : Nat)) ≤ ((q : Nat)))) (.pointer (some ⟨blk, q, none⟩))) :: Fa.eq (gd (decide (((i : Nat)) ≤ ((q : Nat)))) (.int .i64 (gA d2 (q) : Nat))) :: Fa.eq (gd (decide (((i : Nat)) ≤ ((q : Nat)))) (.slice (some ⟨blk, 0, none⟩) n cap)) :: Fa.eq (gd (decide (((i : Nat)) ≤ ((q : Nat)))) (.int .i64 ((a : Nat)))) :: Fa.eq (gd (decide (((i : Nat)) ≤ ((q : Nat)))) (.pointer (some ⟨blk, a, none⟩))) :: Fa.eq (gd (decide (((i : Nat)) ≤ ((q : Nat)))) (.int .i64 (gA d2 (a) : Nat))) :: Fa.eq (gd (decide (((i : Nat)) ≤ ((q : Nat)))) (.int .i64 (c (gA d2 (q)) (gA d2 (a))))) :: Fa.eq (gd (decide (((i : Nat)) ≤ ((q : Nat)))) (.bool (decide ((c (gA d2 (q)) (gA d2 (a))) < (0))))) :: Fa.eq (gd (decide (((i : Nat)) ≤ ((q : Nat)))) (.bool (!(decide ((c (gA d2 (q)) (gA d2 (a))) < (0)))))) :: Fa.eq (.bool ((decide (((i : Nat)) ≤ ((q : Nat)))) && (!(decide ((c (gA d2 (q)) (gA d2 (a))) < (0)))))) :: []) 178 (by kernel_rfl) rfl (by kernel_rfl) rfl (by kernel_rfl) ?_ ?_ ?_
                      · exact fits_plain _ _ rfl
                      · refine ⟨?_, ?_, ?_, ?_, ?_, ?_, ?_, ?_, ?_, ?_, ?_, ?_, ?_, ?_, ?_, ?_, ?_, trivial⟩
                        · exact v_move (.inl rfl) rfl (by kernel_rfl) True.intro (Ev.out (by kernel_rfl) rfl)
                        · exact v_move (.inl rfl) rfl (by kernel_rfl) True.intro (Ev.out (by kernel_rfl) rfl)
                        · exact v_bin (u := .int .i64 ((i : Nat))) (v := .int .i64 ((q : Nat))) (c := .bool (decide (((i : Nat)) ≤ ((q : Nat))))) rfl (fun w => (by go_simp)) rfl (by kernel_rfl) True.intro (Ev.at (i := 0) (by kernel_rfl) (by kernel_rfl) rfl) (Ev.at (i := 1) (by kernel_rfl) (by kernel_rfl) rfl)
                        · exact v_move (.inl rfl) rfl (by kernel_rfl) True.intro (Ev.at (i := 2) (by kernel_rfl) (by kernel_rfl) rfl)
                        · exact flow_gd (decide (((i : Nat)) ≤ ((q : Nat)))) (.func (.func 59) #[recv] #[]) 3 true (.bool (decide (((i : Nat)) ≤ ((q : Nat))))) rfl (by kernel_rfl) rfl gu_t rfl (fun hg hF hj => v_move (.inl rfl) hF (by kernel_rfl) (guard_of rfl (by kernel_rfl) (by kernel_rfl) hj) (Ev.out (by kernel_rfl) rfl))
                        · exact flow_gd (decide (((i : Nat)) ≤ ((q : Nat)))) (.slice (some ⟨blk, 0, none⟩) n cap) 3 true (.bool (decide (((i : Nat)) ≤ ((q : Nat))))) rfl (by kernel_rfl) rfl gu_t rfl (fun hg hF hj => v_move (.inl rfl) hF (by kernel_rfl) (guard_of rfl (by kernel_rfl) (by kernel_rfl) hj) (Ev.out (by kernel_rfl) rfl))
                        · exact flow_gd (decide (((i : Nat)) ≤ ((q : Nat)))) (.int .i64 ((q : Nat))) 3 true (.bool (decide (((i : Nat)) ≤ ((q : Nat))))) rfl (by kernel_rfl) rfl gu_t rfl (fun hg hF hj => v_move (.inl rfl) hF (by kernel_rfl) (guard_of rfl (by kernel_rfl) (by kernel_rfl) hj) (Ev.out (by kernel_rfl) rfl))
                        · exact flow_gd (decide (((i : Nat)) ≤ ((q : Nat)))) (.pointer (some ⟨blk, q, none⟩)) 3 true (.bool (decide (((i : Nat)) ≤ ((q : Nat))))) rfl (by kernel_rfl) rfl gu_t rfl (fun hg hF hj => v_iaddr (u := .slice (some ⟨blk, 0, none⟩) n cap) (v := .int .i64 ((q : Nat))) (c := .pointer (some ⟨blk, q, none⟩)) rfl (fun w => idx_int (by have := of_decide_eq_true hg; omega) (rfl) w) hF (by kernel_rfl) (guard_of rfl (by kernel_rfl) (by kernel_rfl) hj) (Ev.at (i := 5) (by kernel_rfl) (by kernel_rfl) (fe rfl (gd_t hg))) (Ev.at (i := 6) (by kernel_rfl) (by kernel_rfl) (fe rfl (gd_t hg))))
                        · exact flow_gd (decide (((i : Nat)) ≤ ((q : Nat)))) (.int .i64 (gA d2 (q) : Nat)) 3 true (.bool (decide (((i : Nat)) ≤ ((q : Nat))))) rfl (by kernel_rfl) rfl gu_t rfl (fun hg hF hj => v_load (u := .pointer (some ⟨blk, q, none⟩)) (c := .int .i64 (gA d2 (q) : Nat)) rfl (fun w hB => ld_int ((HSu2.out.dr).later hB) (by have := of_decide_eq_true hg; omega)) hF (by kernel_rfl) (guard_of rfl (by kernel_rfl) (by kernel_rfl) hj) (Ev.at (i := 7) (by kernel_rfl) (by kernel_rfl) (fe rfl (gd_t hg))))
                        · exact flow_gd (decide (((i : Nat)) ≤ ((q : Nat)))) (.slice (some ⟨blk, 0, none⟩) n cap) 3 true (.bool (decide (((i : Nat)) ≤ ((q : Nat))))) rfl (by kernel_rfl) rfl gu_t rfl (fun hg hF hj => v_move (.inl rfl) hF (by kernel_rfl) (guard_of rfl (by kernel_rfl) (by kernel_rfl) hj) (Ev.out (by kernel_rfl) rfl))
                        · exact flow_gd (decide (((i : Nat)) ≤ ((q : Nat)))) (.int .i64 ((a : Nat))) 3 true (.bool (decide (((i : Nat)) ≤ ((q : Nat))))) rfl (by kernel_rfl) rfl gu_t rfl (fun hg hF hj => v_move (.inl rfl) hF (by kernel_rfl) (guard_of rfl (by kernel_rfl) (by kernel_rfl) hj) (Ev.out (by kernel_rfl) rfl))
                        · exact flow_gd (decide (((i : Nat)) ≤ ((q : Nat)))) (.pointer (some ⟨blk, a, none⟩)) 3 true (.bool (decide (((i : Nat)) ≤ ((q : Nat))))) rfl (by kernel_rfl) rfl gu_t rfl (fun hg hF hj => v_iaddr (u := .slice (some ⟨blk, 0, none⟩) n cap) (v := .int .i64 ((a : Nat))) (c := .pointer (some ⟨blk, a, none⟩)) rfl (fun w => idx_int (by omega) (rfl) w) hF (by kernel_rfl) (guard_of rfl (by kernel_rfl) (by kernel_rfl) hj) (Ev.at (i := 9) (by kernel_rfl) (by kernel_rfl) (fe rfl (gd_t hg))) (Ev.at (i := 10) (by kernel_rfl) (by kernel_rfl) (fe rfl (gd_t hg))))
                        · exact flow_gd (decide (((i : Nat)) ≤ ((q : Nat)))) (.int .i64 (gA d2 (a) : Nat)) 3 true (.bool (decide (((i : Nat)) ≤ ((q : Nat))))) rfl (by kernel_rfl) rfl gu_t rfl (fun hg hF hj => v_load (u := .pointer (some ⟨blk, a, none⟩)) (c := .int .i64 (gA d2 (a) : Nat)) rfl (fun w hB => ld_int ((HSu2.out.dr).later hB) (by omega)) hF (by kernel_rfl) (guard_of rfl (by kernel_rfl) (by kernel_rfl) hj) (Ev.at (i := 11) (by kernel_rfl) (by kernel_rfl) (fe rfl (gd_t hg))))
                        · exact flow_gd (decide (((i : Nat)) ≤ ((q : Nat)))) (.int .i64 (c (gA d2 (q)) (gA d2 (a)))) 3 true (.bool (decide (((i : Nat)) ≤ ((q : Nat))))) rfl (by kernel_rfl) rfl gu_t rfl (fun hg hF hj => v_callv (f := 59) (pre := #[recv]) (vs := #[.int .i64 (gA d2 (q) : Nat), .int .i64 (gA d2 (a) : Nat)]) (c := .int .i64 (c (gA d2 (q)) (gA d2 (a)))) rfl (fun args w => rfl) (fun w hB => (HC.out.call _ ((HSu2.out.dr).later hB).below _ _ (((HSu2.out.dr).later hB).ok _ (by have := of_decide_eq_true hg; omega)) (((HSu2.out.dr).later hB).ok _ (by omega)))) hF (by kernel_rfl) (guard_of rfl (by kernel_rfl) (by kernel_rfl) hj) (Ev.at (i := 4) (by kernel_rfl) (by kernel_rfl) (fe rfl (gd_t hg))) (ev2 (Ev.at (i := 8) (by kernel_rfl) (by kernel_rfl) (fe rfl (gd_t hg))) (Ev.at (i := 12) (by kernel_rfl) (by kernel_rfl) (fe rfl (gd_t hg)))))
                        · exact flow_gd (decide (((i : Nat)) ≤ ((q : Nat)))) (.bool (decide ((c (gA d2 (q)) (gA d2 (a))) < (0)))) 3 true (.bool (decide (((i : Nat)) ≤ ((q : Nat))))) rfl (by kernel_rfl) rfl gu_t rfl (fun hg hF hj => v_bin (u := .int .i64 (c (gA d2 (q)) (gA d2 (a)))) (v := .int .i64 (0)) (c := .bool (decide ((c (gA d2 (q)) (gA d2 (a))) < (0)))) rfl (fun w => (by go_simp)) hF (by kernel_rfl) (guard_of rfl (by kernel_rfl) (by kernel_rfl) hj) (Ev.at (i := 13) (by kernel_rfl) (by kernel_rfl) (fe rfl (gd_t hg))) Ev.const)
                        · exact flow_gd (decide (((i : Nat)) ≤ ((q : Nat)))) (.bool (!(decide ((c (gA d2 (q)) (gA d2 (a))) < (0))))) 3 true (.bool (decide (((i : Nat)) ≤ ((q : Nat))))) rfl (by kernel_rfl) rfl gu_t rfl (fun hg hF hj => v_not rfl hF (by kernel_rfl) (guard_of rfl (by kernel_rfl) (by kernel_rfl) hj) (Ev.at (i := 14) (by kernel_rfl) (by kernel_rfl) (fe rfl (gd_t hg))))
                        · exact v_and (p := decide (((i : Nat)) ≤ ((q : Nat)))) (q := !(decide ((c (gA d2 (q)) (gA d2 (a))) < (0)))) rfl rfl (by kernel_rfl) True.intro (Ev.at (i := 3) (by kernel_rfl) (by kernel_rfl) rfl) (fun hp => (Ev.at (i := 15) (by kernel_rfl) (by kernel_rfl) (fe rfl (gd_t hp))))
                      intro _ vs wv hBv hf
                      have e0 : vs 0 = .int .i64 ((i : Nat)) := hf 0 (by decide)
                      have e1 : vs 1 = .int .i64 ((q : Nat)) := hf 1 (by decide)
                      have e2 : vs 2 = .bool (decide (((i : Nat)) ≤ ((q : Nat)))) := hf 2 (by decide)
                      have e3 : vs 3 = .bool (decide (((i : Nat)) ≤ ((q : Nat)))) := hf 3 (by decide)
                      have e4 : vs 4 = gd (decide (((i : Nat)) ≤ ((q : Nat)))) (.func (.func 59) #[recv] #[]) := hf 4 (by decide)
                      have e5 : vs 5 = gd (decide (((i : Nat)) ≤ ((q : Nat)))) (.slice (some ⟨blk, 0, none⟩) n cap) := hf 5 (by decide)
                      have e6 : vs 6 = gd (decide (((i : Nat)) ≤ ((q : Nat)))) (.int .i64 ((q : Nat))) := hf 6 (by decide)
                      have e7 : vs 7 = gd (decide (((i : Nat)) ≤ ((q : Nat)))) (.pointer (some ⟨blk, q, none⟩)) := hf 7 (by decide)
                      have e8 : vs 8 = gd (decide (((i : Nat)) ≤ ((q : Nat)))) (.int .i64 (gA d2 (q) : Nat)) := hf 8 (by decide)
                      have e9 : vs 9 = gd (decide (((i : Nat)) ≤ ((q : Nat)))) (.slice (some ⟨blk, 0, none⟩) n cap) := hf 9 (by decide)
                      have e10 : vs 10 = gd (decide (((i : Nat)) ≤ ((q : Nat)))) (.int .i64 ((a : Nat))) := hf 10 (by decide)
                      have e11 : vs 11 = gd (decide (((i : Nat)) ≤ ((q : Nat)))) (.pointer (some ⟨blk, a, none⟩)) := hf 11 (by decide)
                      have e12 : vs 12 = gd (decide (((i : Nat)) ≤ ((q : Nat)))) (.int .i64 (gA d2 (a) : Nat)) := hf 12 (by decide)
                      have e13 : vs 13 = gd (decide (((i : Nat)) ≤ ((q : Nat)))) (.int .i64 (c (gA d2 (q)) (gA d2 (a)))) := hf 13 (by decide)
                      have e14 : vs 14 = gd (decide (((i : Nat)) ≤ ((q : Nat)))) (.bool (decide ((c (gA d2 (q)) (gA d2 (a))) < (0)))) := hf 14 (by decide)
                      have e15 : vs 15 = gd (decide (((i : Nat)) ≤ ((q : Nat)))) (.bool (!(decide ((c (gA d2 (q)) (gA d2 (a))) < (0))))) := hf 15 (by decide)
                      have e16 : vs 16 = .bool ((decide (((i : Nat)) ≤ ((q : Nat)))) && (!(decide ((c (gA d2 (q)) (gA d2 (a))) < (0))))) := hf 16 (by decide)
                      obtain ⟨z, hz⟩ : ∃ z : Bool, ((decide (((i : Nat)) ≤ ((q : Nat)))) && (!(decide ((c (gA d2 (q)) (gA d2 (a))) < (0))))) = z := ⟨_, rfl⟩
                      rw [hz] at e16
                      have HZ := hid hz
                      clear hz
                      simp only [fill, List.setIfInBounds_toArray, List.set_cons_zero, List.set_cons_succ, e0, e1, e2, e3, e4, e5, e6, e7, e8, e9, e10, e11, e12, e13, e14, e15, e16]
                      clear e0 e1 e2 e3 e4 e5 e6 e7 e8 e9 e10 e11 e12 e13 e14 e15 e16
                      have HSw := hid (HSu2.out.later hBv)
                      have hz := HZ.out
                      clear hBv hf HZ
                      cases z
                      · have hst := down_stop (p := pD c d2 a) (d := d2) (i := i) (j := q) (by
                          rw [Bool.and_eq_false_iff] at hz
                          rcases hz with hz | hz
                          · left; have := of_decide_eq_false hz; omega
                          · exact .inr hz)
                        have HNJ := hid (show ¬ i ≤ q ∨ ltC c (gA d2 q) (gA d2 a) = true by
                          rw [Bool.and_eq_false_iff] at hz
                          rcases hz with hz | hz
                          · left; have := of_decide_eq_false hz; omega
                          · right; simpa [ltC] using hz)
                        have HJ := hid (htd.out.symm.trans hst)
                        clear hz hst
                        have HST := hid (part_step (c := c) (a := a) (i := i0) (j := j) (d := d2) HI.out HJ.out)
                        by_cases hgt : i > q
                        · have k0 : decide ((q : Int) < (i : Int)) = true := decide_eq_true (by omega)
                          have c0 := HSw.out.cell (i := q) (by omega)
                          have c1 := HSw.out.cell (i := a) (by omega)
                          have f0 := HSw.out.free q
                          have f1 := HSw.out.free a
                          have q2 : (q : Int) < (n : Int) := by omega
                          have HFS := hid (HSw.out.swap (i := q) (j := a) (by omega) (by omega))
                          have HRE := hid (show R = (q, d2) by rw [← htl.out, HST.out, if_pos hgt])
                          go_wp2
                          rcases (show q = a ∨ q ≠ a by omega) with hqa | hqa
                          · subst hqa
                            go_region
                            go_wp2
                            go_ret2
                            refine ⟨_, by rw [HRE.out]; rfl, ?_⟩
                            rw [HRE.out]
                            exact HFS.out.dr
                          · go_region
                            go_wp2
                            go_ret2
                            refine ⟨_, by rw [HRE.out]; rfl, ?_⟩
                            rw [HRE.out]
                            exact HFS.out.dr
                        · have k0 : decide ((q : Int) < (i : Int)) = false := decide_eq_false (by omega)
                          have hlt : i < q := by
                            rcases HNI.out with h | h
                            · omega
                            · rcases HNJ.out with h' | h'
                              · omega
                              · rcases Nat.lt_or_eq_of_le (show i ≤ q by omega) with h2 | h2
                                · exact h2
                                · subst h2; rw [h] at h'; cases h'
                          have c0 := HSw.out.cell (i := i) (by omega)
                          have c1 := HSw.out.cell (i := q) (by omega)
                          have f0 := HSw.out.free i
                          have f1 := HSw.out.free q
                          have q2 : (i : Int) < (n : Int) := by omega
                          have q3 : (q : Int) < (n : Int) := by omega
                          have hne2 : i ≠ q := by omega
                          have q4 : (q : Int) - 1 = ((q - 1 : Nat) : Int) := by omega
                          have HSX := hid (HSw.out.swap (i := i) (j := q) (by omega) (by omega))
                          go_wp2
                          go_region
                          go_wp2
                          go_roundw
                          case rel => exact ⟨i + 1, q - 1, swp d2 i q, by go_num, by go_num, by omega, by omega, by omega, by rw [Go.Sort.size_swp]; exact hds2, hid (by rw [← htl.out, HST.out, if_neg hgt]), HSX.out.dr⟩
                          case measure => simp [intOf]; omega
                      · rw [Bool.and_eq_true, decide_eq_true_eq] at hz
                        have hij : i ≤ q := by omega
                        have HT := hid (htd.out.symm.trans (down_go (p := pD c d2 a) (d := d2) (by omega) hij hz.2))
                        clear hz
                        go_wp2
                        go_roundw
                        case rel => exact ⟨q - 1, by go_num, by omega, by omega, hid HT.out.symm, HSw.out⟩
                        case measure => simp [intOf]; omega
                  · rw [Bool.and_eq_true, decide_eq_true_eq] at hz
                    have hij : i ≤ j := by omega
                    have HT := hid (htu.out.symm.trans (up_go (p := pU c d2 a) (d := d2) hij hz.2))
                    clear hz
                    go_wp2
                    go_roundw
                    case rel => exact ⟨i + 1, by go_num, by omega, by omega, hid HT.out.symm, HSv.out⟩
                    case measure => simp [intOf]; omega
          · rw [Bool.and_eq_true, decide_eq_true_eq] at hz
            have hij : i ≤ q := by omega
            have HT := hid (htd.out.symm.trans (down_go (p := pD c d1 a) (d := d1) (by omega) hij hz.2))
            clear hz
            go_wp2
            go_roundw
            case rel => exact ⟨q - 1, by go_num, by omega, by omega, hid HT.out.symm, HSw.out⟩
            case measure => simp [intOf]; omega
      · rw [Bool.and_eq_true, decide_eq_true_eq] at hz
        have hij : i ≤ (b - 1) := by omega
        have HT := hid (htu.out.symm.trans (up_go (p := pU c d1 a) (d := d1) hij hz.2))
        clear hz
        go_wp2
        go_roundw
        case rel => exact ⟨i + 1, by go_num, by omega, by omega, hid HT.out.symm, HSv.out⟩
        case measure => simp [intOf]; omega
  · go_region
    refine gen_exit (fun W => Srt w0 blk ok d1 W) HS0.out.dr ?_
    intro W1 hs1
    have HS := hid hs1
    clear hs1 c0 c1 f0 f1 HS0
    go_wp2
    go_loopw [12] (fun x wr => ∃ i : Nat, x = .int .i64 (i : Nat) ∧ (a + 1) ≤ i ∧ i ≤ (b - 1) + 1 ∧ Hid (scanUp (pU c d1 a) d1 ((b - 1)) i = scanUp (pU c d1 a) d1 ((b - 1)) ((a + 1))) ∧ Srt w0 blk ok d1 wr) (fun x _ => (b - 1) + 2 - (intOf x).toNat)
    case atStart => exact ⟨(a + 1), by go_num, by omega, by omega, rfl, HS.out⟩
    case round =>
      obtain ⟨i, rfl, hi1, hi2, htu, hs⟩ := hrel
      have HSu := hid hs
      clear hs
      go_upto_region 3 with (fail)
      refine wp_flow (fun _ => none) (Fa.eq (.int .i64 ((i : Nat))) :: Fa.eq (.int .i64 (((b - 1) : Nat))) :: Fa.eq (.bool (decide (((i : Nat)) ≤ (((b - 1) : Nat))))) :: Fa.eq (.bool (decide (((i : Nat)) ≤ (((b - 1) : Nat))))) :: Fa.eq (gd (decide (((i : Nat)) ≤ (((b - 1) : Nat)))) (.func (.func 59) #[recv] #[])) :: Fa.eq (gd (decide (((i : Nat)) ≤ (((b - 1) : Nat)))) (.slice (some ⟨blk, 0, none⟩) n cap)) :: Fa.eq (gd (decide (((i : Nat)) ≤ (((b - 1) : Nat)))) (.int .i64 ((i : Nat)))) :: Fa.eq (gd (decide (((i : Nat)) ≤ (((b - 1) : Nat)))) (.pointer (some ⟨blk, i, none⟩))) :: Fa.eq (gd (decide (((i : Nat)) ≤ (((b - 1) : Nat)))) (.int .i64 (gA d1 (i) : Nat))) :: Fa.eq (gd (decide (((i : Nat)) ≤ (((b - 1) : Nat)))) (.slice (some ⟨blk, 0, none⟩) n cap)) :: Fa.eq (gd (decide (((i : Nat)) ≤ (((b - 1) : Nat)))) (.int .i64 ((a : Nat)))) :: Fa.eq (gd (decide (((i : Nat)) ≤ (((b - 1) : Nat)))) (.pointer (some ⟨blk, a, none⟩))) :: Fa.eq (gd (decide (((i : Nat)) ≤ (((b - 1) : Nat)))) (.int .i64 (gA d1 (a) : Nat))) :: Fa.eq (gd (decide (((i : Nat)) ≤ (((b - 1) : Nat)))) (.int .i64 (c (gA d1 (i)) (gA d1 (a))))) :: Fa.eq (gd (decide (((i : Nat)) ≤ (((b - 1) : Nat)))) (.bool (decide ((c (gA d1 (i)) (gA d1 (a))) < (0))))) :: Fa.eq (.bool ((decide (((i : Nat)) ≤ (((b - 1) : Nat)))) && (decide ((c (gA d1 (i)) (gA d1 (a))) < (0))))) :: []) 178 (by kernel_rfl) rfl (by kernel_rfl) rfl (by kernel_rfl) ?_ ?_ ?_
      · exact fits_plain _ _ rfl
      · refine ⟨?_, ?_, ?_, ?_, ?_, ?_, ?_, ?_, ?_, ?_, ?_, ?_, ?_, ?_, ?_, ?_, trivial⟩
        · exact v_move (.inl rfl) rfl (by kernel_rfl) True.intro (Ev.out (by kernel_rfl) rfl)
        · exact v_move (.inl rfl) rfl (by kernel_rfl) True.intro (Ev.out (by kernel_rfl) rfl)
        · exact v_bin (u := .int .i64 ((i : Nat))) (v := .int .i64 (((b - 1) : Nat))) (c := .bool (decide (((i : Nat)) ≤ (((b - 1) : Nat))))) rfl (fun w => (by go_simp)) rfl (by kernel_rfl) True.intro (Ev.at (i := 0) (by kernel_rfl) (by kernel_rfl) rfl) (Ev.at (i := 1) (by kernel_rfl) (by kernel_rfl) rfl)
        · exact v_move (.inl rfl) rfl (by kernel_rfl) True.intro (Ev.at (i := 2) (by kernel_rfl) (by kernel_rfl) rfl)
        · exact flow_gd (decide (((i : Nat)) ≤ (((b - 1) : Nat)))) (.func (.func 59) #[recv] #[]) 3 true (.bool (decide (((i : Nat)) ≤ (((b - 1) : Nat))))) rfl (by kernel_rfl) rfl gu_t rfl (fun hg hF hj => v_move (.inl rfl) hF (by kernel_rfl) (guard_of rfl (by kernel_rfl) (by kernel_rfl) hj) (Ev.out (by kernel_rfl) rfl))
        · exact flow_gd (decide (((i : Nat)) ≤ (((b - 1) : Nat)))) (.slice (some ⟨blk, 0, none⟩) n cap) 3 true (.bool (decide (((i : Nat)) ≤ (((b - 1) : Nat))))) rfl (by kernel_rfl) rfl gu_t rfl (fun hg hF hj => v_move (.inl rfl) hF (by kernel_rfl) (guard_of rfl (by kernel_rfl) (by kernel_rfl) hj) (Ev.out (by kernel_rfl) rfl))
        · exact flow_gd (decide (((i : Nat)) ≤ (((b - 1) : Nat)))) (.int .i64 ((i : Nat))) 3 true (.bool (decide (((i : Nat)) ≤ (((b - 1) : Nat))))) rfl (by kernel_rfl) rfl gu_t rfl (fun hg hF hj => v_move (.inl rfl) hF (by kernel_rfl) (guard_of rfl (by kernel_rfl) (by kernel_rfl) hj) (Ev.out (by kernel_rfl) rfl))
        · exact flow_gd (decide (((i : Nat)) ≤ (((b - 1) : Nat)))) (.pointer (some ⟨blk, i, none⟩)) 3 true (.bool (decide (((i : Nat)) ≤ (((b - 1) : Nat))))) rfl (by kernel_rfl) rfl gu_t rfl (fun hg hF hj => v_iaddr (u := .slice (some ⟨blk, 0, none⟩) n cap) (v := .int .i64 ((i : Nat))) (c := .pointer (some ⟨blk, i, none⟩)) rfl (fun w => idx_int (by have := of_decide_eq_true hg; omega) (rfl) w) hF (by kernel_rfl) (guard_of rfl (by kernel_rfl) (by kernel_rfl) hj) (Ev.at (i := 5) (by kernel_rfl) (by kernel_rfl) (fe rfl (gd_t hg))) (Ev.at (i := 6) (by kernel_rfl) (by kernel_rfl) (fe rfl (gd_t hg))))
        · exact flow_gd (decide (((i : Nat)) ≤ (((b - 1) : Nat)))) (.int .i64 (gA d1 (i) : Nat)) 3 true (.bool (decide (((i : Nat)) ≤ (((b - 1) : Nat))))) rfl (by kernel_rfl) rfl gu_t rfl (fun hg hF hj => v_load (u := .pointer (some ⟨blk, i, none⟩)) (c := .int .i64 (gA d1 (i) : Nat)) rfl (fun w hB => ld_int ((HSu.out.dr).later hB) (by have := of_decide_eq_true hg; omega)) hF (by kernel_rfl) (guard_of rfl (by kernel_rfl) (by kernel_rfl) hj) (Ev.at (i := 7) (by kernel_rfl) (by kernel_rfl) (fe rfl (gd_t hg))))
        · exact flow_gd (decide (((i : Nat)) ≤ (((b - 1) : Nat)))) (.slice (some ⟨blk, 0, none⟩) n cap) 3 true (.bool (decide (((i : Nat)) ≤ (((b - 1) : Nat))))) rfl (by kernel_rfl) rfl gu_t rfl (fun hg hF hj => v_move (.inl rfl) hF (by kernel_rfl) (guard_of rfl (by kernel_rfl) (by kernel_rfl) hj) (Ev.out (by kernel_rfl) rfl))
        · exact flow_gd (decide (((i : Nat)) ≤ (((b - 1) : Nat)))) (.int .i64 ((a : Nat))) 3 true (.bool (decide (((i : Nat)) ≤ (((b - 1) : Nat))))) rfl (by kernel_rfl) rfl gu_t rfl (fun hg hF hj => v_move (.inl rfl) hF (by kernel_rfl) (guard_of rfl (by kernel_rfl) (by kernel_rfl) hj) (Ev.out (by kernel_rfl) rfl))
        · exact flow_gd (decide (((i : Nat)) ≤ (((b - 1) : Nat)))) (.pointer (some ⟨blk, a, none⟩)) 3 true (.bool (decide (((i : Nat)) ≤ (((b - 1) : Nat))))) rfl (by kernel_rfl) rfl gu_t rfl (fun hg hF hj => v_iaddr (u := .slice (some ⟨blk, 0, none⟩) n cap) (v := .int .i64 ((a : Nat))) (c := .pointer (some ⟨blk, a, none⟩)) rfl (fun w => idx_int (by omega) (rfl) w) hF (by kernel_rfl) (guard_of rfl (by kernel_rfl) (by kernel_rfl) hj) (Ev.at (i := 9) (by kernel_rfl) (by kernel_rfl) (fe rfl (gd_t hg))) (Ev.at (i := 10) (by kernel_rfl) (by kernel_rfl) (fe rfl (gd_t hg))))
        · exact flow_gd (decide (((i : Nat)) ≤ (((b - 1) : Nat)))) (.int .i64 (gA d1 (a) : Nat)) 3 true (.bool (decide (((i : Nat)) ≤ (((b - 1) : Nat))))) rfl (by kernel_rfl) rfl gu_t rfl (fun hg hF hj => v_load (u := .pointer (some ⟨blk, a, none⟩)) (c := .int .i64 (gA d1 (a) : Nat)) rfl (fun w hB => ld_int ((HSu.out.dr).later hB) (by omega)) hF (by kernel_rfl) (guard_of rfl (by kernel_rfl) (by kernel_rfl) hj) (Ev.at (i := 11) (by kernel_rfl) (by kernel_rfl) (fe rfl (gd_t hg))))
        · exact flow_gd (decide (((i : Nat)) ≤ (((b - 1) : Nat)))) (.int .i64 (c (gA d1 (i)) (gA d1 (a)))) 3 true (.bool (decide (((i : Nat)) ≤ (((b - 1) : Nat))))) rfl (by kernel_rfl) rfl gu_t rfl (fun hg hF hj => v_callv (f := 59) (pre := #[recv]) (vs := #[.int .i64 (gA d1 (i) : Nat), .int .i64 (gA d1 (a) : Nat)]) (c := .int .i64 (c (gA d1 (i)) (gA d1 (a)))) rfl (fun args w => rfl) (fun w hB => (HC.out.call _ ((HSu.out.dr).later hB).below _ _ (((HSu.out.dr).later hB).ok _ (by have := of_decide_eq_true hg; omega)) (((HSu.out.dr).later hB).ok _ (by omega)))) hF (by kernel_rfl) (guard_of rfl (by kernel_rfl) (by kernel_rfl) hj) (Ev.at (i := 4) (by kernel_rfl) (by kernel_rfl) (fe rfl (gd_t hg))) (ev2 (Ev.at (i := 8) (by kernel_rfl) (by kernel_rfl) (fe rfl (gd_t hg))) (Ev.at (i := 12) (by kernel_rfl) (by kernel_rfl) (fe rfl (gd_t hg)))))
        · exact flow_gd (decide (((i : Nat)) ≤ (((b - 1) : Nat)))) (.bool (decide ((c (gA d1 (i)) (gA d1 (a))) < (0)))) 3 true (.bool (decide (((i : Nat)) ≤ (((b - 1) : Nat))))) rfl (by kernel_rfl) rfl gu_t rfl (fun hg hF hj => v_bin (u := .int .i64 (c (gA d1 (i)) (gA d1 (a)))) (v := .int .i64 (0)) (c := .bool (decide ((c (gA d1 (i)) (gA d1 (a))) < (0)))) rfl (fun w => (by go_simp)) hF (by kernel_rfl) (guard_of rfl (by kernel_rfl) (by kernel_rfl) hj) (Ev.at (i := 13) (by kernel_rfl) (by kernel_rfl) (fe rfl (gd_t hg))) Ev.const)
        · exact v_and (p := decide (((i : Nat)) ≤ (((b - 1) : Nat)))) (q := decide ((c (gA d1 (i)) (gA d1 (a))) < (0))) rfl rfl (by kernel_rfl) True.intro (Ev.at (i := 3) (by kernel_rfl) (by kernel_rfl) rfl) (fun hp => (Ev.at (i := 14) (by kernel_rfl) (by kernel_rfl) (fe rfl (gd_t hp))))
      intro _ vs wu hBu hf
      have e0 : vs 0 = .int .i64 ((i : Nat)) := hf 0 (by decide)
      have e1 : vs 1 = .int .i64 (((b - 1) : Nat)) := hf 1 (by decide)
      have e2 : vs 2 = .bool (decide (((i : Nat)) ≤ (((b - 1) : Nat)))) := hf 2 (by decide)
      have e3 : vs 3 = .bool (decide (((i : Nat)) ≤ (((b - 1) : Nat)))) := hf 3 (by decide)
      have e4 : vs 4 = gd (decide (((i : Nat)) ≤ (((b - 1) : Nat)))) (.func (.func 59) #[recv] #[]) := hf 4 (by decide)
      have e5 : vs 5 = gd (decide (((i : Nat)) ≤ (((b - 1) : Nat)))) (.slice (some ⟨blk, 0, none⟩) n cap) := hf 5 (by decide)
      have e6 : vs 6 = gd (decide (((i : Nat)) ≤ (((b - 1) : Nat)))) (.int .i64 ((i : Nat))) := hf 6 (by decide)
      have e7 : vs 7 = gd (decide (((i : Nat)) ≤ (((b - 1) : Nat)))) (.pointer (some ⟨blk, i, none⟩)) := hf 7 (by decide)
      have e8 : vs 8 = gd (decide (((i : Nat)) ≤ (((b - 1) : Nat)))) (.int .i64 (gA d1 (i) : Nat)) := hf 8 (by decide)
      have e9 : vs 9 = gd (decide (((i : Nat)) ≤ (((b - 1) : Nat)))) (.slice (some ⟨blk, 0, none⟩) n cap) := hf 9 (by decide)
      have e10 : vs 10 = gd (decide (((i : Nat)) ≤ (((b - 1) : Nat)))) (.int .i64 ((a : Nat))) := hf 10 (by decide)
      have e11 : vs 11 = gd (decide (((i : Nat)) ≤ (((b - 1) : Nat)))) (.pointer (some ⟨blk, a, none⟩)) := hf 11 (by decide)
      have e12 : vs 12 = gd (decide (((i : Nat)) ≤ (((b - 1) : Nat)))) (.int .i64 (gA d1 (a) : Nat)) := hf 12 (by decide)
      have e13 : vs 13 = gd (decide (((i : Nat)) ≤ (((b - 1) : Nat)))) (.int .i64 (c (gA d1 (i)) (gA d1 (a)))) := hf 13 (by decide)
      have e14 : vs 14 = gd (decide (((i : Nat)) ≤ (((b - 1) : Nat)))) (.bool (decide ((c (gA d1 (i)) (gA d1 (a))) < (0)))) := hf 14 (by decide)
      have e15 : vs 15 = .bool ((decide (((i : Nat)) ≤ (((b - 1) : Nat)))) && (decide ((c (gA d1 (i)) (gA d1 (a))) < (0)))) := hf 15 (by decide)
      obtain ⟨z, hz⟩ : ∃ z : Bool, ((decide (((i : Nat)) ≤ (((b - 1) : Nat)))) && (decide ((c (gA d1 (i)) (gA d1 (a))) < (0)))) = z := ⟨_, rfl⟩
      rw [hz] at e15
      have HZ := hid hz
      clear hz
      simp only [fill, List.setIfInBounds_toArray, List.set_cons_zero, List.set_cons_succ, e0, e1, e2, e3, e4, e5, e6, e7, e8, e9, e10, e11, e12, e13, e14, e15]
      clear e0 e1 e2 e3 e4 e5 e6 e7 e8 e9 e10 e11 e12 e13 e14 e15
      have HSv := hid (HSu.out.later hBu)
      have hz := HZ.out
      clear hBu hf HZ
      cases z
      · have hst := up_stop (p := pU c d1 a) (d := d1) (i := i) (j := (b - 1)) (by
          rw [Bool.and_eq_false_iff] at hz
          rcases hz with hz | hz
          · left; have := of_decide_eq_false hz; omega
          · exact .inr hz)
        have HNI := hid (show ¬ i ≤ (b - 1) ∨ ltC c (gA d1 i) (gA d1 a) = false by
          rw [Bool.and_eq_false_iff] at hz
          rcases hz with hz | hz
          · left; have := of_decide_eq_false hz; omega
          · exact .inr hz)
        have HI := hid (htu.out.symm.trans hst)
        clear hz hst
        go_wp2
        go_loopw [13] (fun x wr => ∃ q : Nat, x = .int .i64 (q : Nat) ∧ q ≤ (b - 1) ∧ i ≤ q + 1 ∧ Hid (scanDown (pD c d1 a) d1 i q = scanDown (pD c d1 a) d1 i ((b - 1))) ∧ Srt w0 blk ok d1 wr) (fun x _ => (intOf x).toNat)
        case atStart => exact ⟨(b - 1), by go_num, by omega, by omega, rfl, HSv.out⟩
        case round =>
          obtain ⟨q, rfl, hq1, hq2, htd, hs⟩ := hrel
          have HSu2 := hid hs
          clear hs
          go_upto_region 5 with (fail)
          refine wp_flow (fun _ => none) (Fa.eq (.int .i64 ((i : Nat))) :: Fa.eq (.int .i64 ((q : Nat))) :: Fa.eq (.bool (decide (((i : Nat)) ≤ ((q : Nat))))) :: Fa.eq (.bool (decide (((i : Nat)) ≤ ((q : Nat))))) :: Fa.eq (gd (decide (((i : Nat)) ≤ ((q : Nat)))) (.func (.func 59) #[recv] #[])) :: Fa.eq (gd (decide (((i : Nat)) ≤ ((q : Nat)))) (.slice (some ⟨blk, 0, none⟩) n cap)) :: Fa.eq (gd (decide (((i : Nat)) ≤ ((q : Nat)))) (.int .i64 ((q : Nat)))) :: Fa.eq (gd (decide (((i : Nat)) ≤ ((q : Nat)))) (.pointer (some ⟨blk, q, none⟩))) :: Fa.eq (gd (decide (((i : Nat)) ≤ ((q : Nat)))) (.int .i64 (gA d1 (q) : Nat))) :: Fa.eq (gd (decide (((i : Nat)) ≤ ((q : Nat)))) (.slice (some ⟨blk, 0, none⟩) n cap)) :: Fa.eq (gd (decide (((i : Nat)) ≤ ((q : Nat)))) (.int .i64 ((a : Nat)))) :: Fa.eq (gd (decide (((i : Nat)) ≤ ((q : Nat)))) (.pointer (some ⟨blk, a, none⟩))) :: Fa.eq (gd (decide (((i : Nat)) ≤ ((q : Nat)))) (.int .i64 (gA d1 (a) : Nat))) :: Fa.eq (gd (decide (((i : Nat)) ≤ ((q : Nat)))) (.int .i64 (c (gA d1 (q)) (gA d1 (a))))) :: Fa.eq (gd (decide (((i : Nat)) ≤ ((q : Nat)))) (.bool (decide ((c (gA d1 (q)) (gA d1 (a))) < (0))))) :: Fa.eq (gd (decide (((i : Nat)) ≤ ((q : Nat)))) (.bool (!(decide ((c (gA d1 (q)) (gA d1 (a))) < (0)))))) :: Fa.eq (.bool ((decide (((i : Nat)) ≤ ((q : Nat)))) && (!(decide ((c (gA d1 (q)) (gA d1 (a))) < (0)))))) :: []) 178 (by kernel_rfl) rfl (by kernel_rfl) rfl (by kernel_rfl) ?_ ?_ ?_
          · exact fits_plain _ _ rfl
          · refine ⟨?_, ?_, ?_, ?_, ?_, ?_, ?_, ?_, ?_, ?_, ?_, ?_, ?_, ?_, ?_, ?_, ?_, trivial⟩
            · exact v_move (.inl rfl) rfl (by kernel_rfl) True.intro (Ev.out (by kernel_rfl) rfl)
            · exact v_move (.inl rfl) rfl (by kernel_rfl) True.intro (Ev.out (by kernel_rfl) rfl)
            · exact v_bin (u := .int .i64 ((i : Nat))) (v := .int .i64 ((q : Nat))) (c := .bool (decide (((i : Nat)) ≤ ((q : Nat))))) rfl (fun w => (by go_simp)) rfl (by kernel_rfl) True.intro (Ev.at (i := 0) (by kernel_rfl) (by kernel_rfl) rfl) (Ev.at (i := 1) (by kernel_rfl) (by kernel_rfl) rfl)
            · exact v_move (.inl rfl) rfl (by kernel_rfl) True.intro (Ev.at (i := 2) (by kernel_rfl) (by kernel_rfl) rfl)
            · exact flow_gd (decide (((i : Nat)) ≤ ((q : Nat)))) (.func (.func 59) #[recv] #[]) 3 true (.bool (decide (((i : Nat)) ≤ ((q : Nat))))) rfl (by kernel_rfl) rfl gu_t rfl (fun hg hF hj => v_move (.inl rfl) hF (by kernel_rfl) (guard_of rfl (by kernel_rfl) (by kernel_rfl) hj) (Ev.out (by kernel_rfl) rfl))
            · exact flow_gd (decide (((i : Nat)) ≤ ((q : Nat)))) (.slice (some ⟨blk, 0, none⟩) n cap) 3 true (.bool (decide (((i : Nat)) ≤ ((q : Nat))))) rfl (by kernel_rfl) rfl gu_t rfl (fun hg hF hj => v_move (.inl rfl) hF (by kernel_rfl) (guard_of rfl (by kernel_rfl) (by kernel_rfl) hj) (Ev.out (by kernel_rfl) rfl))
            · exact flow_gd (decide (((i : Nat)) ≤ ((q : Nat)))) (.int .i64 ((q : Nat))) 3 true (.bool (decide (((i : Nat)) ≤ ((q : Nat))))) rfl (by kernel_rfl) rfl gu_t rfl (fun hg hF hj => v_move (.inl rfl) hF (by kernel_rfl) (guard_of rfl (by kernel_rfl) (by kernel_rfl) hj) (Ev.out (by kernel_rfl) rfl))
            · exact flow_gd (decide (((i : Nat)) ≤ ((q : Nat)))) (.pointer (some ⟨blk, q, none⟩)) 3 true (.bool (decide (((i : Nat)) ≤ ((q : Nat))))) rfl (by kernel_rfl) rfl gu_t rfl (fun hg hF hj => v_iaddr (u := .slice (some ⟨blk, 0, none⟩) n cap) (v := .int .i64 ((q : Nat))) (c := .pointer (some ⟨blk, q, none⟩)) rfl (fun w => idx_int (by have := of_decide_eq_true hg; omega) (rfl) w) hF (by kernel_rfl) (guard_of rfl (by kernel_rfl) (by kernel_rfl) hj) (Ev.at (i := 5) (by kernel_rfl) (by kernel_rfl) (fe rfl (gd_t hg))) (Ev.at (i := 6) (by kernel_rfl) (by kernel_rfl) (fe rfl (gd_t hg))))
            · exact flow_gd (decide (((i : Nat)) ≤ ((q : Nat)))) (.int .i64 (gA d1 (q) : Nat)) 3 true (.bool (decide (((i : Nat)) ≤ ((q : Nat))))) rfl (by kernel_rfl) rfl gu_t rfl (fun hg hF hj => v_load (u := .pointer (some ⟨blk, q, none⟩)) (c := .int .i64 (gA d1 (q) : Nat)) rfl (fun w hB => ld_int ((HSu2.out.dr).later hB) (by have := of_decide_eq_true hg; omega)) hF (by kernel_rfl) (guard_of rfl (by kernel_rfl) (by kernel_rfl) hj) (Ev.at (i := 7) (by kernel_rfl) (by kernel_rfl) (fe rfl (gd_t hg))))
            · exact flow_gd (decide (((i : Nat)) ≤ ((q : Nat)))) (.slice (some ⟨blk, 0, none⟩) n cap) 3 true (.bool (decide (((i : Nat)) ≤ ((q : Nat))))) rfl (by kernel_rfl) rfl gu_t rfl (fun hg hF hj => v_move (.inl rfl) hF (by kernel_rfl) (guard_of rfl (by kernel_rfl) (by kernel_rfl) hj) (Ev.out (by kernel_rfl) rfl))
            · exact flow_gd (decide (((i : Nat)) ≤ ((q : Nat)))) (.int .i64 ((a : Nat))) 3 true (.bool (decide (((i : Nat)) ≤ ((q : Nat))))) rfl (by kernel_rfl) rfl gu_t rfl (fun hg hF hj => v_move (.inl rfl) hF (by kernel_rfl) (guard_of rfl (by kernel_rfl) (by kernel_rfl) hj) (Ev.out (by kernel_rfl) rfl))
            · exact flow_gd (decide (((i : Nat)) ≤ ((q : Nat)))) (.pointer (some ⟨blk, a, none⟩)) 3 true (.bool (decide (((i : Nat)) ≤ ((q : Nat))))) rfl (by kernel_rfl) rfl gu_t rfl (fun hg hF hj => v_iaddr (u := .slice (some ⟨blk, 0, none⟩) n cap) (v := .int .i64 ((a : Nat))) (c := .pointer (some ⟨blk, a, none⟩)) rfl (fun w => idx_int (by omega) (rfl) w) hF (by kernel_rfl) (guard_of rfl (by kernel_rfl) (by kernel_rfl) hj) (Ev.at (i := 9) (by kernel_rfl) (by kernel_rfl) (fe rfl (gd_t hg))) (Ev.at (i := 10) (by kernel_rfl) (by kernel_rfl) (fe rfl (gd_t hg))))
            · exact flow_gd (decide (((i : Nat)) ≤ ((q : Nat)))) (.int .i64 (gA d1 (a) : Nat)) 3 true (.bool (decide (((i : Nat)) ≤ ((q : Nat))))) rfl (by kernel_rfl) rfl gu_t rfl (fun hg hF hj => v_load (u := .pointer (some ⟨blk, a, none⟩)) (c := .int .i64 (gA d1 (a) : Nat)) rfl (fun w hB => ld_int ((HSu2.out.dr).later hB) (by omega)) hF (by kernel_rfl) (guard_of rfl (by kernel_rfl) (by kernel_rfl) hj) (Ev.at (i := 11) (by kernel_rfl) (by kernel_rfl) (fe rfl (gd_t hg))))
            · exact flow_gd (decide (((i : Nat)) ≤ ((q : Nat)))) (.int .i64 (c (gA d1 (q)) (gA d1 (a)))) 3 true (.bool (decide (((i : Nat)) ≤ ((q : Nat))))) rfl (by kernel_rfl) rfl gu_t rfl (fun hg hF hj => v_callv (f := 59) (pre := #[recv]) (vs := #[.int .i64 (gA d1 (q) : Nat), .int .i64 (gA d1 (a) : Nat)]) (c := .int .i64 (c (gA d1 (q)) (gA d1 (a)))) rfl (fun args w => rfl) (fun w hB => (HC.out.call _ ((HSu2.out.dr).later hB).below _ _ (((HSu2.out.dr).later hB).ok _ (by have := of_decide_eq_true hg; omega)) (((HSu2.out.dr).later hB).ok _ (by omega)))) hF (by kernel_rfl) (guard_of rfl (by kernel_rfl) (by kernel_rfl) hj) (Ev.at (i := 4) (by kernel_rfl) (by kernel_rfl) (fe rfl (gd_t hg))) (ev2 (Ev.at (i := 8) (by kernel_rfl) (by kernel_rfl) (fe rfl (gd_t hg))) (Ev.at (i := 12) (by kernel_rfl) (by kernel_rfl) (fe rfl (gd_t hg)))))
            · exact flow_gd (decide (((i : Nat)) ≤ ((q : Nat)))) (.bool (decide ((c (gA d1 (q)) (gA d1 (a))) < (0)))) 3 true (.bool (decide (((i : Nat)) ≤ ((q : Nat))))) rfl (by kernel_rfl) rfl gu_t rfl (fun hg hF hj => v_bin (u := .int .i64 (c (gA d1 (q)) (gA d1 (a)))) (v := .int .i64 (0)) (c := .bool (decide ((c (gA d1 (q)) (gA d1 (a))) < (0)))) rfl (fun w => (by go_simp)) hF (by kernel_rfl) (guard_of rfl (by kernel_rfl) (by kernel_rfl) hj) (Ev.at (i := 13) (by kernel_rfl) (by kernel_rfl) (fe rfl (gd_t hg))) Ev.const)
            · exact flow_gd (decide (((i : Nat)) ≤ ((q : Nat)))) (.bool (!(decide ((c (gA d1 (q)) (gA d1 (a))) < (0))))) 3 true (.bool (decide (((i : Nat)) ≤ ((q : Nat))))) rfl (by kernel_rfl) rfl gu_t rfl (fun hg hF hj => v_not rfl hF (by kernel_rfl) (guard_of rfl (by kernel_rfl) (by kernel_rfl) hj) (Ev.at (i := 14) (by kernel_rfl) (by kernel_rfl) (fe rfl (gd_t hg))))
            · exact v_and (p := decide (((i : Nat)) ≤ ((q : Nat)))) (q := !(decide ((c (gA d1 (q)) (gA d1 (a))) < (0)))) rfl rfl (by kernel_rfl) True.intro (Ev.at (i := 3) (by kernel_rfl) (by kernel_rfl) rfl) (fun hp => (Ev.at (i := 15) (by kernel_rfl) (by kernel_rfl) (fe rfl (gd_t hp))))
          intro _ vs wv hBv hf
          have e0 : vs 0 = .int .i64 ((i : Nat)) := hf 0 (by decide)
          have e1 : vs 1 = .int .i64 ((q : Nat)) := hf 1 (by decide)
          have e2 : vs 2 = .bool (decide (((i : Nat)) ≤ ((q : Nat)))) := hf 2 (by decide)
          have e3 : vs 3 = .bool (decide (((i : Nat)) ≤ ((q : Nat)))) := hf 3 (by decide)
          have e4 : vs 4 = gd (decide (((i : Nat)) ≤ ((q : Nat)))) (.func (.func 59) #[recv] #[]) := hf 4 (by decide)
          have e5 : vs 5 = gd (decide (((i : Nat)) ≤ ((q : Nat)))) (.slice (some ⟨blk, 0, none⟩) n cap) := hf 5 (by decide)
          have e6 : vs 6 = gd (decide (((i : Nat)) ≤ ((q : Nat)))) (.int .i64 ((q : Nat))) := hf 6 (by decide)
          have e7 : vs 7 = gd (decide (((i : Nat)) ≤ ((q : Nat)))) (.pointer (some ⟨blk, q, none⟩)) := hf 7 (by decide)
          have e8 : vs 8 = gd (decide (((i : Nat)) ≤ ((q : Nat)))) (.int .i64 (gA d1 (q) : Nat)) := hf 8 (by decide)
          have e9 : vs 9 = gd (decide (((i : Nat)) ≤ ((q : Nat)))) (.slice (some ⟨blk, 0, none⟩) n cap) := hf 9 (by decide)
          have e10 : vs 10 = gd (decide (((i : Nat)) ≤ ((q : Nat)))) (.int .i64 ((a : Nat))) := hf 10 (by decide)
          have e11 : vs 11 = gd (decide (((i : Nat)) ≤ ((q : Nat)))) (.pointer (some ⟨blk, a, none⟩)) := hf 11 (by decide)
          have e12 : vs 12 = gd (decide (((i : Nat)) ≤ ((q : Nat)))) (.int .i64 (gA d1 (a) : Nat)) := hf 12 (by decide)
          have e13 : vs 13 = gd (decide (((i : Nat)) ≤ ((q : Nat)))) (.int .i64 (c (gA d1 (q)) (gA d1 (a)))) := hf 13 (by decide)
          have e14 : vs 14 = gd (decide (((i : Nat)) ≤ ((q : Nat)))) (.bool (decide ((c (gA d1 (q)) (gA d1 (a))) < (0)))) := hf 14 (by decide)
          have e15 : vs 15 = gd (decide (((i : Nat)) ≤ ((q : Nat)))) (.bool (!(decide ((c (gA d1 (q)) (gA d1 (a))) < (0))))) := hf 15 (by decide)
          have e16 : vs 16 = .bool ((decide (((i : Nat)) ≤ ((q : Nat)))) && (!(decide ((c (gA d1 (q)) (gA d1 (a))) < (0))))) := hf 16 (by decide)
          obtain ⟨z, hz⟩ : ∃ z : Bool, ((decide (((i : Nat)) ≤ ((q : Nat)))) && (!(decide ((c (gA d1 (q)) (gA d1 (a))) < (0))))) = z := ⟨_, rfl⟩
          rw [hz] at e16
          have HZ := hid hz
          clear hz
          simp only [fill, List.setIfInBounds_toArray, List.set_cons_zero, List.set_cons_succ, e0, e1, e2, e3, e4, e5, e6, e7, e8, e9, e10, e11, e12, e13, e14, e15, e16]
          clear e0 e1 e2 e3 e4 e5 e6 e7 e8 e9 e10 e11 e12 e13 e14 e15 e16
          have HSw := hid (HSu2.out.later hBv)
          have hz := HZ.out
          clear hBv hf HZ
          cases z
          · have hst := down_stop (p := pD c d1 a) (d := d1) (i := i) (j := q) (by
              rw [Bool.and_eq_false_iff] at hz
              rcases hz with hz | hz
              · left; have := of_decide_eq_false hz; omega
              · exact .inr hz)
            have HNJ := hid (show ¬ i ≤ q ∨ ltC c (gA d1 q) (gA d1 a) = true by
              rw [Bool.and_eq_false_iff] at hz
              rcases hz with hz | hz
              · left; have := of_decide_eq_false hz; omega
              · right; simpa [ltC] using hz)
            have HJ := hid (htd.out.symm.trans hst)
            clear hz hst
            have HST := hid (part_step (c := c) (a := a) (i := a + 1) (j := b - 1) (d := d1) HI.out HJ.out)
            by_cases hgt : i > q
            · have k0 : decide ((q : Int) < (i : Int)) = true := decide_eq_true (by omega)
              have c0 := HSw.out.cell (i := q) (by omega)
              have c1 := HSw.out.cell (i := a) (by omega)
              have f0 := HSw.out.free q
              have f1 := HSw.out.free a
              have q2 : (q : Int) < (n : Int) := by omega
              have HFS := hid (HSw.out.swap (i := q) (j := a) (by omega) (by omega))
              have HRE := hid (show R = (q, d1) by rw [HR.out, HST.out, if_pos hgt])
              go_wp2
              rcases (show q = a ∨ q ≠ a by omega) with hqa | hqa
              · subst hqa
                go_region
                go_wp2
                go_ret2
                refine ⟨_, by rw [HRE.out]; rfl, ?_⟩
                rw [HRE.out]
                exact HFS.out.dr
              · go_region
                go_wp2
                go_ret2
                refine ⟨_, by rw [HRE.out]; rfl, ?_⟩
                rw [HRE.out]
                exact HFS.out.dr
            · have k0 : decide ((q : Int) < (i : Int)) = false := decide_eq_false (by omega)
              have hlt : i < q := by
                rcases HNI.out with h | h
                · omega
                · rcases HNJ.out with h' | h'
                  · omega
                  · rcases Nat.lt_or_eq_of_le (show i ≤ q by omega) with h2 | h2
                    · exact h2
                    · subst h2; rw [h] at h'; cases h'
              have c0 := HSw.out.cell (i := i) (by omega)
              have c1 := HSw.out.cell (i := q) (by omega)
              have f0 := HSw.out.free i
              have f1 := HSw.out.free q
              have q2 : (i : Int) < (n : Int) := by omega
              have q3 : (q : Int) < (n : Int) := by omega
              have hne2 : i ≠ q := by omega
              have q4 : (q : Int) - 1 = ((q - 1 : Nat) : Int) := by omega
              have HSX := hid (HSw.out.swap (i := i) (j := q) (by omega) (by omega))
              go_upto_region 10 with (fail)
              go_region
              refine gen_exit (fun W => Srt w0 blk ok (swp d1 i q) W) HSX.out.dr ?_
              intro W5 hs5
              have HSY := hid hs5
              clear hs5 c0 c1 f0 f1 HSX hne2 q2 q3
              go_wp2
              go_loopw [12, 13] (fun x y wr => ∃ (i j : Nat) (d2 : Array Nat), x = .int .i64 (i : Nat) ∧ y = .int .i64 (j : Nat) ∧ a < i ∧ i ≤ j + 1 ∧ j < b ∧ d2.size = n ∧ Hid (partLoop (ltC c) a i j d2 = R) ∧ Srt w0 blk ok d2 wr) (fun x y _ => (intOf y + 1 - intOf x).toNat)
              case atStart => exact ⟨i + 1, q - 1, swp d1 i q, by go_num, by go_num, by omega, by omega, by omega, by rw [Go.Sort.size_swp]; exact hds0, hid (by rw [HR.out, HST.out, if_neg hgt]), HSY.out⟩
              case round =>
                clear HSY HSw HSu HSv HI HJ HNI HNJ HST htu htd hgt k0 hlt hi1 hi2 hq1 hq2
                obtain ⟨i0, j, d2, rfl, rfl, hi0, hij, hjb, hds2, htl, hs⟩ := hrel
                have HSl := hid hs
                clear hs
                go_wp2
                go_loopw [12] (fun x wr => ∃ i : Nat, x = .int .i64 (i : Nat) ∧ i0 ≤ i ∧ i ≤ j + 1 ∧ Hid (scanUp (pU c d2 a) d2 (j) i = scanUp (pU c d2 a) d2 (j) (i0)) ∧ Srt w0 blk ok d2 wr) (fun x _ => j + 2 - (intOf x).toNat)
                case atStart => exact ⟨i0, by go_num, by omega, by omega, rfl, HSl.out⟩
                case round =>
                  obtain ⟨i, rfl, hi1, hi2, htu, hs⟩ := hrel
                  have HSu := hid hs
                  clear hs
                  go_upto_region 13 with (fail)
                  refine wp_flow (fun _ => none) (Fa.eq (.int .i64 ((i : Nat))) :: Fa.eq (.int .i64 ((j : Nat))) :: Fa.eq (.bool (decide (((i : Nat)) ≤ ((j : Nat))))) :: Fa.eq (.bool (decide (((i : Nat)) ≤ ((j : Nat))))) :: Fa.eq (gd (decide (((i : Nat)) ≤ ((j : Nat)))) (.func (.func 59) #[recv] #[])) :: Fa.eq (gd (decide (((i : Nat)) ≤ ((j : Nat)))) (.slice (some ⟨blk, 0, none⟩) n cap)) :: Fa.eq (gd (decide (((i : Nat)) ≤ ((j : Nat)))) (.int .i64 ((i : Nat)))) :: Fa.eq (gd (decide (((i : Nat)) ≤ ((j : Nat)))) (.pointer (some ⟨blk, i, none⟩))) :: Fa.eq (gd (decide (((i : Nat)) ≤ ((j : Nat)))) (.int .i64 (gA d2 (i) : Nat))) :: Fa.eq (gd (decide (((i : Nat)) ≤ ((j : Nat)))) (.slice (some ⟨blk, 0, none⟩) n cap)) :: Fa.eq (gd (decide (((i : Nat)) ≤ ((j : Nat)))) (.int .i64 ((a : Nat)))) :: Fa.eq (gd (decide (((i : Nat)) ≤ ((j : Nat)))) (.pointer (some ⟨blk, a, none⟩))) :: Fa.eq (gd (decide (((i : Nat)) ≤ ((j : Nat)))) (.int .i64 (gA d2 (a) : Nat))) :: Fa.eq (gd (decide (((i : Nat)) ≤ ((j : Nat)))) (.int .i64 (c (gA d2 (i)) (gA d2 (a))))) :: Fa.eq (gd (decide (((i : Nat)) ≤ ((j : Nat)))) (.bool (decide ((c (gA d2 (i)) (gA d2 (a))) < (0))))) :: Fa.eq (.bool ((decide (((i : Nat)) ≤ ((j : Nat)))) && (decide ((c (gA d2 (i)) (gA d2 (a))) < (0))))) :: []) 178 (by kernel_rfl) rfl (by kernel_rfl) rfl (by kernel_rfl) ?_ ?_ ?_
                  · exact fits_plain _ _ rfl
                  · refine ⟨?_, ?_, ?_, ?_, ?_, ?_, ?_, ?_, ?_, ?_, ?_, ?_, ?_, ?_, ?_, ?_, trivial⟩
                    · exact v_move (.inl rfl) rfl (by kernel_rfl) True.intro (Ev.out (by kernel_rfl) rfl)
                    · exact v_move (.inl rfl) rfl (by kernel_rfl) True.intro (Ev.out (by kernel_rfl) rfl)
                    · exact v_bin (u := .int .i64 ((i : Nat))) (v := .int .i64 ((j : Nat))) (c := .bool (decide (((i : Nat)) ≤ ((j : Nat))))) rfl (fun w => (by go_simp)) rfl (by kernel_rfl) True.intro (Ev.at (i := 0) (by kernel_rfl) (by kernel_rfl) rfl) (Ev.at (i := 1) (by kernel_rfl) (by kernel_rfl) rfl)
                    · exact v_move (.inl rfl) rfl (by kernel_rfl) True.intro (Ev.at (i := 2) (by kernel_rfl) (by kernel_rfl) rfl)
                    · exact flow_gd (decide (((i : Nat)) ≤ ((j : Nat)))) (.func (.func 59) #[recv] #[]) 3 true (.bool (decide (((i : Nat)) ≤ ((j : Nat))))) rfl (by kernel_rfl) rfl gu_t rfl (fun hg hF hj => v_move (.inl rfl) hF (by kernel_rfl) (guard_of rfl (by kernel_rfl) (by kernel_rfl) hj) (Ev.out (by kernel_rfl) rfl))
                    · exact flow_gd (decide (((i : Nat)) ≤ ((j : Nat)))) (.slice (some ⟨blk, 0, none⟩) n cap) 3 true (.bool (decide (((i : Nat)) ≤ ((j : Nat))))) rfl (by kernel_rfl) rfl gu_t rfl (fun hg hF hj => v_move (.inl rfl) hF (by kernel_rfl) (guard_of rfl (by kernel_rfl) (by kernel_rfl) hj) (Ev.out (by kernel_rfl) rfl))
                    · exact flow_gd (decide (((i : Nat)) ≤ ((j : Nat)))) (.int .i64 ((i : Nat))) 3 true (.bool (decide (((i : Nat)) ≤ ((j : Nat))))) rfl (by kernel_rfl) rfl gu_t rfl (fun hg hF hj => v_move (.inl rfl) hF (by kernel_rfl) (guard_of rfl (by kernel_rfl) (by kernel_rfl) hj) (Ev.out (by kernel_rfl) rfl))
                    · exact flow_gd (decide (((i : Nat)) ≤ ((j : Nat)))) (.pointer (some ⟨blk, i, none⟩)) 3 true (.bool (decide (((i : Nat)) ≤ ((j : Nat))))) rfl (by kernel_rfl) rfl gu_t rfl (fun hg hF hj => v_iaddr (u := .slice (some ⟨blk, 0, none⟩) n cap) (v := .int .i64 ((i : Nat))) (c := .pointer (some ⟨blk, i, none⟩)) rfl (fun w => idx_int (by have := of_decide_eq_true hg; omega) (rfl) w) hF (by kernel_rfl) (guard_of rfl (by kernel_rfl) (by kernel_rfl) hj) (Ev.at (i := 5) (by kernel_rfl) (by kernel_rfl) (fe rfl (gd_t hg))) (Ev.at (i := 6) (by kernel_rfl) (by kernel_rfl) (fe rfl (gd_t hg))))
                    · exact flow_gd (decide (((i : Nat)) ≤ ((j : Nat)))) (.int .i64 (gA d2 (i) : Nat)) 3 true (.bool (decide (((i : Nat)) ≤ ((j : Nat))))) rfl (by kernel_rfl) rfl gu_t rfl (fun hg hF hj => v_load (u := .pointer (some ⟨blk, i, none⟩)) (c := .int .i64 (gA d2 (i) : Nat)) rfl (fun w hB => ld_int ((HSu.out.dr).later hB) (by have := of_decide_eq_true hg; omega)) hF (by kernel_rfl) (guard_of rfl (by kernel_rfl) (by kernel_rfl) hj) (Ev.at (i := 7) (by kernel_rfl) (by kernel_rfl) (fe rfl (gd_t hg))))
                    · exact flow_gd (decide (((i : Nat)) ≤ ((j : Nat)))) (.slice (some ⟨blk, 0, none⟩) n cap) 3 true (.bool (decide (((i : Nat)) ≤ ((j : Nat))))) rfl (by kernel_rfl) rfl gu_t rfl (fun hg hF hj => v_move (.inl rfl) hF (by kernel_rfl) (guard_of rfl (by kernel_rfl) (by kernel_rfl) hj) (Ev.out (by kernel_rfl) rfl))
                    · exact flow_gd (decide (((i : Nat)) ≤ ((j : Nat)))) (.int .i64 ((a : Nat))) 3 true (.bool (decide (((i : Nat)) ≤ ((j : Nat))))) rfl (by kernel_rfl) rfl gu_t rfl (fun hg hF hj => v_move (.inl rfl) hF (by kernel_rfl) (guard_of rfl (by kernel_rfl) (by kernel_rfl) hj) (Ev.out (by kernel_rfl) rfl))
                    · exact flow_gd (decide (((i : Nat)) ≤ ((j : Nat)))) (.pointer (some ⟨blk, a, none⟩)) 3 true (.bool (decide (((i : Nat)) ≤ ((j : Nat))))) rfl (by kernel_rfl) rfl gu_t rfl (fun hg hF hj => v_iaddr (u := .slice (some ⟨blk, 0, none⟩) n cap) (v := .int .i64 ((a : Nat))) (c := .pointer (some ⟨blk, a, none⟩)) rfl (fun w => idx_int (by omega) (rfl) w) hF (by kernel_rfl) (guard_of rfl (by kernel_rfl) (by kernel_rfl) hj) (Ev.at (i := 9) (by kernel_rfl) (by kernel_rfl) (fe rfl (gd_t hg))) (Ev.at (i := 10) (by kernel_rfl) (by kernel_rfl) (fe rfl (gd_t hg))))
                    · exact flow_gd (decide (((i : Nat)) ≤ ((j : Nat)))) (.int .i64 (gA d2 (a) : Nat)) 3 true (.bool (decide (((i : Nat)) ≤ ((j : Nat))))) rfl (by kernel_rfl) rfl gu_t rfl (fun hg hF hj => v_load (u := .pointer (some ⟨blk, a, none⟩)) (c := .int .i64 (gA d2 (a) : Nat)) rfl (fun w hB => ld_int ((HSu.out.dr).later hB) (by omega)) hF (by kernel_rfl) (guard_of rfl (by kernel_rfl) (by kernel_rfl) hj) (Ev.at (i := 11) (by kernel_rfl) (by kernel_rfl) (fe rfl (gd_t hg))))
                    · exact flow_gd (decide (((i : Nat)) ≤ ((j : Nat)))) (.int .i64 (c (gA d2 (i)) (gA d2 (a)))) 3 true (.bool (decide (((i : Nat)) ≤ ((j : Nat))))) rfl (by kernel_rfl) rfl gu_t rfl (fun hg hF hj => v_callv (f := 59) (pre := #[recv]) (vs := #[.int .i64 (gA d2 (i) : Nat), .int .i64 (gA d2 (a) : Nat)]) (c := .int .i64 (c (gA d2 (i)) (gA d2 (a)))) rfl (fun args w => rfl) (fun w hB => (HC.out.call _ ((HSu.out.dr).later hB).below _ _ (((HSu.out.dr).later hB).ok _ (by have := of_decide_eq_true hg; omega)) (((HSu.out.dr).later hB).ok _ (by omega)))) hF (by kernel_rfl) (guard_of rfl (by kernel_rfl) (by kernel_rfl) hj) (Ev.at (i := 4) (by kernel_rfl) (by kernel_rfl) (fe rfl (gd_t hg))) (ev2 (Ev.at (i := 8) (by kernel_rfl) (by kernel_rfl) (fe rfl (gd_t hg))) (Ev.at (i := 12) (by kernel_rfl) (by kernel_rfl) (fe rfl (gd_t hg)))))
                    · exact flow_gd (decide (((i : Nat)) ≤ ((j : Nat)))) (.bool (decide ((c (gA d2 (i)) (gA d2 (a))) < (0)))) 3 true (.bool (decide (((i : Nat)) ≤ ((j : Nat))))) rfl (by kernel_rfl) rfl gu_t rfl (fun hg hF hj => v_bin (u := .int .i64 (c (gA d2 (i)) (gA d2 (a)))) (v := .int .i64 (0)) (c := .bool (decide ((c (gA d2 (i)) (gA d2 (a))) < (0)))) rfl (fun w => (by go_simp)) hF (by kernel_rfl) (guard_of rfl (by kernel_rfl) (by kernel_rfl) hj) (Ev.at (i := 13) (by kernel_rfl) (by kernel_rfl) (fe rfl (gd_t hg))) Ev.const)
                    · exact v_and (p := decide (((i : Nat)) ≤ ((j : Nat)))) (q := decide ((c (gA d2 (i)) (gA d2 (a))) < (0))) rfl rfl (by kernel_rfl) True.intro (Ev.at (i := 3) (by kernel_rfl) (by kernel_rfl) rfl) (fun hp => (Ev.at (i := 14) (by kernel_rfl) (by kernel_rfl) (fe rfl (gd_t hp))))
                  intro _ vs wu hBu hf
                  have e0 : vs 0 = .int .i64 ((i : Nat)) := hf 0 (by decide)
                  have e1 : vs 1 = .int .i64 ((j : Nat)) := hf 1 (by decide)
                  have e2 : vs 2 = .bool (decide (((i : Nat)) ≤ ((j : Nat)))) := hf 2 (by decide)
                  have e3 : vs 3 = .bool (decide (((i : Nat)) ≤ ((j : Nat)))) := hf 3 (by decide)
                  have e4 : vs 4 = gd (decide (((i : Nat)) ≤ ((j : Nat)))) (.func (.func 59) #[recv] #[]) := hf 4 (by decide)
                  have e5 : vs 5 = gd (decide (((i : Nat)) ≤ ((j : Nat)))) (.slice (some ⟨blk, 0, none⟩) n cap) := hf 5 (by decide)
                  have e6 : vs 6 = gd (decide (((i : Nat)) ≤ ((j : Nat)))) (.int .i64 ((i : Nat))) := hf 6 (by decide)
                  have e7 : vs 7 = gd (decide (((i : Nat)) ≤ ((j : Nat)))) (.pointer (some ⟨blk, i, none⟩)) := hf 7 (by decide)
                  have e8 : vs 8 = gd (decide (((i : Nat)) ≤ ((j : Nat)))) (.int .i64 (gA d2 (i) : Nat)) := hf 8 (by decide)
                  have e9 : vs 9 = gd (decide (((i : Nat)) ≤ ((j : Nat)))) (.slice (some ⟨blk, 0, none⟩) n cap) := hf 9 (by decide)
                  have e10 : vs 10 = gd (decide (((i : Nat)) ≤ ((j : Nat)))) (.int .i64 ((a : Nat))) := hf 10 (by decide)
                  have e11 : vs 11 = gd (decide (((i : Nat)) ≤ ((j : Nat)))) (.pointer (some ⟨blk, a, none⟩)) := hf 11 (by decide)
                  have e12 : vs 12 = gd (decide (((i : Nat)) ≤ ((j : Nat)))) (.int .i64 (gA d2 (a) : Nat)) := hf 12 (by decide)
                  have e13 : vs 13 = gd (decide (((i : Nat)) ≤ ((j : Nat)))) (.int .i64 (c (gA d2 (i)) (gA d2 (a)))) := hf 13 (by decide)
                  have e14 : vs 14 = gd (decide (((i : Nat)) ≤ ((j : Nat)))) (.bool (decide ((c (gA d2 (i)) (gA d2 (a))) < (0)))) := hf 14 (by decide)
                  have e15 : vs 15 = .bool ((decide (((i : Nat)) ≤ ((j : Nat)))) && (decide ((c (gA d2 (i)) (gA d2 (a))) < (0)))) := hf 15 (by decide)
                  obtain ⟨z, hz⟩ : ∃ z : Bool, ((decide (((i : Nat)) ≤ ((j : Nat)))) && (decide ((c (gA d2 (i)) (gA d2 (a))) < (0)))) = z := ⟨_, rfl⟩
                  rw [hz] at e15
                  have HZ := hid hz
                  clear hz
                  simp only [fill, List.setIfInBounds_toArray, List.set_cons_zero, List.set_cons_succ, e0, e1, e2, e3, e4, e5, e6, e7, e8, e9, e10, e11, e12, e13, e14, e15]
                  clear e0 e1 e2 e3 e4 e5 e6 e7 e8 e9 e10 e11 e12 e13 e14 e15
                  have HSv := hid (HSu.out.later hBu)
                  have hz := HZ.out
                  clear hBu hf HZ
                  cases z
                  · have hst := up_stop (p := pU c d2 a) (d := d2) (i := i) (j := j) (by
                      rw [Bool.and_eq_false_iff] at hz
                      rcases hz with hz | hz
                      · left; have := of_decide_eq_false hz; omega
                      · exact .inr hz)
                    have HNI := hid (show ¬ i ≤ j ∨ ltC c (gA d2 i) (gA d2 a) = false by
                      rw [Bool.and_eq_false_iff] at hz
                      rcases hz with hz | hz
                      · left; have := of_decide_eq_false hz; omega
                      · exact .inr hz)
                    have HI := hid (htu.out.symm.trans hst)
                    clear hz hst
                    go_wp2
                    go_loopw [13] (fun x wr => ∃ q : Nat, x = .int .i64 (q : Nat) ∧ q ≤ j ∧ i ≤ q + 1 ∧ Hid (scanDown (pD c d2 a) d2 i q = scanDown (pD c d2 a) d2 i (j)) ∧ Srt w0 blk ok d2 wr) (fun x _ => (intOf x).toNat)
                    case atStart => exact ⟨j, by go_num, by omega, by omega, rfl, HSv.out⟩
                    case round =>
                      obtain ⟨q, rfl, hq1, hq2, htd, hs⟩ := hrel
                      have HSu2 := hid hs
                      clear hs
                      go_upto_region 15 with (fail)
                      refine wp_flow (fun _ => none) (Fa.eq (.int .i64 ((i : Nat))) :: Fa.eq (.int .i64 ((q : Nat))) :: Fa.eq (.bool (decide (((i : Nat)) ≤ ((q : Nat))))) :: Fa.eq (.bool (decide (((i : Nat)) ≤ ((q : Nat))))) :: Fa.eq (gd (decide (((i : Nat)) ≤ ((q : Nat)))) (.func (.func 59) #[recv] #[])) :: Fa.eq (gd (decide (((i : Nat)) ≤ ((q : Nat)))) (.slice (some ⟨blk, 0, none⟩) n cap)) :: Fa.eq (gd (decide (((i : Nat)) ≤ ((q : Nat)))) (.int .i64 ((q : Nat)))) :: Fa.eq (gd (decide (((i : Nat)) ≤ ((q : Nat)))) (.pointer (some ⟨blk, q, none⟩))) :: Fa.eq (gd (decide (((i : Nat)) ≤ ((q : Nat)))) (.int .i64 (gA d2 (q) : Nat))) :: Fa.eq (gd (decide (((i : Nat)) ≤ ((q : Nat)))) (.slice (some ⟨blk, 0, none⟩) n cap)) :: Fa.eq (gd (decide (((i : Nat)) ≤ ((q : Nat)))) (.int .i64 ((a : Nat)))) :: Fa.eq (gd (decide (((i : Nat)) ≤ ((q : Nat)))) (.pointer (some ⟨blk, a, none⟩))) :: Fa.eq (gd (decide (((i : Nat)) ≤ ((q : Nat)))) (.int .i64 (gA d2 (a) : Nat))) :: Fa.eq (gd (decide (((i : Nat)) ≤ ((q : Nat)))) (.int .i64 (c (gA d2 (q)) (gA d2 (a))))) :: Fa.eq (gd (decide (((i : Nat)) ≤ ((q : Nat)))) (.bool (decide ((c (gA d2 (q)) (gA d2 (a))) < (0))))) :: Fa.eq (gd (decide (((i : Nat)) ≤ ((q : Nat)))) (.bool (!(decide ((c (gA d2 (q)) (gA d2 (a))) < (0)))))) :: Fa.eq (.bool ((decide (((i : Nat)) ≤ ((q : Nat)))) && (!(decide ((c (gA d2 (q)) (gA d2 (a))) < (0)))))) :: []) 178 (by kernel_rfl) rfl (by kernel_rfl) rfl (by kernel_rfl) ?_ ?_ ?_
                      · exact fits_plain _ _ rfl
                      · refine ⟨?_, ?_, ?_, ?_, ?_, ?_, ?_, ?_, ?_, ?_, ?_, ?_, ?_, ?_, ?_, ?_, ?_, trivial⟩
                        · exact v_move (.inl rfl) rfl (by kernel_rfl) True.intro (Ev.out (by kernel_rfl) rfl)
                        · exact v_move (.inl rfl) rfl (by kernel_rfl) True.intro (Ev.out (by kernel_rfl) rfl)
                        · exact v_bin (u := .int .i64 ((i : Nat))) (v := .int .i64 ((q : Nat))) (c := .bool (decide (((i : Nat)) ≤ ((q : Nat))))) rfl (fun w => (by go_simp)) rfl (by kernel_rfl) True.intro (Ev.at (i := 0) (by kernel_rfl) (by kernel_rfl) rfl) (Ev.at (i := 1) (by kernel_rfl) (by kernel_rfl) rfl)
                        · exact v_move (.inl rfl) rfl (by kernel_rfl) True.intro (Ev.at (i := 2) (by kernel_rfl) (by kernel_rfl) rfl)
                        · exact flow_gd (decide (((i : Nat)) ≤ ((q : Nat)))) (.func (.func 59) #[recv] #[]) 3 true (.bool (decide (((i : Nat)) ≤ ((q : Nat))))) rfl (by kernel_rfl) rfl gu_t rfl (fun hg hF hj => v_move (.inl rfl) hF (by kernel_rfl) (guard_of rfl (by kernel_rfl) (by kernel_rfl) hj) (Ev.out (by kernel_rfl) rfl))
                        · exact flow_gd (decide (((i : Nat)) ≤ ((q : Nat)))) (.slice (some ⟨blk, 0, none⟩) n cap) 3 true (.bool (decide (((i : Nat)) ≤ ((q : Nat))))) rfl (by kernel_rfl) rfl gu_t rfl (fun hg hF hj => v_move (.inl rfl) hF (by kernel_rfl) (guard_of rfl (by kernel_rfl) (by kernel_rfl) hj) (Ev.out (by kernel_rfl) rfl))
                        · exact flow_gd (decide (((i : Nat)) ≤ ((q : Nat)))) (.int .i64 ((q : Nat))) 3 true (.bool (decide (((i : Nat)) ≤ ((q : Nat))))) rfl (by kernel_rfl) rfl gu_t rfl (fun hg hF hj => v_move (.inl rfl) hF (by kernel_rfl) (guard_of rfl (by kernel_rfl) (by kernel_rfl) hj) (Ev.out (by kernel_rfl) rfl))
                        · exact flow_gd (decide (((i : Nat)) ≤ ((q : Nat)))) (.pointer (some ⟨blk, q, none⟩)) 3 true (.bool (decide (((i : Nat)) ≤ ((q : Nat))))) rfl (by kernel_rfl) rfl gu_t rfl (fun hg hF hj => v_iaddr (u := .slice (some ⟨blk, 0, none⟩) n cap) (v := .int .i64 ((q : Nat))) (c := .pointer (some ⟨blk, q, none⟩)) rfl (fun w => idx_int (by have := of_decide_eq_true hg; omega) (rfl) w) hF (by kernel_rfl) (guard_of rfl (by kernel_rfl) (by kernel_rfl) hj) (Ev.at (i := 5) (by kernel_rfl) (by kernel_rfl) (fe rfl (gd_t hg))) (Ev.at (i := 6) (by kernel_rfl) (by kernel_rfl) (fe rfl (gd_t hg))))
                        · exact flow_gd (decide (((i : Nat)) ≤ ((q : Nat)))) (.int .i64 (gA d2 (q) : Nat)) 3 true (.bool (decide (((i : Nat)) ≤ ((q : Nat))))) rfl (by kernel_rfl) rfl gu_t rfl (fun hg hF hj => v_load (u := .pointer (some ⟨blk, q, none⟩)) (c := .int .i64 (gA d2 (q) : Nat)) rfl (fun w hB => ld_int ((HSu2.out.dr).later hB) (by have := of_decide_eq_true hg; omega)) hF (by kernel_rfl) (guard_of rfl (by kernel_rfl) (by kernel_rfl) hj) (Ev.at (i := 7) (by kernel_rfl) (by kernel_rfl) (fe rfl (gd_t hg))))
                        · exact flow_gd (decide (((i : Nat)) ≤ ((q : Nat)))) (.slice (some ⟨blk, 0, none⟩) n cap) 3 true (.bool (decide (((i : Nat)) ≤ ((q : Nat))))) rfl (by kernel_rfl) rfl gu_t rfl (fun hg hF hj => v_move (.inl rfl) hF (by kernel_rfl) (guard_of rfl (by kernel_rfl) (by kernel_rfl) hj) (Ev.out (by kernel_rfl) rfl))
                        · exact flow_gd (decide (((i : Nat)) ≤ ((q : Nat)))) (.int .i64 ((a : Nat))) 3 true (.bool (decide (((i : Nat)) ≤ ((q : Nat))))) rfl (by kernel_rfl) rfl gu_t rfl (fun hg hF hj => v_move (.inl rfl) hF (by kernel_rfl) (guard_of rfl (by kernel_rfl) (by kernel_rfl) hj) (Ev.out (by kernel_rfl) rfl))
                        · exact flow_gd (decide (((i : Nat)) ≤ ((q : Nat)))) (.pointer (some ⟨blk, a, none⟩)) 3 true (.bool (decide (((i : Nat)) ≤ ((q : Nat))))) rfl (by kernel_rfl) rfl gu_t rfl (fun hg hF hj => v_iaddr (u := .slice (some ⟨blk, 0, none⟩) n cap) (v := .int .i64 ((a : Nat))) (c := .pointer (some ⟨blk, a, none⟩)) rfl (fun w => idx_int (by omega) (rfl) w) hF (by kernel_rfl) (guard_of rfl (by kernel_rfl) (by kernel_rfl) hj) (Ev.at (i := 9) (by kernel_rfl) (by kernel_rfl) (fe rfl (gd_t hg))) (Ev.at (i := 10) (by kernel_rfl) (by kernel_rfl) (fe rfl (gd_t hg))))
                        · exact flow_gd (decide (((i : Nat)) ≤ ((q : Nat)))) (.int .i64 (gA d2 (a) : Nat)) 3 true (.bool (decide (((i : Nat)) ≤ ((q : Nat))))) rfl (by kernel_rfl) rfl gu_t rfl (fun hg hF hj => v_load (u := .pointer (some ⟨blk, a, none⟩)) (c := .int .i64 (gA d2 (a) : Nat)) rfl (fun w hB => ld_int ((HSu2.out.dr).later hB) (by omega)) hF (by kernel_rfl) (guard_of rfl (by kernel_rfl) (by kernel_rfl) hj) (Ev.at (i := 11) (by kernel_rfl) (by kernel_rfl) (fe rfl (gd_t hg))))
                        · exact flow_gd (decide (((i : Nat)) ≤ ((q : Nat)))) (.int .i64 (c (gA d2 (q)) (gA d2 (a)))) 3 true (.bool (decide (((i : Nat)) ≤ ((q : Nat))))) rfl (by kernel_rfl) rfl gu_t rfl (fun hg hF hj => v_callv (f := 59) (pre := #[recv]) (vs := #[.int .i64 (gA d2 (q) : Nat), .int .i64 (gA d2 (a) : Nat)]) (c := .int .i64 (c (gA d2 (q)) (gA d2 (a)))) rfl (fun args w => rfl) (fun w hB => (HC.out.call _ ((HSu2.out.dr).later hB).below _ _ (((HSu2.out.dr).later hB).ok _ (by have := of_decide_eq_true hg; omega)) (((HSu2.out.dr).later hB).ok _ (by omega)))) hF (by kernel_rfl) (guard_of rfl (by kernel_rfl) (by kernel_rfl) hj) (Ev.at (i := 4) (by kernel_rfl) (by kernel_rfl) (fe rfl (gd_t hg))) (ev2 (Ev.at (i := 8) (by kernel_rfl) (by kernel_rfl) (fe rfl (gd_t hg))) (Ev.at (i := 12) (by kernel_rfl) (by kernel_rfl) (fe rfl (gd_t hg)))))
                        · exact flow_gd (decide (((i : Nat)) ≤ ((q : Nat)))) (.bool (decide ((c (gA d2 (q)) (gA d2 (a))) < (0)))) 3 true (.bool (decide (((i : Nat)) ≤ ((q : Nat))))) rfl (by kernel_rfl) rfl gu_t rfl (fun hg hF hj => v_bin (u := .int .i64 (c (gA d2 (q)) (gA d2 (a)))) (v := .int .i64 (0)) (c := .bool (decide ((c (gA d2 (q)) (gA d2 (a))) < (0)))) rfl (fun w => (by go_simp)) hF (by kernel_rfl) (guard_of rfl (by kernel_rfl) (by kernel_rfl) hj) (Ev.at (i := 13) (by kernel_rfl) (by kernel_rfl) (fe rfl (gd_t hg))) Ev.const)
                        · exact flow_gd (decide (((i : Nat)) ≤ ((q : Nat)))) (.bool (!(decide ((c (gA d2 (q)) (gA d2 (a))) < (0))))) 3 true (.bool (decide (((i : Nat)) ≤ ((q : Nat))))) rfl (by kernel_rfl) rfl gu_t rfl (fun hg hF hj => v_not rfl hF (by kernel_rfl) (guard_of rfl (by kernel_rfl) (by kernel_rfl) hj) (Ev.at (i := 14) (by kernel_rfl) (by kernel_rfl) (fe rfl (gd_t hg))))
                        · exact v_and (p := decide (((i : Nat)) ≤ ((q : Nat)))) (q := !(decide ((c (gA d2 (q)) (gA d2 (a))) < (0)))) rfl rfl (by kernel_rfl) True.intro (Ev.at (i := 3) (by kernel_rfl) (by kernel_rfl) rfl) (fun hp => (Ev.at (i := 15) (by kernel_rfl) (by kernel_rfl) (fe rfl (gd_t hp))))
                      intro _ vs wv hBv hf
                      have e0 : vs 0 = .int .i64 ((i : Nat)) := hf 0 (by decide)
                      have e1 : vs 1 = .int .i64 ((q : Nat)) := hf 1 (by decide)
                      have e2 : vs 2 = .bool (decide (((i : Nat)) ≤ ((q : Nat)))) := hf 2 (by decide)
                      have e3 : vs 3 = .bool (decide (((i : Nat)) ≤ ((q : Nat)))) := hf 3 (by decide)
                      have e4 : vs 4 = gd (decide (((i : Nat)) ≤ ((q : Nat)))) (.func (.func 59) #[recv] #[]) := hf 4 (by decide)
                      have e5 : vs 5 = gd (decide (((i : Nat)) ≤ ((q : Nat)))) (.slice (some ⟨blk, 0, none⟩) n cap) := hf 5 (by decide)
                      have e6 : vs 6 = gd (decide (((i : Nat)) ≤ ((q : Nat)))) (.int .i64 ((q : Nat))) := hf 6 (by decide)
                      have e7 : vs 7 = gd (decide (((i : Nat)) ≤ ((q : Nat)))) (.pointer (some ⟨blk, q, none⟩)) := hf 7 (by decide)
                      have e8 : vs 8 = gd (decide (((i : Nat)) ≤ ((q : Nat)))) (.int .i64 (gA d2 (q) : Nat)) := hf 8 (by decide)
                      have e9 : vs 9 = gd (decide (((i : Nat)) ≤ ((q : Nat)))) (.slice (some ⟨blk, 0, none⟩) n cap) := hf 9 (by decide)
                      have e10 : vs 10 = gd (decide (((i : Nat)) ≤ ((q : Nat)))) (.int .i64 ((a : Nat))) := hf 10 (by decide)
                      have e11 : vs 11 = gd (decide (((i : Nat)) ≤ ((q : Nat)))) (.pointer (some ⟨blk, a, none⟩)) := hf 11 (by decide)
                      have e12 : vs 12 = gd (decide (((i : Nat)) ≤ ((q : Nat)))) (.int .i64 (gA d2 (a) : Nat)) := hf 12 (by decide)
                      have e13 : vs 13 = gd (decide (((i : Nat)) ≤ ((q : Nat)))) (.int .i64 (c (gA d2 (q)) (gA d2 (a)))) := hf 13 (by decide)
                      have e14 : vs 14 = gd (decide (((i : Nat)) ≤ ((q : Nat)))) (.bool (decide ((c (gA d2 (q)) (gA d2 (a))) < (0)))) := hf 14 (by decide)
                      have e15 : vs 15 = gd (decide (((i : Nat)) ≤ ((q : Nat)))) (.bool (!(decide ((c (gA d2 (q)) (gA d2 (a))) < (0))))) := hf 15 (by decide)
                      have e16 : vs 16 = .bool ((decide (((i : Nat)) ≤ ((q : Nat)))) && (!(decide ((c (gA d2 (q)) (gA d2 (a))) < (0))))) := hf 16 (by decide)
                      obtain ⟨z, hz⟩ : ∃ z : Bool, ((decide (((i : Nat)) ≤ ((q : Nat)))) && (!(decide ((c (gA d2 (q)) (gA d2 (a))) < (0))))) = z := ⟨_, rfl⟩
                      rw [hz] at e16
                      have HZ := hid hz
                      clear hz
                      simp only [fill, List.setIfInBounds_toArray, List.set_cons_zero, List.set_cons_succ, e0, e1, e2, e3, e4, e5, e6, e7, e8, e9, e10, e11, e12, e13, e14, e15, e16]
                      clear e0 e1 e2 e3 e4 e5 e6 e7 e8 e9 e10 e11 e12 e13 e14 e15 e16
                      have HSw := hid (HSu2.out.later hBv)
                      have hz := HZ.out
                      clear hBv hf HZ
                      cases z
                      · have hst := down_stop (p := pD c d2 a) (d := d2) (i := i) (j := q) (by
                          rw [Bool.and_eq_false_iff] at hz
                          rcases hz with hz | hz
                          · left; have := of_decide_eq_false hz; omega
                          · exact .inr hz)
                        have HNJ := hid (show ¬ i ≤ q ∨ ltC c (gA d2 q) (gA d2 a) = true by
                          rw [Bool.and_eq_false_iff] at hz
                          rcases hz with hz | hz
                          · left; have := of_decide_eq_false hz; omega
                          · right; simpa [ltC] using hz)
                        have HJ := hid (htd.out.symm.trans hst)
                        clear hz hst
                        have HST := hid (part_step (c := c) (a := a) (i := i0) (j := j) (d := d2) HI.out HJ.out)
                        by_cases hgt : i > q
                        · have k0 : decide ((q : Int) < (i : Int)) = true := decide_eq_true (by omega)
                          have c0 := HSw.out.cell (i := q) (by omega)
                          have c1 := HSw.out.cell (i := a) (by omega)
                          have f0 := HSw.out.free q
                          have f1 := HSw.out.free a
                          have q2 : (q : Int) < (n : Int) := by omega
                          have HFS := hid (HSw.out.swap (i := q) (j := a) (by omega) (by omega))
                          have HRE := hid (show R = (q, d2) by rw [← htl.out, HST.out, if_pos hgt])
                          go_wp2
                          rcases (show q = a ∨ q ≠ a by omega) with hqa | hqa
                          · subst hqa
                            go_region
                            go_wp2
                            go_ret2
                            refine ⟨_, by rw [HRE.out]; rfl, ?_⟩
                            rw [HRE.out]
                            exact HFS.out.dr
                          · go_region
                            go_wp2
                            go_ret2
                            refine ⟨_, by rw [HRE.out]; rfl, ?_⟩
                            rw [HRE.out]
                            exact HFS.out.dr
                        · have k0 : decide ((q : Int) < (i : Int)) = false := decide_eq_false (by omega)
                          have hlt : i < q := by
                            rcases HNI.out with h | h
                            · omega
                            · rcases HNJ.out with h' | h'
                              · omega
                              · rcases Nat.lt_or_eq_of_le (show i ≤ q by omega) with h2 | h2
                                · exact h2
                                · subst h2; rw [h] at h'; cases h'
                          have c0 := HSw.out.cell (i := i) (by omega)
                          have c1 := HSw.out.cell (i := q) (by omega)
                          have f0 := HSw.out.free i
                          have f1 := HSw.out.free q
                          have q2 : (i : Int) < (n : Int) := by omega
                          have q3 : (q : Int) < (n : Int) := by omega
                          have hne2 : i ≠ q := by omega
                          have q4 : (q : Int) - 1 = ((q - 1 : Nat) : Int) := by omega
                          have HSX := hid (HSw.out.swap (i := i) (j := q) (by omega) (by omega))
                          go_wp2
                          go_region
                          go_wp2
                          go_roundw
                          case rel => exact ⟨i + 1, q - 1, swp d2 i q, by go_num, by go_num, by omega, by omega, by omega, by rw [Go.Sort.size_swp]; exact hds2, hid (by rw [← htl.out, HST.out, if_neg hgt]), HSX.out.dr⟩
                          case measure => simp [intOf]; omega
                      · rw [Bool.and_eq_true, decide_eq_true_eq] at hz
                        have hij : i ≤ q := by omega
                        have HT := hid (htd.out.symm.trans (down_go (p := pD c d2 a) (d := d2) (by omega) hij hz.2))
                        clear hz
                        go_wp2
                        go_roundw
                        case rel => exact ⟨q - 1, by go_num, by omega, by omega, hid HT.out.symm, HSw.out⟩
                        case measure => simp [intOf]; omega
                  · rw [Bool.and_eq_true, decide_eq_true_eq] at hz
                    have hij : i ≤ j := by omega
                    have HT := hid (htu.out.symm.trans (up_go (p := pU c d2 a) (d := d2) hij hz.2))
                    clear hz
                    go_wp2
                    go_roundw
                    case rel => exact ⟨i + 1, by go_num, by omega, by omega, hid HT.out.symm, HSv.out⟩
                    case measure => simp [intOf]; omega
          · rw [Bool.and_eq_true, decide_eq_true_eq] at hz
            have hij : i ≤ q := by omega
            have HT := hid (htd.out.symm.trans (down_go (p := pD c d1 a) (d := d1) (by omega) hij hz.2))
            clear hz
            go_wp2
            go_roundw
            case rel => exact ⟨q - 1, by go_num, by omega, by omega, hid HT.out.symm, HSw.out⟩
            case measure => simp [intOf]; omega
      · rw [Bool.and_eq_true, decide_eq_true_eq] at hz
        have hij : i ≤ (b - 1) := by omega
        have HT := hid (htu.out.symm.trans (up_go (p := pU c d1 a) (d := d1) hij hz.2))
        clear hz
        go_wp2
        go_roundw
        case rel => exact ⟨i + 1, by go_num, by omega, by omega, hid HT.out.symm, HSv.out⟩
        case measure => simp [intOf]; omega
end Go.Proofs.YtfnmekmgjcjglaaDoor.V
