/-
  Sorting indices by a comparing method value: the partial insertion sort.
-/
import Derived.Test.YtfnmekmgjcjglaaDoorYHK3
namespace Go.Proofs.YtfnmekmgjcjglaaDoor.V
set_option linter.unusedVariables false
set_option linter.unusedSimpArgs false
set_option maxRecDepth 100000
open Go Go.RowKit Go.Maps Wire
set_option maxRecDepth 100000
set_option linter.unusedVariables false
set_option linter.unusedSimpArgs false
open Go.Sort (swp PermIn SortedIn SWO scanSorted shiftDown shiftUp partialIns)
variable {w0 : World} {blk : Nat} {ok : Nat → Prop} {d : Array Nat} {W W' : World}
theorem ss_stop {lt : Nat → Nat → Bool} {d : Array Nat} {b i : Nat} (h : ¬ i < b ∨ lt (gA d i) (gA d (i - 1)) = true) : scanSorted lt d b i = i := by
  unfold scanSorted
  rw [if_neg]
  intro hc
  rw [Bool.and_eq_true, decide_eq_true_eq] at hc
  rcases h with h | h
  · exact h hc.1
  · have h2 : (!lt d[i]! d[i - 1]!) = true := hc.2
    rw [show lt d[i]! d[i - 1]! = true from h] at h2
    cases h2
theorem ss_go {lt : Nat → Nat → Bool} {d : Array Nat} {b i : Nat} (h : i < b) (hl : lt (gA d i) (gA d (i - 1)) = false) : scanSorted lt d b i = scanSorted lt d b (i + 1) := by
  conv => lhs; unfold scanSorted
  rw [if_pos]
  rw [Bool.and_eq_true, decide_eq_true_eq]
  exact ⟨h, by rw [show lt d[i]! d[i - 1]! = false from hl]; rfl⟩
theorem sd_stop {lt : Nat → Nat → Bool} {d : Array Nat} {j : Nat} (h : j = 0 ∨ lt (gA d j) (gA d (j - 1)) = false) : shiftDown lt j d = d := by
  cases j with
  | zero => rfl
  | succ j =>
    rcases h with h | h
    · omega
    · show (if (!lt d[j + 1]! d[j]!) = true then d else _) = d
      rw [Nat.add_sub_cancel] at h
      rw [show lt d[j + 1]! d[j]! = false from h]; rfl
theorem sd_go {lt : Nat → Nat → Bool} {d : Array Nat} {j : Nat} (h0 : 1 ≤ j) (h : lt (gA d j) (gA d (j - 1)) = true) : shiftDown lt j d = shiftDown lt (j - 1) (swp d j (j - 1)) := by
  cases j with
  | zero => omega
  | succ j =>
    rw [Nat.add_sub_cancel] at h ⊢
    show (if (!lt d[j + 1]! d[j]!) = true then d else _) = _
    rw [show lt d[j + 1]! d[j]! = true from h]; rfl
theorem su_stop {lt : Nat → Nat → Bool} {d : Array Nat} {b j : Nat} (h : ¬ j < b ∨ lt (gA d j) (gA d (j - 1)) = false) : shiftUp lt b j d = d := by
  unfold shiftUp
  by_cases hb : j < b
  · rw [if_pos hb]
    rcases h with h | h
    · exact absurd hb h
    · rw [show lt d[j]! d[j - 1]! = false from h]; rfl
  · rw [if_neg hb]
theorem su_go {lt : Nat → Nat → Bool} {d : Array Nat} {b j : Nat} (hb : j < b) (h : lt (gA d j) (gA d (j - 1)) = true) : shiftUp lt b j d = shiftUp lt b (j + 1) (swp d j (j - 1)) := by
  conv => lhs; unfold shiftUp
  rw [if_pos hb, show lt d[j]! d[j - 1]! = true from h]; rfl
theorem pi_true {lt : Nat → Nat → Bool} {a b s i i2 : Nat} {d : Array Nat} (hi : scanSorted lt d b i = i2) (h : i2 = b) : partialIns lt a b (s + 1) i d = (d, true) := by
  subst hi
  show (if scanSorted lt d b i = b then (d, true) else _) = _
  rw [if_pos h]
theorem pi_false {lt : Nat → Nat → Bool} {a b s i i2 : Nat} {d : Array Nat} (hi : scanSorted lt d b i = i2) (h : ¬ i2 = b) (h5 : b - a < 50) : partialIns lt a b (s + 1) i d = (d, false) := by
  subst hi
  show (if scanSorted lt d b i = b then (d, true) else if b - a < 50 then (d, false) else _) = _
  rw [if_neg h, if_pos h5]
theorem pi_go {lt : Nat → Nat → Bool} {a b s i i2 : Nat} {d d1 d2 d3 : Array Nat} (hi : scanSorted lt d b i = i2) (h : ¬ i2 = b) (h5 : ¬ b - a < 50) (h1 : swp d i2 (i2 - 1) = d1)
    (h2 : (if i2 - a ≥ 2 then shiftDown lt (i2 - 1) d1 else d1) = d2) (h3 : (if b - i2 ≥ 2 then shiftUp lt b (i2 + 1) d2 else d2) = d3) : partialIns lt a b (s + 1) i d = partialIns lt a b s i2 d3 := by
  subst hi h1 h2 h3
  show (if scanSorted lt d b i = b then (d, true) else if b - a < 50 then (d, false) else _) = _
  rw [if_neg h, if_neg h5]
set_option maxHeartbeats 4000000 in
theorem sort_partial (recv : Value) (c : Nat → Nat → Int) (HC : Hid (CmpOK w0 recv ok c)) (n cap a b : Nat) (d0 : Array Nat) (hn : d0.size = n) (hab : a < b) (hbs : b ≤ n) (hsz : n < 1000000000) (W0 : World) (h : Srt w0 blk ok d0 W0) :
    Calls Tryd.prog 91 #[.slice (some ⟨blk, 0, none⟩) n cap, .int .i64 (a : Nat), .int .i64 (b : Nat), .func (.func 59) #[recv] #[]] W0 fun e w' => e = .returned (.bool (Go.Sort.partialInsertionSort (ltC c) d0 a b).2) ∧ Srt w0 blk ok (Go.Sort.partialInsertionSort (ltC c) d0 a b).1 w' := by
  obtain ⟨R, hR⟩ : ∃ R, R = Go.Sort.partialInsertionSort (ltC c) d0 a b := ⟨_, rfl⟩
  rw [← hR]
  have HR := hid (show R = partialIns (ltC c) a b 5 (a + 1) d0 from hR)
  have H := hid h
  clear hR h
  go_enter Tryd.func91, Tryd.ntmps91
  go_wp2
  go_loopw [9, 10] (fun x y wr => ∃ (i s : Nat) (d : Array Nat), x = .int .i64 (i : Nat) ∧ y = .int .i64 (s : Nat) ∧ a < i ∧ i ≤ b ∧ s ≤ 5 ∧ d.size = n ∧ Hid (partialIns (ltC c) a b (5 - s) i d = R) ∧ Srt w0 blk ok d wr) (fun _ y _ => 5 - (intOf y).toNat)
  case atStart => exact ⟨a + 1, 0, d0, by go_num, rfl, by omega, by omega, by omega, hn, hid HR.out.symm, H.out⟩
  case round =>
    obtain ⟨i0, s, d, rfl, rfl, hi0, hib, hs5, hds, htl, hs⟩ := hrel
    have HSl := hid hs
    clear hs
    by_cases hs4 : s < 5
    · obtain ⟨s', hs'⟩ : ∃ s', 5 - s = s' + 1 := ⟨4 - s, by omega⟩
      rw [hs'] at htl
      have HSS := hid hs'
      clear hs'
      go_wp2
      go_loopw [9] (fun x wr => ∃ i : Nat, x = .int .i64 (i : Nat) ∧ a < i ∧ i ≤ b ∧ Hid (scanSorted (ltC c) d b i = scanSorted (ltC c) d b i0) ∧ Srt w0 blk ok d wr) (fun x _ => b + 1 - (intOf x).toNat)
      case atStart => exact ⟨i0, rfl, hi0, hib, rfl, HSl.out⟩
      case round =>
        obtain ⟨i, rfl, hi1, hi2, htu, hs⟩ := hrel
        have HSu := hid hs
        clear hs
        go_upto_region 5 with (fail)
        refine wp_flow (fun _ => none) (Fa.eq (.int .i64 ((i : Nat))) :: Fa.eq (.int .i64 ((b : Nat))) :: Fa.eq (.bool (decide (((i : Nat)) < ((b : Nat))))) :: Fa.eq (.bool (decide (((i : Nat)) < ((b : Nat))))) :: Fa.eq (gd (decide (((i : Nat)) < ((b : Nat)))) (.func (.func 59) #[recv] #[])) :: Fa.eq (gd (decide (((i : Nat)) < ((b : Nat)))) (.slice (some ⟨blk, 0, none⟩) n cap)) :: Fa.eq (gd (decide (((i : Nat)) < ((b : Nat)))) (.int .i64 ((i : Nat)))) :: Fa.eq (gd (decide (((i : Nat)) < ((b : Nat)))) (.pointer (some ⟨blk, i, none⟩))) :: Fa.eq (gd (decide (((i : Nat)) < ((b : Nat)))) (.int .i64 (gA d (i) : Nat))) :: Fa.eq (gd (decide (((i : Nat)) < ((b : Nat)))) (.slice (some ⟨blk, 0, none⟩) n cap)) :: Fa.eq (gd (decide (((i : Nat)) < ((b : Nat)))) (.int .i64 ((i : Nat)))) :: Fa.eq (gd (decide (((i : Nat)) < ((b : Nat)))) (.int .i64 (((i : Nat)) - (1)))) :: Fa.eq (gd (decide (((i : Nat)) < ((b : Nat)))) (.pointer (some ⟨blk, (i - 1), none⟩))) :: Fa.eq (gd (decide (((i : Nat)) < ((b : Nat)))) (.int .i64 (gA d ((i - 1)) : Nat))) :: Fa.eq (gd (decide (((i : Nat)) < ((b : Nat)))) (.int .i64 (c (gA d (i)) (gA d ((i - 1)))))) :: Fa.eq (gd (decide (((i : Nat)) < ((b : Nat)))) (.bool (decide ((c (gA d (i)) (gA d ((i - 1)))) < (0))))) :: Fa.eq (gd (decide (((i : Nat)) < ((b : Nat)))) (.bool (!(decide ((c (gA d (i)) (gA d ((i - 1)))) < (0)))))) :: Fa.eq (.bool ((decide (((i : Nat)) < ((b : Nat)))) && (!(decide ((c (gA d (i)) (gA d ((i - 1)))) < (0)))))) :: []) 141 (by kernel_rfl) rfl (by kernel_rfl) rfl (by kernel_rfl) ?_ ?_ ?_
        · exact fits_plain _ _ rfl
        · refine ⟨?_, ?_, ?_, ?_, ?_, ?_, ?_, ?_, ?_, ?_, ?_, ?_, ?_, ?_, ?_, ?_, ?_, ?_, trivial⟩
          · exact v_move (.inl rfl) rfl (by kernel_rfl) True.intro (Ev.out (by kernel_rfl) rfl)
          · exact v_move (.inl rfl) rfl (by kernel_rfl) True.intro (Ev.out (by kernel_rfl) rfl)
          · exact v_bin (u := .int .i64 ((i : Nat))) (v := .int .i64 ((b : Nat))) (c := .bool (decide (((i : Nat)) < ((b : Nat))))) rfl (fun w => (by go_simp)) rfl (by kernel_rfl) True.intro (Ev.at (i := 0) (by kernel_rfl) (by kernel_rfl) rfl) (Ev.at (i := 1) (by kernel_rfl) (by kernel_rfl) rfl)
          · exact v_move (.inl rfl) rfl (by kernel_rfl) True.intro (Ev.at (i := 2) (by kernel_rfl) (by kernel_rfl) rfl)
          · exact flow_gd (decide (((i : Nat)) < ((b : Nat)))) (.func (.func 59) #[recv] #[]) 3 true (.bool (decide (((i : Nat)) < ((b : Nat))))) rfl (by kernel_rfl) rfl gu_t rfl (fun hg hF hj => v_move (.inl rfl) hF (by kernel_rfl) (guard_of rfl (by kernel_rfl) (by kernel_rfl) hj) (Ev.out (by kernel_rfl) rfl))
          · exact flow_gd (decide (((i : Nat)) < ((b : Nat)))) (.slice (some ⟨blk, 0, none⟩) n cap) 3 true (.bool (decide (((i : Nat)) < ((b : Nat))))) rfl (by kernel_rfl) rfl gu_t rfl (fun hg hF hj => v_move (.inl rfl) hF (by kernel_rfl) (guard_of rfl (by kernel_rfl) (by kernel_rfl) hj) (Ev.out (by kernel_rfl) rfl))
          · exact flow_gd (decide (((i : Nat)) < ((b : Nat)))) (.int .i64 ((i : Nat))) 3 true (.bool (decide (((i : Nat)) < ((b : Nat))))) rfl (by kernel_rfl) rfl gu_t rfl (fun hg hF hj => v_move (.inl rfl) hF (by kernel_rfl) (guard_of rfl (by kernel_rfl) (by kernel_rfl) hj) (Ev.out (by kernel_rfl) rfl))
          · exact flow_gd (decide (((i : Nat)) < ((b : Nat)))) (.pointer (some ⟨blk, i, none⟩)) 3 true (.bool (decide (((i : Nat)) < ((b : Nat))))) rfl (by kernel_rfl) rfl gu_t rfl (fun hg hF hj => v_iaddr (u := .slice (some ⟨blk, 0, none⟩) n cap) (v := .int .i64 ((i : Nat))) (c := .pointer (some ⟨blk, i, none⟩)) rfl (fun w => idx_int (by have := of_decide_eq_true hg; omega) (rfl) w) hF (by kernel_rfl) (guard_of rfl (by kernel_rfl) (by kernel_rfl) hj) (Ev.at (i := 5) (by kernel_rfl) (by kernel_rfl) (fe rfl (gd_t hg))) (Ev.at (i := 6) (by kernel_rfl) (by kernel_rfl) (fe rfl (gd_t hg))))
          · exact flow_gd (decide (((i : Nat)) < ((b : Nat)))) (.int .i64 (gA d (i) : Nat)) 3 true (.bool (decide (((i : Nat)) < ((b : Nat))))) rfl (by kernel_rfl) rfl gu_t rfl (fun hg hF hj => v_load (u := .pointer (some ⟨blk, i, none⟩)) (c := .int .i64 (gA d (i) : Nat)) rfl (fun w hB => ld_int ((HSu.out.dr).later hB) (by have := of_decide_eq_true hg; omega)) hF (by kernel_rfl) (guard_of rfl (by kernel_rfl) (by kernel_rfl) hj) (Ev.at (i := 7) (by kernel_rfl) (by kernel_rfl) (fe rfl (gd_t hg))))
          · exact flow_gd (decide (((i : Nat)) < ((b : Nat)))) (.slice (some ⟨blk, 0, none⟩) n cap) 3 true (.bool (decide (((i : Nat)) < ((b : Nat))))) rfl (by kernel_rfl) rfl gu_t rfl (fun hg hF hj => v_move (.inl rfl) hF (by kernel_rfl) (guard_of rfl (by kernel_rfl) (by kernel_rfl) hj) (Ev.out (by kernel_rfl) rfl))
          · exact flow_gd (decide (((i : Nat)) < ((b : Nat)))) (.int .i64 ((i : Nat))) 3 true (.bool (decide (((i : Nat)) < ((b : Nat))))) rfl (by kernel_rfl) rfl gu_t rfl (fun hg hF hj => v_move (.inl rfl) hF (by kernel_rfl) (guard_of rfl (by kernel_rfl) (by kernel_rfl) hj) (Ev.out (by kernel_rfl) rfl))
          · exact flow_gd (decide (((i : Nat)) < ((b : Nat)))) (.int .i64 (((i : Nat)) - (1))) 3 true (.bool (decide (((i : Nat)) < ((b : Nat))))) rfl (by kernel_rfl) rfl gu_t rfl (fun hg hF hj => v_bin (u := .int .i64 ((i : Nat))) (v := .int .i64 (1)) (c := .int .i64 (((i : Nat)) - (1))) rfl (fun w => (bin_sub_i64 (by omega) (by omega) w)) hF (by kernel_rfl) (guard_of rfl (by kernel_rfl) (by kernel_rfl) hj) (Ev.at (i := 10) (by kernel_rfl) (by kernel_rfl) (fe rfl (gd_t hg))) Ev.const)
          · exact flow_gd (decide (((i : Nat)) < ((b : Nat)))) (.pointer (some ⟨blk, (i - 1), none⟩)) 3 true (.bool (decide (((i : Nat)) < ((b : Nat))))) rfl (by kernel_rfl) rfl gu_t rfl (fun hg hF hj => v_iaddr (u := .slice (some ⟨blk, 0, none⟩) n cap) (v := .int .i64 (((i : Nat)) - (1))) (c := .pointer (some ⟨blk, (i - 1), none⟩)) rfl (fun w => idx_int (by have := of_decide_eq_true hg; omega) (by have := of_decide_eq_true hg; omega) w) hF (by kernel_rfl) (guard_of rfl (by kernel_rfl) (by kernel_rfl) hj) (Ev.at (i := 9) (by kernel_rfl) (by kernel_rfl) (fe rfl (gd_t hg))) (Ev.at (i := 11) (by kernel_rfl) (by kernel_rfl) (fe rfl (gd_t hg))))
          · exact flow_gd (decide (((i : Nat)) < ((b : Nat)))) (.int .i64 (gA d ((i - 1)) : Nat)) 3 true (.bool (decide (((i : Nat)) < ((b : Nat))))) rfl (by kernel_rfl) rfl gu_t rfl (fun hg hF hj => v_load (u := .pointer (some ⟨blk, (i - 1), none⟩)) (c := .int .i64 (gA d ((i - 1)) : Nat)) rfl (fun w hB => ld_int ((HSu.out.dr).later hB) (by have := of_decide_eq_true hg; omega)) hF (by kernel_rfl) (guard_of rfl (by kernel_rfl) (by kernel_rfl) hj) (Ev.at (i := 12) (by kernel_rfl) (by kernel_rfl) (fe rfl (gd_t hg))))
          · exact flow_gd (decide (((i : Nat)) < ((b : Nat)))) (.int .i64 (c (gA d (i)) (gA d ((i - 1))))) 3 true (.bool (decide (((i : Nat)) < ((b : Nat))))) rfl (by kernel_rfl) rfl gu_t rfl (fun hg hF hj => v_callv (f := 59) (pre := #[recv]) (vs := #[.int .i64 (gA d (i) : Nat), .int .i64 (gA d ((i - 1)) : Nat)]) (c := .int .i64 (c (gA d (i)) (gA d ((i - 1))))) rfl (fun args w => rfl) (fun w hB => (HC.out.call _ ((HSu.out.dr).later hB).below _ _ (((HSu.out.dr).later hB).ok _ (by have := of_decide_eq_true hg; omega)) (((HSu.out.dr).later hB).ok _ (by have := of_decide_eq_true hg; omega)))) hF (by kernel_rfl) (guard_of rfl (by kernel_rfl) (by kernel_rfl) hj) (Ev.at (i := 4) (by kernel_rfl) (by kernel_rfl) (fe rfl (gd_t hg))) (ev2 (Ev.at (i := 8) (by kernel_rfl) (by kernel_rfl) (fe rfl (gd_t hg))) (Ev.at (i := 13) (by kernel_rfl) (by kernel_rfl) (fe rfl (gd_t hg)))))
          · exact flow_gd (decide (((i : Nat)) < ((b : Nat)))) (.bool (decide ((c (gA d (i)) (gA d ((i - 1)))) < (0)))) 3 true (.bool (decide (((i : Nat)) < ((b : Nat))))) rfl (by kernel_rfl) rfl gu_t rfl (fun hg hF hj => v_bin (u := .int .i64 (c (gA d (i)) (gA d ((i - 1))))) (v := .int .i64 (0)) (c := .bool (decide ((c (gA d (i)) (gA d ((i - 1)))) < (0)))) rfl (fun w => (by go_simp)) hF (by kernel_rfl) (guard_of rfl (by kernel_rfl) (by kernel_rfl) hj) (Ev.at (i := 14) (by kernel_rfl) (by kernel_rfl) (fe rfl (gd_t hg))) Ev.const)
          · exact flow_gd (decide (((i : Nat)) < ((b : Nat)))) (.bool (!(decide ((c (gA d (i)) (gA d ((i - 1)))) < (0))))) 3 true (.bool (decide (((i : Nat)) < ((b : Nat))))) rfl (by kernel_rfl) rfl gu_t rfl (fun hg hF hj => v_not rfl hF (by kernel_rfl) (guard_of rfl (by kernel_rfl) (by kernel_rfl) hj) (Ev.at (i := 15) (by kernel_rfl) (by kernel_rfl) (fe rfl (gd_t hg))))
          · exact v_and (p := decide (((i : Nat)) < ((b : Nat)))) (q := !(decide ((c (gA d (i)) (gA d ((i - 1)))) < (0)))) rfl rfl (by kernel_rfl) True.intro (Ev.at (i := 3) (by kernel_rfl) (by kernel_rfl) rfl) (fun hp => (Ev.at (i := 16) (by kernel_rfl) (by kernel_rfl) (fe rfl (gd_t hp))))
        intro _ vs wu hBu hf
        have e0 : vs 0 = .int .i64 ((i : Nat)) := hf 0 (by decide)
        have e1 : vs 1 = .int .i64 ((b : Nat)) := hf 1 (by decide)
        have e2 : vs 2 = .bool (decide (((i : Nat)) < ((b : Nat)))) := hf 2 (by decide)
        have e3 : vs 3 = .bool (decide (((i : Nat)) < ((b : Nat)))) := hf 3 (by decide)
        have e4 : vs 4 = gd (decide (((i : Nat)) < ((b : Nat)))) (.func (.func 59) #[recv] #[]) := hf 4 (by decide)
        have e5 : vs 5 = gd (decide (((i : Nat)) < ((b : Nat)))) (.slice (some ⟨blk, 0, none⟩) n cap) := hf 5 (by decide)
        have e6 : vs 6 = gd (decide (((i : Nat)) < ((b : Nat)))) (.int .i64 ((i : Nat))) := hf 6 (by decide)
        have e7 : vs 7 = gd (decide (((i : Nat)) < ((b : Nat)))) (.pointer (some ⟨blk, i, none⟩)) := hf 7 (by decide)
        have e8 : vs 8 = gd (decide (((i : Nat)) < ((b : Nat)))) (.int .i64 (gA d (i) : Nat)) := hf 8 (by decide)
        have e9 : vs 9 = gd (decide (((i : Nat)) < ((b : Nat)))) (.slice (some ⟨blk, 0, none⟩) n cap) := hf 9 (by decide)
        have e10 : vs 10 = gd (decide (((i : Nat)) < ((b : Nat)))) (.int .i64 ((i : Nat))) := hf 10 (by decide)
        have e11 : vs 11 = gd (decide (((i : Nat)) < ((b : Nat)))) (.int .i64 (((i : Nat)) - (1))) := hf 11 (by decide)
        have e12 : vs 12 = gd (decide (((i : Nat)) < ((b : Nat)))) (.pointer (some ⟨blk, (i - 1), none⟩)) := hf 12 (by decide)
        have e13 : vs 13 = gd (decide (((i : Nat)) < ((b : Nat)))) (.int .i64 (gA d ((i - 1)) : Nat)) := hf 13 (by decide)
        have e14 : vs 14 = gd (decide (((i : Nat)) < ((b : Nat)))) (.int .i64 (c (gA d (i)) (gA d ((i - 1))))) := hf 14 (by decide)
        have e15 : vs 15 = gd (decide (((i : Nat)) < ((b : Nat)))) (.bool (decide ((c (gA d (i)) (gA d ((i - 1)))) < (0)))) := hf 15 (by decide)
        have e16 : vs 16 = gd (decide (((i : Nat)) < ((b : Nat)))) (.bool (!(decide ((c (gA d (i)) (gA d ((i - 1)))) < (0))))) := hf 16 (by decide)
        have e17 : vs 17 = .bool ((decide (((i : Nat)) < ((b : Nat)))) && (!(decide ((c (gA d (i)) (gA d ((i - 1)))) < (0))))) := hf 17 (by decide)
        obtain ⟨z, hz⟩ : ∃ z : Bool, ((decide (((i : Nat)) < ((b : Nat)))) && (!(decide ((c (gA d (i)) (gA d ((i - 1)))) < (0))))) = z := ⟨_, rfl⟩
        rw [hz] at e17
        have HZ := hid hz
        clear hz
        simp only [fill, List.setIfInBounds_toArray, List.set_cons_zero, List.set_cons_succ, e0, e1, e2, e3, e4, e5, e6, e7, e8, e9, e10, e11, e12, e13, e14, e15, e16, e17]
        clear e0 e1 e2 e3 e4 e5 e6 e7 e8 e9 e10 e11 e12 e13 e14 e15 e16 e17
        have HSv := hid (HSu.out.later hBu)
        have hz := HZ.out
        clear hBu hf HZ
        cases z
        · have hst := ss_stop (lt := ltC c) (d := d) (b := b) (i := i) (by
            rw [Bool.and_eq_false_iff] at hz
            rcases hz with hz | hz
            · left; have := of_decide_eq_false hz; omega
            · right; simpa [ltC] using hz)
          have HI := hid (htu.out.symm.trans hst)
          clear hz hst
          by_cases hne5 : i = b
          · have hki : ((i : Int) == (b : Int)) = true := by simp [hne5]
            have HT := hid (htl.out.symm.trans (pi_true HI.out hne5))
            have HNE := hid hne5
            clear hne5
            go_wp2
            go_ret
            rw [HT.out]
            exact ⟨rfl, HSv.out⟩
          · have hki : ((i : Int) == (b : Int)) = false := by simp; omega
            by_cases h50 : b - a < 50
            · have k4 : decide ((b : Int) - (a : Int) < 50) = true := decide_eq_true (by omega)
              have HT := hid (htl.out.symm.trans (pi_false HI.out hne5 h50))
              go_wp2
              go_ret
              rw [HT.out]
              exact ⟨rfl, HSv.out⟩
            · have k4 : decide ((b : Int) - (a : Int) < 50) = false := decide_eq_false (by omega)
              have c0 := HSv.out.cell (i := i) (by omega)
              have c1 := HSv.out.cell (i := i - 1) (by omega)
              have f0 := HSv.out.free i
              have f1 := HSv.out.free (i - 1)
              have q0 : (i : Int) < (n : Int) := by omega
              have q1 : (i : Int) - 1 = ((i - 1 : Nat) : Int) := by omega
              have q2 : ((i - 1 : Nat) : Int) < (n : Int) := by omega
              have hne : i ≠ i - 1 := by omega
              have HSY := hid (HSv.out.swap (i := i) (j := i - 1) (by omega) (by omega))
              go_upto_region 11 with (fail)
              go_region
              refine gen_exit (fun W => Srt w0 blk ok (swp d i (i - 1)) W) HSY.out.dr ?_
              intro W5 hs5
              have HSX := hid hs5
              clear hs5 c0 c1 f0 f1 HSY hne q0 q1 q2
              by_cases ha2 : 2 ≤ i - a
              · have k5 : decide (2 ≤ (i : Int) - (a : Int)) = true := decide_eq_true (by omega)
                have q5 : (i : Int) - 1 = ((i - 1 : Nat) : Int) := by omega
                go_wp2
                go_loopw [11] (fun x wr => ∃ (j : Nat) (du : Array Nat), x = .int .i64 (j : Nat) ∧ j ≤ i - 1 ∧ du.size = n ∧ Hid (shiftDown (ltC c) j du = shiftDown (ltC c) (i - 1) (swp d i (i - 1))) ∧ Srt w0 blk ok du wr) (fun x _ => (intOf x).toNat)
                case atStart => exact ⟨i - 1, swp d i (i - 1), rfl, Nat.le_refl _, by rw [Go.Sort.size_swp]; exact hds, rfl, HSX.out⟩
                case round =>
                  obtain ⟨j, du, rfl, hj1, he2, htd, hs3⟩ := hrel
                  have HD := hid hs3
                  clear hs3
                  by_cases hjb : 1 ≤ j
                  · have k7 : decide (1 ≤ (j : Int)) = true := decide_eq_true (by omega)
                    go_upto_region 16 with (fail)
                    refine wp_flow (fun _ => none) (Fa.eq (.func (.func 59) #[recv] #[]) :: Fa.eq (.slice (some ⟨blk, 0, none⟩) n cap) :: Fa.eq (.int .i64 ((j : Nat))) :: Fa.eq (.pointer (some ⟨blk, j, none⟩)) :: Fa.eq (.int .i64 (gA du (j) : Nat)) :: Fa.eq (.slice (some ⟨blk, 0, none⟩) n cap) :: Fa.eq (.int .i64 ((j : Nat))) :: Fa.eq (.int .i64 (((j : Nat)) - (1))) :: Fa.eq (.pointer (some ⟨blk, (j - 1), none⟩)) :: Fa.eq (.int .i64 (gA du ((j - 1)) : Nat)) :: Fa.eq (.int .i64 (c (gA du (j)) (gA du ((j - 1))))) :: Fa.eq (.bool (decide ((c (gA du (j)) (gA du ((j - 1)))) < (0)))) :: Fa.eq (.bool (!(decide ((c (gA du (j)) (gA du ((j - 1)))) < (0))))) :: []) 141 (by kernel_rfl) rfl (by kernel_rfl) rfl (by kernel_rfl) ?_ ?_ ?_
                    · exact fits_plain _ _ rfl
                    · refine ⟨?_, ?_, ?_, ?_, ?_, ?_, ?_, ?_, ?_, ?_, ?_, ?_, ?_, trivial⟩
                      · exact v_move (.inl rfl) rfl (by kernel_rfl) True.intro (Ev.out (by kernel_rfl) rfl)
                      · exact v_move (.inl rfl) rfl (by kernel_rfl) True.intro (Ev.out (by kernel_rfl) rfl)
                      · exact v_move (.inl rfl) rfl (by kernel_rfl) True.intro (Ev.out (by kernel_rfl) rfl)
                      · exact v_iaddr (u := .slice (some ⟨blk, 0, none⟩) n cap) (v := .int .i64 ((j : Nat))) (c := .pointer (some ⟨blk, j, none⟩)) rfl (fun w => idx_int (by omega) (rfl) w) rfl (by kernel_rfl) True.intro (Ev.at (i := 1) (by kernel_rfl) (by kernel_rfl) rfl) (Ev.at (i := 2) (by kernel_rfl) (by kernel_rfl) rfl)
                      · exact v_load (u := .pointer (some ⟨blk, j, none⟩)) (c := .int .i64 (gA du (j) : Nat)) rfl (fun w hB => ld_int ((HD.out.dr).later hB) (by omega)) rfl (by kernel_rfl) True.intro (Ev.at (i := 3) (by kernel_rfl) (by kernel_rfl) rfl)
                      · exact v_move (.inl rfl) rfl (by kernel_rfl) True.intro (Ev.out (by kernel_rfl) rfl)
                      · exact v_move (.inl rfl) rfl (by kernel_rfl) True.intro (Ev.out (by kernel_rfl) rfl)
                      · exact v_bin (u := .int .i64 ((j : Nat))) (v := .int .i64 (1)) (c := .int .i64 (((j : Nat)) - (1))) rfl (fun w => (bin_sub_i64 (by omega) (by omega) w)) rfl (by kernel_rfl) True.intro (Ev.at (i := 6) (by kernel_rfl) (by kernel_rfl) rfl) Ev.const
                      · exact v_iaddr (u := .slice (some ⟨blk, 0, none⟩) n cap) (v := .int .i64 (((j : Nat)) - (1))) (c := .pointer (some ⟨blk, (j - 1), none⟩)) rfl (fun w => idx_int (by omega) (by omega) w) rfl (by kernel_rfl) True.intro (Ev.at (i := 5) (by kernel_rfl) (by kernel_rfl) rfl) (Ev.at (i := 7) (by kernel_rfl) (by kernel_rfl) rfl)
                      · exact v_load (u := .pointer (some ⟨blk, (j - 1), none⟩)) (c := .int .i64 (gA du ((j - 1)) : Nat)) rfl (fun w hB => ld_int ((HD.out.dr).later hB) (by omega)) rfl (by kernel_rfl) True.intro (Ev.at (i := 8) (by kernel_rfl) (by kernel_rfl) rfl)
                      · exact v_callv (f := 59) (pre := #[recv]) (vs := #[.int .i64 (gA du (j) : Nat), .int .i64 (gA du ((j - 1)) : Nat)]) (c := .int .i64 (c (gA du (j)) (gA du ((j - 1))))) rfl (fun args w => rfl) (fun w hB => (HC.out.call _ ((HD.out.dr).later hB).below _ _ (((HD.out.dr).later hB).ok _ (by omega)) (((HD.out.dr).later hB).ok _ (by omega)))) rfl (by kernel_rfl) True.intro (Ev.at (i := 0) (by kernel_rfl) (by kernel_rfl) rfl) (ev2 (Ev.at (i := 4) (by kernel_rfl) (by kernel_rfl) rfl) (Ev.at (i := 9) (by kernel_rfl) (by kernel_rfl) rfl))
                      · exact v_bin (u := .int .i64 (c (gA du (j)) (gA du ((j - 1))))) (v := .int .i64 (0)) (c := .bool (decide ((c (gA du (j)) (gA du ((j - 1)))) < (0)))) rfl (fun w => (by go_simp)) rfl (by kernel_rfl) True.intro (Ev.at (i := 10) (by kernel_rfl) (by kernel_rfl) rfl) Ev.const
                      · exact v_not rfl rfl (by kernel_rfl) True.intro (Ev.at (i := 11) (by kernel_rfl) (by kernel_rfl) rfl)
                    intro _ vs wu hBu hf
                    have e0 : vs 0 = .func (.func 59) #[recv] #[] := hf 0 (by decide)
                    have e1 : vs 1 = .slice (some ⟨blk, 0, none⟩) n cap := hf 1 (by decide)
                    have e2 : vs 2 = .int .i64 ((j : Nat)) := hf 2 (by decide)
                    have e3 : vs 3 = .pointer (some ⟨blk, j, none⟩) := hf 3 (by decide)
                    have e4 : vs 4 = .int .i64 (gA du (j) : Nat) := hf 4 (by decide)
                    have e5 : vs 5 = .slice (some ⟨blk, 0, none⟩) n cap := hf 5 (by decide)
                    have e6 : vs 6 = .int .i64 ((j : Nat)) := hf 6 (by decide)
                    have e7 : vs 7 = .int .i64 (((j : Nat)) - (1)) := hf 7 (by decide)
                    have e8 : vs 8 = .pointer (some ⟨blk, (j - 1), none⟩) := hf 8 (by decide)
                    have e9 : vs 9 = .int .i64 (gA du ((j - 1)) : Nat) := hf 9 (by decide)
                    have e10 : vs 10 = .int .i64 (c (gA du (j)) (gA du ((j - 1)))) := hf 10 (by decide)
                    have e11 : vs 11 = .bool (decide ((c (gA du (j)) (gA du ((j - 1)))) < (0))) := hf 11 (by decide)
                    have e12 : vs 12 = .bool (!(decide ((c (gA du (j)) (gA du ((j - 1)))) < (0)))) := hf 12 (by decide)
                    obtain ⟨z, hz⟩ : ∃ z : Bool, (!(decide ((c (gA du (j)) (gA du ((j - 1)))) < (0)))) = z := ⟨_, rfl⟩
                    rw [hz] at e12
                    have HZ := hid hz
                    clear hz
                    simp only [fill, List.setIfInBounds_toArray, List.set_cons_zero, List.set_cons_succ, e0, e1, e2, e3, e4, e5, e6, e7, e8, e9, e10, e11, e12]
                    clear e0 e1 e2 e3 e4 e5 e6 e7 e8 e9 e10 e11 e12
                    have HD2 := hid (HD.out.later hBu)
                    have hz := HZ.out
                    clear hBu hf HZ
                    cases z
                    · have hlt : ltC c (gA du j) (gA du (j - 1)) = true := by simpa [ltC] using hz
                      have HT := hid (htd.out.symm.trans (sd_go hjb hlt))
                      have c0 := HD2.out.cell (i := j) (by omega)
                      have c1 := HD2.out.cell (i := j - 1) (by omega)
                      have f0 := HD2.out.free j
                      have f1 := HD2.out.free (j - 1)
                      have q0 : (j : Int) < (n : Int) := by omega
                      have q1 : (j : Int) - 1 = ((j - 1 : Nat) : Int) := by omega
                      have q2 : ((j - 1 : Nat) : Int) < (n : Int) := by omega
                      have hne : j ≠ j - 1 := by omega
                      have HX := hid (HD2.out.swap (i := j) (j := j - 1) (by omega) (by omega))
                      clear hz hlt
                      go_wp2
                      go_region
                      go_wp2
                      go_roundw
                      case rel => exact ⟨j - 1, swp du j (j - 1), by go_num, by omega, by rw [Go.Sort.size_swp]; exact he2, hid HT.out.symm, HX.out.dr⟩
                      case measure => simp [intOf]; omega
                    · have hlt : ltC c (gA du j) (gA du (j - 1)) = false := by simpa [ltC] using hz
                      have HTD := hid (htd.out.symm.trans (sd_stop (.inr hlt)))
                      clear hz hlt
                      by_cases hb2 : 2 ≤ b - i
                      · have k6 : decide (2 ≤ (b : Int) - (i : Int)) = true := decide_eq_true (by omega)
                        go_wp2
                        go_loopw [12] (fun x wr => ∃ (j : Nat) (dv : Array Nat), x = .int .i64 (j : Nat) ∧ i < j ∧ j ≤ b ∧ dv.size = n ∧ Hid (shiftUp (ltC c) b j dv = shiftUp (ltC c) b (i + 1) du) ∧ Srt w0 blk ok dv wr) (fun x _ => b + 1 - (intOf x).toNat)
                        case atStart => exact ⟨i + 1, du, by go_num, by omega, by omega, by (try simp only [Go.Sort.size_swp]); assumption, rfl, HD2.out⟩
                        case round =>
                          obtain ⟨j, dv, rfl, hj1, hj2, he3, htu, hs3⟩ := hrel
                          have HU := hid hs3
                          clear hs3
                          by_cases hjb : j < b
                          · have k7 : decide ((j : Int) < (b : Int)) = true := decide_eq_true (by omega)
                            go_upto_region 22 with (fail)
                            refine wp_flow (fun _ => none) (Fa.eq (.func (.func 59) #[recv] #[]) :: Fa.eq (.slice (some ⟨blk, 0, none⟩) n cap) :: Fa.eq (.int .i64 ((j : Nat))) :: Fa.eq (.pointer (some ⟨blk, j, none⟩)) :: Fa.eq (.int .i64 (gA dv (j) : Nat)) :: Fa.eq (.slice (some ⟨blk, 0, none⟩) n cap) :: Fa.eq (.int .i64 ((j : Nat))) :: Fa.eq (.int .i64 (((j : Nat)) - (1))) :: Fa.eq (.pointer (some ⟨blk, (j - 1), none⟩)) :: Fa.eq (.int .i64 (gA dv ((j - 1)) : Nat)) :: Fa.eq (.int .i64 (c (gA dv (j)) (gA dv ((j - 1))))) :: Fa.eq (.bool (decide ((c (gA dv (j)) (gA dv ((j - 1)))) < (0)))) :: Fa.eq (.bool (!(decide ((c (gA dv (j)) (gA dv ((j - 1)))) < (0))))) :: []) 141 (by kernel_rfl) rfl (by kernel_rfl) rfl (by kernel_rfl) ?_ ?_ ?_
                            · exact fits_plain _ _ rfl
                            · refine ⟨?_, ?_, ?_, ?_, ?_, ?_, ?_, ?_, ?_, ?_, ?_, ?_, ?_, trivial⟩
                              · exact v_move (.inl rfl) rfl (by kernel_rfl) True.intro (Ev.out (by kernel_rfl) rfl)
                              · exact v_move (.inl rfl) rfl (by kernel_rfl) True.intro (Ev.out (by kernel_rfl) rfl)
                              · exact v_move (.inl rfl) rfl (by kernel_rfl) True.intro (Ev.out (by kernel_rfl) rfl)
                              · exact v_iaddr (u := .slice (some ⟨blk, 0, none⟩) n cap) (v := .int .i64 ((j : Nat))) (c := .pointer (some ⟨blk, j, none⟩)) rfl (fun w => idx_int (by omega) (rfl) w) rfl (by kernel_rfl) True.intro (Ev.at (i := 1) (by kernel_rfl) (by kernel_rfl) rfl) (Ev.at (i := 2) (by kernel_rfl) (by kernel_rfl) rfl)
                              · exact v_load (u := .pointer (some ⟨blk, j, none⟩)) (c := .int .i64 (gA dv (j) : Nat)) rfl (fun w hB => ld_int ((HU.out.dr).later hB) (by omega)) rfl (by kernel_rfl) True.intro (Ev.at (i := 3) (by kernel_rfl) (by kernel_rfl) rfl)
                              · exact v_move (.inl rfl) rfl (by kernel_rfl) True.intro (Ev.out (by kernel_rfl) rfl)
                              · exact v_move (.inl rfl) rfl (by kernel_rfl) True.intro (Ev.out (by kernel_rfl) rfl)
                              · exact v_bin (u := .int .i64 ((j : Nat))) (v := .int .i64 (1)) (c := .int .i64 (((j : Nat)) - (1))) rfl (fun w => (bin_sub_i64 (by omega) (by omega) w)) rfl (by kernel_rfl) True.intro (Ev.at (i := 6) (by kernel_rfl) (by kernel_rfl) rfl) Ev.const
                              · exact v_iaddr (u := .slice (some ⟨blk, 0, none⟩) n cap) (v := .int .i64 (((j : Nat)) - (1))) (c := .pointer (some ⟨blk, (j - 1), none⟩)) rfl (fun w => idx_int (by omega) (by omega) w) rfl (by kernel_rfl) True.intro (Ev.at (i := 5) (by kernel_rfl) (by kernel_rfl) rfl) (Ev.at (i := 7) (by kernel_rfl) (by kernel_rfl) rfl)
                              · exact v_load (u := .pointer (some ⟨blk, (j - 1), none⟩)) (c := .int .i64 (gA dv ((j - 1)) : Nat)) rfl (fun w hB => ld_int ((HU.out.dr).later hB) (by omega)) rfl (by kernel_rfl) True.intro (Ev.at (i := 8) (by kernel_rfl) (by kernel_rfl) rfl)
                              · exact v_callv (f := 59) (pre := #[recv]) (vs := #[.int .i64 (gA dv (j) : Nat), .int .i64 (gA dv ((j - 1)) : Nat)]) (c := .int .i64 (c (gA dv (j)) (gA dv ((j - 1))))) rfl (fun args w => rfl) (fun w hB => (HC.out.call _ ((HU.out.dr).later hB).below _ _ (((HU.out.dr).later hB).ok _ (by omega)) (((HU.out.dr).later hB).ok _ (by omega)))) rfl (by kernel_rfl) True.intro (Ev.at (i := 0) (by kernel_rfl) (by kernel_rfl) rfl) (ev2 (Ev.at (i := 4) (by kernel_rfl) (by kernel_rfl) rfl) (Ev.at (i := 9) (by kernel_rfl) (by kernel_rfl) rfl))
                              · exact v_bin (u := .int .i64 (c (gA dv (j)) (gA dv ((j - 1))))) (v := .int .i64 (0)) (c := .bool (decide ((c (gA dv (j)) (gA dv ((j - 1)))) < (0)))) rfl (fun w => (by go_simp)) rfl (by kernel_rfl) True.intro (Ev.at (i := 10) (by kernel_rfl) (by kernel_rfl) rfl) Ev.const
                              · exact v_not rfl rfl (by kernel_rfl) True.intro (Ev.at (i := 11) (by kernel_rfl) (by kernel_rfl) rfl)
                            intro _ vs wu hBu hf
                            have e0 : vs 0 = .func (.func 59) #[recv] #[] := hf 0 (by decide)
                            have e1 : vs 1 = .slice (some ⟨blk, 0, none⟩) n cap := hf 1 (by decide)
                            have e2 : vs 2 = .int .i64 ((j : Nat)) := hf 2 (by decide)
                            have e3 : vs 3 = .pointer (some ⟨blk, j, none⟩) := hf 3 (by decide)
                            have e4 : vs 4 = .int .i64 (gA dv (j) : Nat) := hf 4 (by decide)
                            have e5 : vs 5 = .slice (some ⟨blk, 0, none⟩) n cap := hf 5 (by decide)
                            have e6 : vs 6 = .int .i64 ((j : Nat)) := hf 6 (by decide)
                            have e7 : vs 7 = .int .i64 (((j : Nat)) - (1)) := hf 7 (by decide)
                            have e8 : vs 8 = .pointer (some ⟨blk, (j - 1), none⟩) := hf 8 (by decide)
                            have e9 : vs 9 = .int .i64 (gA dv ((j - 1)) : Nat) := hf 9 (by decide)
                            have e10 : vs 10 = .int .i64 (c (gA dv (j)) (gA dv ((j - 1)))) := hf 10 (by decide)
                            have e11 : vs 11 = .bool (decide ((c (gA dv (j)) (gA dv ((j - 1)))) < (0))) := hf 11 (by decide)
                            have e12 : vs 12 = .bool (!(decide ((c (gA dv (j)) (gA dv ((j - 1)))) < (0)))) := hf 12 (by decide)
                            obtain ⟨z, hz⟩ : ∃ z : Bool, (!(decide ((c (gA dv (j)) (gA dv ((j - 1)))) < (0)))) = z := ⟨_, rfl⟩
                            rw [hz] at e12
                            have HZ := hid hz
                            clear hz
                            simp only [fill, List.setIfInBounds_toArray, List.set_cons_zero, List.set_cons_succ, e0, e1, e2, e3, e4, e5, e6, e7, e8, e9, e10, e11, e12]
                            clear e0 e1 e2 e3 e4 e5 e6 e7 e8 e9 e10 e11 e12
                            have HU2 := hid (HU.out.later hBu)
                            have hz := HZ.out
                            clear hBu hf HZ
                            cases z
                            · have hlt : ltC c (gA dv j) (gA dv (j - 1)) = true := by simpa [ltC] using hz
                              have HT := hid (htu.out.symm.trans (su_go hjb hlt))
                              have c0 := HU2.out.cell (i := j) (by omega)
                              have c1 := HU2.out.cell (i := j - 1) (by omega)
                              have f0 := HU2.out.free j
                              have f1 := HU2.out.free (j - 1)
                              have q0 : (j : Int) < (n : Int) := by omega
                              have q1 : (j : Int) - 1 = ((j - 1 : Nat) : Int) := by omega
                              have q2 : ((j - 1 : Nat) : Int) < (n : Int) := by omega
                              have hne : j ≠ j - 1 := by omega
                              have HX := hid (HU2.out.swap (i := j) (j := j - 1) (by omega) (by omega))
                              clear hz hlt
                              go_wp2
                              go_region
                              go_wp2
                              go_roundw
                              case rel => exact ⟨j + 1, swp dv j (j - 1), by go_num, by omega, by omega, by rw [Go.Sort.size_swp]; exact he3, hid HT.out.symm, HX.out.dr⟩
                              case measure => simp [intOf]; omega
                            · have hlt : ltC c (gA dv j) (gA dv (j - 1)) = false := by simpa [ltC] using hz
                              have HT := hid (htu.out.symm.trans (su_stop (.inr hlt)))
                              clear hz hlt
                              go_wp2
                              have HPG := hid (pi_go (s := s') HI.out hne5 h50 rfl ((if_pos ha2).trans HTD.out) ((if_pos hb2).trans HT.out))
                              go_roundw
                              case rel => exact ⟨i, s + 1, dv, rfl, by go_num, by omega, by omega, by omega, by (try simp only [Go.Sort.size_swp]); assumption, hid (by rw [show 5 - (s + 1) = s' by have := HSS.out; omega, ← htl.out]; exact HPG.out.symm), HU2.out⟩
                              case measure => simp [intOf]; omega
                          · have k7 : decide ((j : Int) < (b : Int)) = false := decide_eq_false (by omega)
                            have HT := hid (htu.out.symm.trans (su_stop (.inl hjb)))
                            have HU2 := HU
                            go_wp2
                            have HPG := hid (pi_go (s := s') HI.out hne5 h50 rfl ((if_pos ha2).trans HTD.out) ((if_pos hb2).trans HT.out))
                            go_roundw
                            case rel => exact ⟨i, s + 1, dv, rfl, by go_num, by omega, by omega, by omega, by (try simp only [Go.Sort.size_swp]); assumption, hid (by rw [show 5 - (s + 1) = s' by have := HSS.out; omega, ← htl.out]; exact HPG.out.symm), HU2.out⟩
                            case measure => simp [intOf]; omega
                      · have k6 : decide (2 ≤ (b : Int) - (i : Int)) = false := decide_eq_false (by omega)
                        go_wp2
                        have HPG := hid (pi_go (s := s') HI.out hne5 h50 rfl ((if_pos ha2).trans HTD.out) (if_neg hb2))
                        go_roundw
                        case rel => exact ⟨i, s + 1, du, rfl, by go_num, by omega, by omega, by omega, by (try simp only [Go.Sort.size_swp]); assumption, hid (by rw [show 5 - (s + 1) = s' by have := HSS.out; omega, ← htl.out]; exact HPG.out.symm), HD2.out⟩
                        case measure => simp [intOf]; omega
                  · have k7 : decide (1 ≤ (j : Int)) = false := decide_eq_false (by omega)
                    have HTD := hid (htd.out.symm.trans (sd_stop (.inl (by omega))))
                    have HD2 := HD
                    by_cases hb2 : 2 ≤ b - i
                    · have k6 : decide (2 ≤ (b : Int) - (i : Int)) = true := decide_eq_true (by omega)
                      go_wp2
                      go_loopw [12] (fun x wr => ∃ (j : Nat) (dv : Array Nat), x = .int .i64 (j : Nat) ∧ i < j ∧ j ≤ b ∧ dv.size = n ∧ Hid (shiftUp (ltC c) b j dv = shiftUp (ltC c) b (i + 1) du) ∧ Srt w0 blk ok dv wr) (fun x _ => b + 1 - (intOf x).toNat)
                      case atStart => exact ⟨i + 1, du, by go_num, by omega, by omega, by (try simp only [Go.Sort.size_swp]); assumption, rfl, HD2.out⟩
                      case round =>
                        obtain ⟨j, dv, rfl, hj1, hj2, he3, htu, hs3⟩ := hrel
                        have HU := hid hs3
                        clear hs3
                        by_cases hjb : j < b
                        · have k7 : decide ((j : Int) < (b : Int)) = true := decide_eq_true (by omega)
                          go_upto_region 22 with (fail)
                          refine wp_flow (fun _ => none) (Fa.eq (.func (.func 59) #[recv] #[]) :: Fa.eq (.slice (some ⟨blk, 0, none⟩) n cap) :: Fa.eq (.int .i64 ((j : Nat))) :: Fa.eq (.pointer (some ⟨blk, j, none⟩)) :: Fa.eq (.int .i64 (gA dv (j) : Nat)) :: Fa.eq (.slice (some ⟨blk, 0, none⟩) n cap) :: Fa.eq (.int .i64 ((j : Nat))) :: Fa.eq (.int .i64 (((j : Nat)) - (1))) :: Fa.eq (.pointer (some ⟨blk, (j - 1), none⟩)) :: Fa.eq (.int .i64 (gA dv ((j - 1)) : Nat)) :: Fa.eq (.int .i64 (c (gA dv (j)) (gA dv ((j - 1))))) :: Fa.eq (.bool (decide ((c (gA dv (j)) (gA dv ((j - 1)))) < (0)))) :: Fa.eq (.bool (!(decide ((c (gA dv (j)) (gA dv ((j - 1)))) < (0))))) :: []) 141 (by kernel_rfl) rfl (by kernel_rfl) rfl (by kernel_rfl) ?_ ?_ ?_
                          · exact fits_plain _ _ rfl
                          · refine ⟨?_, ?_, ?_, ?_, ?_, ?_, ?_, ?_, ?_, ?_, ?_, ?_, ?_, trivial⟩
                            · exact v_move (.inl rfl) rfl (by kernel_rfl) True.intro (Ev.out (by kernel_rfl) rfl)
                            · exact v_move (.inl rfl) rfl (by kernel_rfl) True.intro (Ev.out (by kernel_rfl) rfl)
                            · exact v_move (.inl rfl) rfl (by kernel_rfl) True.intro (Ev.out (by kernel_rfl) rfl)
                            · exact v_iaddr (u := .slice (some ⟨blk, 0, none⟩) n cap) (v := .int .i64 ((j : Nat))) (c := .pointer (some ⟨blk, j, none⟩)) rfl (fun w => idx_int (by omega) (rfl) w) rfl (by kernel_rfl) True.intro (Ev.at (i := 1) (by kernel_rfl) (by kernel_rfl) rfl) (Ev.at (i := 2) (by kernel_rfl) (by kernel_rfl) rfl)
                            · exact v_load (u := .pointer (some ⟨blk, j, none⟩)) (c := .int .i64 (gA dv (j) : Nat)) rfl (fun w hB => ld_int ((HU.out.dr).later hB) (by omega)) rfl (by kernel_rfl) True.intro (Ev.at (i := 3) (by kernel_rfl) (by kernel_rfl) rfl)
                            · exact v_move (.inl rfl) rfl (by kernel_rfl) True.intro (Ev.out (by kernel_rfl) rfl)
                            · exact v_move (.inl rfl) rfl (by kernel_rfl) True.intro (Ev.out (by kernel_rfl) rfl)
                            · exact v_bin (u := .int .i64 ((j : Nat))) (v := .int .i64 (1)) (c := .int .i64 (((j : Nat)) - (1))) rfl (fun w => (bin_sub_i64 (by omega) (by omega) w)) rfl (by kernel_rfl) True.intro (Ev.at (i := 6) (by kernel_rfl) (by kernel_rfl) rfl) Ev.const
                            · exact v_iaddr (u := .slice (some ⟨blk, 0, none⟩) n cap) (v := .int .i64 (((j : Nat)) - (1))) (c := .pointer (some ⟨blk, (j - 1), none⟩)) rfl (fun w => idx_int (by omega) (by omega) w) rfl (by kernel_rfl) True.intro (Ev.at (i := 5) (by kernel_rfl) (by kernel_rfl) rfl) (Ev.at (i := 7) (by kernel_rfl) (by kernel_rfl) rfl)
                            · exact v_load (u := .pointer (some ⟨blk, (j - 1), none⟩)) (c := .int .i64 (gA dv ((j - 1)) : Nat)) rfl (fun w hB => ld_int ((HU.out.dr).later hB) (by omega)) rfl (by kernel_rfl) True.intro (Ev.at (i := 8) (by kernel_rfl) (by kernel_rfl) rfl)
                            · exact v_callv (f := 59) (pre := #[recv]) (vs := #[.int .i64 (gA dv (j) : Nat), .int .i64 (gA dv ((j - 1)) : Nat)]) (c := .int .i64 (c (gA dv (j)) (gA dv ((j - 1))))) rfl (fun args w => rfl) (fun w hB => (HC.out.call _ ((HU.out.dr).later hB).below _ _ (((HU.out.dr).later hB).ok _ (by omega)) (((HU.out.dr).later hB).ok _ (by omega)))) rfl (by kernel_rfl) True.intro (Ev.at (i := 0) (by kernel_rfl) (by kernel_rfl) rfl) (ev2 (Ev.at (i := 4) (by kernel_rfl) (by kernel_rfl) rfl) (Ev.at (i := 9) (by kernel_rfl) (by kernel_rfl) rfl))
                            · exact v_bin (u := .int .i64 (c (gA dv (j)) (gA dv ((j - 1))))) (v := .int .i64 (0)) (c := .bool (decide ((c (gA dv (j)) (gA dv ((j - 1)))) < (0)))) rfl (fun w => (by go_simp)) rfl (by kernel_rfl) True.intro (Ev.at (i := 10) (by kernel_rfl) (by kernel_rfl) rfl) Ev.const
                            · exact v_not rfl rfl (by kernel_rfl) True.intro (Ev.at (i := 11) (by kernel_rfl) (by kernel_rfl) rfl)
                          intro _ vs wu hBu hf
                          have e0 : vs 0 = .func (.func 59) #[recv] #[] := hf 0 (by decide)
                          have e1 : vs 1 = .slice (some ⟨blk, 0, none⟩) n cap := hf 1 (by decide)
                          have e2 : vs 2 = .int .i64 ((j : Nat)) := hf 2 (by decide)
                          have e3 : vs 3 = .pointer (some ⟨blk, j, none⟩) := hf 3 (by decide)
                          have e4 : vs 4 = .int .i64 (gA dv (j) : Nat) := hf 4 (by decide)
                          have e5 : vs 5 = .slice (some ⟨blk, 0, none⟩) n cap := hf 5 (by decide)
                          have e6 : vs 6 = .int .i64 ((j : Nat)) := hf 6 (by decide)
                          have e7 : vs 7 = .int .i64 (((j : Nat)) - (1)) := hf 7 (by decide)
                          have e8 : vs 8 = .pointer (some ⟨blk, (j - 1), none⟩) := hf 8 (by decide)
                          have e9 : vs 9 = .int .i64 (gA dv ((j - 1)) : Nat) := hf 9 (by decide)
                          have e10 : vs 10 = .int .i64 (c (gA dv (j)) (gA dv ((j - 1)))) := hf 10 (by decide)
                          have e11 : vs 11 = .bool (decide ((c (gA dv (j)) (gA dv ((j - 1)))) < (0))) := hf 11 (by decide)
                          have e12 : vs 12 = .bool (!(decide ((c (gA dv (j)) (gA dv ((j - 1)))) < (0)))) := hf 12 (by decide)
                          obtain ⟨z, hz⟩ : ∃ z : Bool, (!(decide ((c (gA dv (j)) (gA dv ((j - 1)))) < (0)))) = z := ⟨_, rfl⟩
                          rw [hz] at e12
                          have HZ := hid hz
                          clear hz
                          simp only [fill, List.setIfInBounds_toArray, List.set_cons_zero, List.set_cons_succ, e0, e1, e2, e3, e4, e5, e6, e7, e8, e9, e10, e11, e12]
                          clear e0 e1 e2 e3 e4 e5 e6 e7 e8 e9 e10 e11 e12
                          have HU2 := hid (HU.out.later hBu)
                          have hz := HZ.out
                          clear hBu hf HZ
                          cases z
                          · have hlt : ltC c (gA dv j) (gA dv (j - 1)) = true := by simpa [ltC] using hz
                            have HT := hid (htu.out.symm.trans (su_go hjb hlt))
                            have c0 := HU2.out.cell (i := j) (by omega)
                            have c1 := HU2.out.cell (i := j - 1) (by omega)
                            have f0 := HU2.out.free j
                            have f1 := HU2.out.free (j - 1)
                            have q0 : (j : Int) < (n : Int) := by omega
                            have q1 : (j : Int) - 1 = ((j - 1 : Nat) : Int) := by omega
                            have q2 : ((j - 1 : Nat) : Int) < (n : Int) := by omega
                            have hne : j ≠ j - 1 := by omega
                            have HX := hid (HU2.out.swap (i := j) (j := j - 1) (by omega) (by omega))
                            clear hz hlt
                            go_wp2
                            go_region
                            go_wp2
                            go_roundw
                            case rel => exact ⟨j + 1, swp dv j (j - 1), by go_num, by omega, by omega, by rw [Go.Sort.size_swp]; exact he3, hid HT.out.symm, HX.out.dr⟩
                            case measure => simp [intOf]; omega
                          · have hlt : ltC c (gA dv j) (gA dv (j - 1)) = false := by simpa [ltC] using hz
                            have HT := hid (htu.out.symm.trans (su_stop (.inr hlt)))
                            clear hz hlt
                            go_wp2
                            have HPG := hid (pi_go (s := s') HI.out hne5 h50 rfl ((if_pos ha2).trans HTD.out) ((if_pos hb2).trans HT.out))
                            go_roundw
                            case rel => exact ⟨i, s + 1, dv, rfl, by go_num, by omega, by omega, by omega, by (try simp only [Go.Sort.size_swp]); assumption, hid (by rw [show 5 - (s + 1) = s' by have := HSS.out; omega, ← htl.out]; exact HPG.out.symm), HU2.out⟩
                            case measure => simp [intOf]; omega
                        · have k7 : decide ((j : Int) < (b : Int)) = false := decide_eq_false (by omega)
                          have HT := hid (htu.out.symm.trans (su_stop (.inl hjb)))
                          have HU2 := HU
                          go_wp2
                          have HPG := hid (pi_go (s := s') HI.out hne5 h50 rfl ((if_pos ha2).trans HTD.out) ((if_pos hb2).trans HT.out))
                          go_roundw
                          case rel => exact ⟨i, s + 1, dv, rfl, by go_num, by omega, by omega, by omega, by (try simp only [Go.Sort.size_swp]); assumption, hid (by rw [show 5 - (s + 1) = s' by have := HSS.out; omega, ← htl.out]; exact HPG.out.symm), HU2.out⟩
                          case measure => simp [intOf]; omega
                    · have k6 : decide (2 ≤ (b : Int) - (i : Int)) = false := decide_eq_false (by omega)
                      go_wp2
                      have HPG := hid (pi_go (s := s') HI.out hne5 h50 rfl ((if_pos ha2).trans HTD.out) (if_neg hb2))
                      go_roundw
                      case rel => exact ⟨i, s + 1, du, rfl, by go_num, by omega, by omega, by omega, by (try simp only [Go.Sort.size_swp]); assumption, hid (by rw [show 5 - (s + 1) = s' by have := HSS.out; omega, ← htl.out]; exact HPG.out.symm), HD2.out⟩
                      case measure => simp [intOf]; omega
              · have k5 : decide (2 ≤ (i : Int) - (a : Int)) = false := decide_eq_false (by omega)
                by_cases hb2 : 2 ≤ b - i
                · have k6 : decide (2 ≤ (b : Int) - (i : Int)) = true := decide_eq_true (by omega)
                  go_wp2
                  go_loopw [12] (fun x wr => ∃ (j : Nat) (dv : Array Nat), x = .int .i64 (j : Nat) ∧ i < j ∧ j ≤ b ∧ dv.size = n ∧ Hid (shiftUp (ltC c) b j dv = shiftUp (ltC c) b (i + 1) (swp d i (i - 1))) ∧ Srt w0 blk ok dv wr) (fun x _ => b + 1 - (intOf x).toNat)
                  case atStart => exact ⟨i + 1, (swp d i (i - 1)), by go_num, by omega, by omega, by (try simp only [Go.Sort.size_swp]); assumption, rfl, HSX.out⟩
                  case round =>
                    obtain ⟨j, dv, rfl, hj1, hj2, he3, htu, hs3⟩ := hrel
                    have HU := hid hs3
                    clear hs3
                    by_cases hjb : j < b
                    · have k7 : decide ((j : Int) < (b : Int)) = true := decide_eq_true (by omega)
                      go_upto_region 22 with (fail)
                      refine wp_flow (fun _ => none) (Fa.eq (.func (.func 59) #[recv] #[]) :: Fa.eq (.slice (some ⟨blk, 0, none⟩) n cap) :: Fa.eq (.int .i64 ((j : Nat))) :: Fa.eq (.pointer (some ⟨blk, j, none⟩)) :: Fa.eq (.int .i64 (gA dv (j) : Nat)) :: Fa.eq (.slice (some ⟨blk, 0, none⟩) n cap) :: Fa.eq (.int .i64 ((j : Nat))) :: Fa.eq (.int .i64 (((j : Nat)) - (1))) :: Fa.eq (.pointer (some ⟨blk, (j - 1), none⟩)) :: Fa.eq (.int .i64 (gA dv ((j - 1)) : Nat)) :: Fa.eq (.int .i64 (c (gA dv (j)) (gA dv ((j - 1))))) :: Fa.eq (.bool (decide ((c (gA dv (j)) (gA dv ((j - 1)))) < (0)))) :: Fa.eq (.bool (!(decide ((c (gA dv (j)) (gA dv ((j - 1)))) < (0))))) :: []) 141 (by kernel_rfl) rfl (by kernel_rfl) rfl (by kernel_rfl) ?_ ?_ ?_
                      · exact fits_plain _ _ rfl
                      · refine ⟨?_, ?_, ?_, ?_, ?_, ?_, ?_, ?_, ?_, ?_, ?_, ?_, ?_, trivial⟩
                        · exact v_move (.inl rfl) rfl (by kernel_rfl) True.intro (Ev.out (by kernel_rfl) rfl)
                        · exact v_move (.inl rfl) rfl (by kernel_rfl) True.intro (Ev.out (by kernel_rfl) rfl)
                        · exact v_move (.inl rfl) rfl (by kernel_rfl) True.intro (Ev.out (by kernel_rfl) rfl)
                        · exact v_iaddr (u := .slice (some ⟨blk, 0, none⟩) n cap) (v := .int .i64 ((j : Nat))) (c := .pointer (some ⟨blk, j, none⟩)) rfl (fun w => idx_int (by omega) (rfl) w) rfl (by kernel_rfl) True.intro (Ev.at (i := 1) (by kernel_rfl) (by kernel_rfl) rfl) (Ev.at (i := 2) (by kernel_rfl) (by kernel_rfl) rfl)
                        · exact v_load (u := .pointer (some ⟨blk, j, none⟩)) (c := .int .i64 (gA dv (j) : Nat)) rfl (fun w hB => ld_int ((HU.out.dr).later hB) (by omega)) rfl (by kernel_rfl) True.intro (Ev.at (i := 3) (by kernel_rfl) (by kernel_rfl) rfl)
                        · exact v_move (.inl rfl) rfl (by kernel_rfl) True.intro (Ev.out (by kernel_rfl) rfl)
                        · exact v_move (.inl rfl) rfl (by kernel_rfl) True.intro (Ev.out (by kernel_rfl) rfl)
                        · exact v_bin (u := .int .i64 ((j : Nat))) (v := .int .i64 (1)) (c := .int .i64 (((j : Nat)) - (1))) rfl (fun w => (bin_sub_i64 (by omega) (by omega) w)) rfl (by kernel_rfl) True.intro (Ev.at (i := 6) (by kernel_rfl) (by kernel_rfl) rfl) Ev.const
                        · exact v_iaddr (u := .slice (some ⟨blk, 0, none⟩) n cap) (v := .int .i64 (((j : Nat)) - (1))) (c := .pointer (some ⟨blk, (j - 1), none⟩)) rfl (fun w => idx_int (by omega) (by omega) w) rfl (by kernel_rfl) True.intro (Ev.at (i := 5) (by kernel_rfl) (by kernel_rfl) rfl) (Ev.at (i := 7) (by kernel_rfl) (by kernel_rfl) rfl)
                        · exact v_load (u := .pointer (some ⟨blk, (j - 1), none⟩)) (c := .int .i64 (gA dv ((j - 1)) : Nat)) rfl (fun w hB => ld_int ((HU.out.dr).later hB) (by omega)) rfl (by kernel_rfl) True.intro (Ev.at (i := 8) (by kernel_rfl) (by kernel_rfl) rfl)
                        · exact v_callv (f := 59) (pre := #[recv]) (vs := #[.int .i64 (gA dv (j) : Nat), .int .i64 (gA dv ((j - 1)) : Nat)]) (c := .int .i64 (c (gA dv (j)) (gA dv ((j - 1))))) rfl (fun args w => rfl) (fun w hB => (HC.out.call _ ((HU.out.dr).later hB).below _ _ (((HU.out.dr).later hB).ok _ (by omega)) (((HU.out.dr).later hB).ok _ (by omega)))) rfl (by kernel_rfl) True.intro (Ev.at (i := 0) (by kernel_rfl) (by kernel_rfl) rfl) (ev2 (Ev.at (i := 4) (by kernel_rfl) (by kernel_rfl) rfl) (Ev.at (i := 9) (by kernel_rfl) (by kernel_rfl) rfl))
                        · exact v_bin (u := .int .i64 (c (gA dv (j)) (gA dv ((j - 1))))) (v := .int .i64 (0)) (c := .bool (decide ((c (gA dv (j)) (gA dv ((j - 1)))) < (0)))) rfl (fun w => (by go_simp)) rfl (by kernel_rfl) True.intro (Ev.at (i := 10) (by kernel_rfl) (by kernel_rfl) rfl) Ev.const
                        · exact v_not rfl rfl (by kernel_rfl) True.intro (Ev.at (i := 11) (by kernel_rfl) (by kernel_rfl) rfl)
                      intro _ vs wu hBu hf
                      have e0 : vs 0 = .func (.func 59) #[recv] #[] := hf 0 (by decide)
                      have e1 : vs 1 = .slice (some ⟨blk, 0, none⟩) n cap := hf 1 (by decide)
                      have e2 : vs 2 = .int .i64 ((j : Nat)) := hf 2 (by decide)
                      have e3 : vs 3 = .pointer (some ⟨blk, j, none⟩) := hf 3 (by decide)
                      have e4 : vs 4 = .int .i64 (gA dv (j) : Nat) := hf 4 (by decide)
                      have e5 : vs 5 = .slice (some ⟨blk, 0, none⟩) n cap := hf 5 (by decide)
                      have e6 : vs 6 = .int .i64 ((j : Nat)) := hf 6 (by decide)
                      have e7 : vs 7 = .int .i64 (((j : Nat)) - (1)) := hf 7 (by decide)
                      have e8 : vs 8 = .pointer (some ⟨blk, (j - 1), none⟩) := hf 8 (by decide)
                      have e9 : vs 9 = .int .i64 (gA dv ((j - 1)) : Nat) := hf 9 (by decide)
                      have e10 : vs 10 = .int .i64 (c (gA dv (j)) (gA dv ((j - 1)))) := hf 10 (by decide)
                      have e11 : vs 11 = .bool (decide ((c (gA dv (j)) (gA dv ((j - 1)))) < (0))) := hf 11 (by decide)
                      have e12 : vs 12 = .bool (!(decide ((c (gA dv (j)) (gA dv ((j - 1)))) < (0)))) := hf 12 (by decide)
                      obtain ⟨z, hz⟩ : ∃ z : Bool, (!(decide ((c (gA dv (j)) (gA dv ((j - 1)))) < (0)))) = z := ⟨_, rfl⟩
                      rw [hz] at e12
                      have HZ := hid hz
                      clear hz
                      simp only [fill, List.setIfInBounds_toArray, List.set_cons_zero, List.set_cons_succ, e0, e1, e2, e3, e4, e5, e6, e7, e8, e9, e10, e11, e12]
                      clear e0 e1 e2 e3 e4 e5 e6 e7 e8 e9 e10 e11 e12
                      have HU2 := hid (HU.out.later hBu)
                      have hz := HZ.out
                      clear hBu hf HZ
                      cases z
                      · have hlt : ltC c (gA dv j) (gA dv (j - 1)) = true := by simpa [ltC] using hz
                        have HT := hid (htu.out.symm.trans (su_go hjb hlt))
                        have c0 := HU2.out.cell (i := j) (by omega)
                        have c1 := HU2.out.cell (i := j - 1) (by omega)
                        have f0 := HU2.out.free j
                        have f1 := HU2.out.free (j - 1)
                        have q0 : (j : Int) < (n : Int) := by omega
                        have q1 : (j : Int) - 1 = ((j - 1 : Nat) : Int) := by omega
                        have q2 : ((j - 1 : Nat) : Int) < (n : Int) := by omega
                        have hne : j ≠ j - 1 := by omega
                        have HX := hid (HU2.out.swap (i := j) (j := j - 1) (by omega) (by omega))
                        clear hz hlt
                        go_wp2
                        go_region
                        go_wp2
                        go_roundw
                        case rel => exact ⟨j + 1, swp dv j (j - 1), by go_num, by omega, by omega, by rw [Go.Sort.size_swp]; exact he3, hid HT.out.symm, HX.out.dr⟩
                        case measure => simp [intOf]; omega
                      · have hlt : ltC c (gA dv j) (gA dv (j - 1)) = false := by simpa [ltC] using hz
                        have HT := hid (htu.out.symm.trans (su_stop (.inr hlt)))
                        clear hz hlt
                        go_wp2
                        have HPG := hid (pi_go (s := s') HI.out hne5 h50 rfl (if_neg ha2) ((if_pos hb2).trans HT.out))
                        go_roundw
                        case rel => exact ⟨i, s + 1, dv, rfl, by go_num, by omega, by omega, by omega, by (try simp only [Go.Sort.size_swp]); assumption, hid (by rw [show 5 - (s + 1) = s' by have := HSS.out; omega, ← htl.out]; exact HPG.out.symm), HU2.out⟩
                        case measure => simp [intOf]; omega
                    · have k7 : decide ((j : Int) < (b : Int)) = false := decide_eq_false (by omega)
                      have HT := hid (htu.out.symm.trans (su_stop (.inl hjb)))
                      have HU2 := HU
                      go_wp2
                      have HPG := hid (pi_go (s := s') HI.out hne5 h50 rfl (if_neg ha2) ((if_pos hb2).trans HT.out))
                      go_roundw
                      case rel => exact ⟨i, s + 1, dv, rfl, by go_num, by omega, by omega, by omega, by (try simp only [Go.Sort.size_swp]); assumption, hid (by rw [show 5 - (s + 1) = s' by have := HSS.out; omega, ← htl.out]; exact HPG.out.symm), HU2.out⟩
                      case measure => simp [intOf]; omega
                · have k6 : decide (2 ≤ (b : Int) - (i : Int)) = false := decide_eq_false (by omega)
                  go_wp2
                  have HPG := hid (pi_go (s := s') HI.out hne5 h50 rfl (if_neg ha2) (if_neg hb2))
                  go_roundw
                  case rel => exact ⟨i, s + 1, (swp d i (i - 1)), rfl, by go_num, by omega, by omega, by omega, by (try simp only [Go.Sort.size_swp]); assumption, hid (by rw [show 5 - (s + 1) = s' by have := HSS.out; omega, ← htl.out]; exact HPG.out.symm), HSX.out⟩
                  case measure => simp [intOf]; omega
        · rw [Bool.and_eq_true, decide_eq_true_eq] at hz
          have hij : i < b := by omega
          have hlt : ltC c (gA d i) (gA d (i - 1)) = false := by have := hz.2; simpa [ltC] using this
          have HT := hid (htu.out.symm.trans (ss_go hij hlt))
          clear hz hlt
          go_wp2
          go_roundw
          case rel => exact ⟨i + 1, by go_num, by omega, by omega, hid HT.out.symm, HSv.out⟩
          case measure => simp [intOf]; omega
    · have hs6 : s = 5 := by omega
      subst hs6
      have HT := hid (show (d, false) = R from htl.out)
      clear htl
      go_wp2
      go_ret
      rw [← HT.out]
      exact ⟨rfl, HSl.out⟩
end Go.Proofs.YtfnmekmgjcjglaaDoor.V
