/-
  What one lacks of another, put onto it one by one: plainly.
-/
import Derived.Test.YtmligladfmkliaaLawVC
namespace Go.Proofs.Ytmligladfmkliaa
set_option linter.unusedVariables false
set_option linter.unusedSimpArgs false
open Go Go.RowKit Go.Maps Go.Sort

theorem cnt_mono (a b : Vec) {i k : Nat} (h : i ≤ k) : cntTo a b i ≤ cntTo a b k := by
  induction h with
  | refl => exact Nat.le_refl _
  | step _ ih => exact Nat.le_trans ih (by simp only [cntTo]; omega)
theorem cnt_next (a b : Vec) (i : Nat) : cntTo a b (i + 1) = cntTo a b i + (b i - a i) := rfl
theorem sum_mx (a b : Vec) : ∀ k, sumTo (mx a b) k = sumTo a k + cntTo a b k
  | 0 => rfl
  | k + 1 => by
    simp only [sumTo, cntTo, sum_mx a b k, mx]
    omega
/-- One, with the first j of the dots put onto it. -/
def nowAt (a b : Vec) (j : Nat) : Vec := fun i => a i + min (b i - a i) (j - cntTo a b i)
theorem now_zero (a b : Vec) : nowAt a b 0 = a := by
  funext i
  simp [nowAt]
theorem now_end {a b : Vec} (ha : okV a) (hb : okV b) : nowAt a b (cntTo a b 8) = mx a b := by
  funext i
  unfold nowAt mx
  by_cases h : i < 8
  · have h1 := cnt_mono a b (show i + 1 ≤ 8 by omega)
    rw [cnt_next] at h1
    omega
  · have h1 := ha.2 i (by omega)
    have h2 := hb.2 i (by omega)
    rw [h1, h2]
    simp
theorem now_ok {a b : Vec} (ha : okV a) (hb : okV b) (j : Nat) : okV (nowAt a b j) := by
  refine ⟨fun i => ?_, fun i hi => ?_⟩
  · have h1 := ha.1 i
    have h2 := hb.1 i
    unfold nowAt
    omega
  · have h1 := ha.2 i hi
    have h2 := hb.2 i hi
    unfold nowAt
    rw [h1, h2]
    simp
theorem lack_at (a b : Vec) (j : Nat) : ∀ k, j < cntTo a b k → ∃ r, r < k ∧ cntTo a b r ≤ j ∧ j < cntTo a b (r + 1) ∧ (lackTo a b k)[j]? = some (r, a r + 1 + (j - cntTo a b r))
  | 0, h => by simp [cntTo] at h
  | k + 1, h => by
    by_cases hj : j < cntTo a b k
    · obtain ⟨r, h1, h2, h3, h4⟩ := lack_at a b j k hj
      refine ⟨r, by omega, h2, h3, ?_⟩
      rw [lackTo, List.getElem?_append_left (by rw [lackTo_length]; exact hj), h4]
    · refine ⟨k, by omega, by omega, h, ?_⟩
      rw [cnt_next] at h
      rw [lackTo, List.getElem?_append_right (by rw [lackTo_length]; omega), lackTo_length]
      simp only [dotsFrom, List.getElem?_map]
      rw [List.getElem?_range (by omega)]
      rfl
theorem lack_step {a b : Vec} (ha : okV a) (hb : okV b) {j : Nat} (h : j < cntTo a b 8) :
    ∃ d : Dot, (lackTo a b 8)[j]? = some d ∧ d.ok ∧ covB a d = false ∧ covB b d = true ∧ putV (nowAt a b j) d = nowAt a b (j + 1) ∧ putE (nowAt a b j) d = 0 := by
  obtain ⟨r, hr, h1, h2, h3⟩ := lack_at a b j 8 h
  have h2' := h2
  rw [cnt_next] at h2'
  have hbr := hb.1 r
  have hn : nowAt a b j r + 1 = a r + 1 + (j - cntTo a b r) := by unfold nowAt; omega
  have hm : mayD (r, a r + 1 + (j - cntTo a b r)) = true := by simp [mayD, hr]
  refine ⟨_, h3, ⟨by show r < 256; omega, by show a r + 1 + (j - cntTo a b r) < 4294967296; omega⟩, ?_, ?_, ?_, ?_⟩
  · unfold covB; rw [hm]; simp; omega
  · unfold covB; rw [hm]; simp; omega
  · unfold putV
    rw [if_pos hm]
    dsimp only
    rw [if_pos hn]
    funext i
    unfold upd
    by_cases hi : i = r
    · subst hi
      rw [if_pos rfl]
      unfold nowAt
      omega
    · rw [if_neg hi]
      unfold nowAt
      by_cases hlt : i < r
      · have h4 := cnt_mono a b (show i + 1 ≤ r by omega)
        rw [cnt_next] at h4
        omega
      · have h4 := cnt_mono a b (show r + 1 ≤ i by omega)
        omega
  · unfold putE
    rw [if_pos hm, if_pos hn]

end Go.Proofs.Ytmligladfmkliaa
