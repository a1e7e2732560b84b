/-
  The document's Range.
-/
import Derived.Test.YtmjmgjdklhdcdaaRng
namespace Go.Proofs.Ytmjmgjdklhdcdaa
set_option linter.unusedVariables false
set_option linter.unusedSimpArgs false
open Go Go.RowKit Go.Maps

set_option maxRecDepth 100000 in
set_option maxHeartbeats 4000000 in
theorem ref_Range (r f t : Nat) (hr : r < 256) (hf : f < 4294967296) (ht : t < 4294967296) (w : World) :
    Calls Try.prog 18 #[.int .u8 (r : Int), .int .u32 (f : Int), .int .u32 (t : Int)] w (RngPost w r f t) := by
  by_cases hr7 : 7 < r
  · have hE := hid (show rngD r f t = [] ∧ rngE r f t = 2 by
      have hb : mayD (r, f) = false := by simp [mayD]; omega
      simp [rngD, rngE, hb])
    go_enter Try.func18, Try.ntmps18
    go_wp2
    go_ret2
    refine ⟨_, by rw [hE.out.2]; rfl, ?_, Below.refl _ _⟩
    rw [hE.out.1]
    exact World.ownsRow_nil _ _ _ _
  · by_cases hf0 : f = 0
    · have hE := hid (show rngD r f t = [] ∧ rngE r f t = 2 by
        have hb : mayD (r, f) = false := by simp [mayD, hf0]
        simp [rngD, rngE, hb])
      subst hf0
      go_enter Try.func18, Try.ntmps18
      go_wp2
      go_ret2
      refine ⟨_, by rw [hE.out.2]; rfl, ?_, Below.refl _ _⟩
      rw [hE.out.1]
      exact World.ownsRow_nil _ _ _ _
    · have hb : mayD (r, f) = true := by simp [mayD, hf0]; omega
      have hf0' : ((f : Int) == 0) = false := by simpa using hf0
      by_cases hbig : 65536 < (t : Int) - f + 1
      · have hE := hid (show rngD r f t = [] ∧ rngE r f t = 3 by
          have h1 : f ≤ t := by omega
          have h2 : ¬ t - f + 1 ≤ 65536 := by omega
          simp [rngD, rngE, hb, h1, h2])
        clear hb hf0
        go_enter Try.func18, Try.ntmps18
        go_wp2
        go_ret2
        refine ⟨_, by rw [hE.out.2]; rfl, ?_, Below.refl _ _⟩
        rw [hE.out.1]
        exact World.ownsRow_nil _ _ _ _
      · obtain ⟨n, hn, hn2⟩ : ∃ n, (n = if f ≤ t then t - f + 1 else 0) ∧ n ≤ 65536 := ⟨_, rfl, by split <;> omega⟩
        have hE := hid (show rngD r f t = dotsFrom r f n ∧ rngE r f t = 0 by
          by_cases h1 : f ≤ t
          · have h2 : t - f + 1 ≤ 65536 := by omega
            rw [if_pos h1] at hn
            simp [rngD, rngE, hb, h1, h2, hn]
          · rw [if_neg h1] at hn
            simp [rngD, rngE, hb, h1, hn, dotsFrom])
        have HN := hid (show (f ≤ t → f + n = t + 1) ∧ (¬ f ≤ t → n = 0) by
          constructor
          · intro h1; rw [if_pos h1] at hn; omega
          · intro h1; rw [if_neg h1] at hn; exact hn)
        clear hb hf0 hn
        obtain ⟨i0, hi, hz0, hz1, hz2⟩ := info_parts infoDot
        go_enter Try.func18, Try.ntmps18
        go_wp2
        go_loopw [8, 9] (fun out i wr => ∃ k : Nat, k ≤ n ∧ i = .int .i64 ((f : Int) + k) ∧ wr.ownsRow w.heap.size 24 2 out k (flat (dotsFrom r f k)) ∧ Below w.heap.size w wr) (fun _ i _ => t + 1 - (intOf i).toNat)
        case atStart => exact ⟨0, by omega, by simp, World.ownsRow_nil _ _ _ _, Below.refl _ _⟩
        case round =>
          obtain ⟨k, hk, rfl, hown, hB⟩ := hrel
          have hs1 := hB.size
          by_cases hkn : k < n
          · have hle : (f : Int) + k ≤ t := by
              obtain ⟨h1, h2⟩ := HN.out
              by_cases hft : f ≤ t
              · have := h1 hft; omega
              · have := h2 hft; omega
            have HO := hid hown
            have hbd1 : k + 1 ≤ maxLen := by unfold maxLen; omega
            have hbd2 : (k + 1) * 8 ≤ 140737488355328 := by omega
            clear hown
            go_wp2_with (first
              | (at_builtin; refine wpList_append_own _ rfl (.tmp 31) (.tmp 36) 39 rfl w.heap.size 24 i0 (.agg #[.int .u8 0, .int .u32 0]) 2 8 Try.underlying39 hi hz0 hz1 hz2 rfl Nat.zero_lt_two _ _ _ rfl (HO.out.alloc _) ⟨wr.heap.size, 0, none⟩ 1 1 [.int .u8 (r : Int), .int .u32 ((f : Int) + k)] rfl rfl (cells_two_new _ _ _ _) (one_two _ _) hbd1 hbd2 (size_alloc_le hs1 _) ?_; intro v2 w2 hown2 hgrow2 _; have hB2 : Below w.heap.size wr w2 := Below.grown ((Below.refl _ _).alloc hs1 _) hgrow2 (size_alloc_le hs1 _) (fun j e => (HO.out.lt j e).1); have HO2 := hid hown2; have HB2 := hid hB2; clear hown2 hgrow2 hB2)
              | go_in)
            go_roundw
            case rel => exact ⟨k + 1, by omega, by go_num, by rw [dotsFrom_succ, flat_snoc, Int.natCast_add]; exact HO2.out, hB.trans HB2.out⟩
            case measure => simp [intOf]; omega
          · obtain rfl : k = n := by omega
            have hgt : (t : Int) < (f : Int) + k := by
              obtain ⟨h1, h2⟩ := HN.out
              by_cases hft : f ≤ t
              · have := h1 hft; omega
              · have := h2 hft; omega
            have HO := hid hown
            clear hown
            go_wp2
            go_ret2
            refine ⟨_, by rw [hE.out.2]; rfl, ?_, hB⟩
            rw [hE.out.1, dotsFrom_length]
            exact HO.out

end Go.Proofs.Ytmjmgjdklhdcdaa
