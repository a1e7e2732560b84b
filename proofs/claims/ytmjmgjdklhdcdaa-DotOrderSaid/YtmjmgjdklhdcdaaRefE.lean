/-
  The document's answer: Both, Minus.
-/
import Derived.Test.YtmjmgjdklhdcdaaRefD
namespace Go.Proofs.Ytmjmgjdklhdcdaa
set_option linter.unusedVariables false
set_option linter.unusedSimpArgs false
open Go Go.RowKit Go.Maps

theorem size_alloc_le {w : World} {B : Nat} (h : B ≤ w.heap.size) (o : Obj) : B ≤ (w.alloc o).heap.size := by simp; omega

theorem filter_take_yes {l : List Dot} {k : Nat} {x : Dot} (p : Dot → Bool) (hx : l[k]? = some x) (hp : p x = true) : (l.take (k + 1)).filter p = (l.take k).filter p ++ [x] := by
  have hk : k < l.length := (List.getElem?_eq_some_iff.1 hx).1
  rw [List.take_succ_eq_append_getElem hk, (List.getElem?_eq_some_iff.1 hx).2, List.filter_append]; simp [hp]
theorem filter_take_no {l : List Dot} {k : Nat} {x : Dot} (p : Dot → Bool) (hx : l[k]? = some x) (hp : p x = false) : (l.take (k + 1)).filter p = (l.take k).filter p := by
  have hk : k < l.length := (List.getElem?_eq_some_iff.1 hx).1
  rw [List.take_succ_eq_append_getElem hk, (List.getElem?_eq_some_iff.1 hx).2, List.filter_append]; simp [hp]

set_option maxHeartbeats 4000000 in
set_option maxRecDepth 100000 in
theorem ref_Both (a a' : Option Addr) (len cap len' cap' : Nat) (l l' : List Dot) (w : World) (hI : IsDots w a len cap l) (hI' : IsDots w a' len' cap' l') (hl : len ≤ 1000000) (hl' : len' ≤ 1000000) :
    Calls Try.prog 25 #[.slice a len cap, .slice a' len' cap'] w (RowPost w (can (l.filter (fun d => inB l' d)))) := by
  have hcap : len ≤ 9223372036854775807 := by omega
  have HL := hid (And.intro hI.1 (And.intro hI.2.2.2.1 hI'.1))
  have HI := hid (And.intro hI hI')
  clear hI hI'
  obtain ⟨i0, hi, hz0, hz1, hz2⟩ := info_parts infoDot
  go_enter Try.func25, Try.ntmps25
  go_wp2
  go_loopw [5, 6] (fun out i wr => ∃ k : Nat, k ≤ len ∧ i = .int .i64 k ∧ wr.ownsRow w.heap.size 24 2 out ((l.take k).filter (fun d => inB l' d)).length (flat ((l.take k).filter (fun d => inB l' d))) ∧ Below w.heap.size w wr) (fun _ i _ => len - (intOf i).toNat)
  case atStart => exact ⟨0, by omega, rfl, World.ownsRow_nil _ _ _ _, Below.refl _ _⟩
  case round =>
    obtain ⟨k, hk, rfl, hown, hB⟩ := hrel
    by_cases hlt : k < len
    · cases a with
      | none => have := HI.out.1.none_len; omega
      | some ad =>
        obtain ⟨r, m, B, O, sp, hx, hr, hm, hA, hc0, hc1⟩ := (HI.out.1.keep hB).at k hlt
        have hlk : ((l.take k).filter (fun d => inB l' d)).length ≤ k := by
          have h1 := List.length_filter_le (fun d => inB l' d) (l.take k)
          rw [List.length_take] at h1
          omega
        have hbd1 : ((l.take k).filter (fun d => inB l' d)).length + 1 ≤ maxLen := by unfold maxLen; omega
        have hbd2 : (((l.take k).filter (fun d => inB l' d)).length + 1) * 8 ≤ 140737488355328 := by omega
        have HX := hid hx
        have HO := hid hown
        clear hx hown
        cases hq : inB l' (r, m)
        · have hcon := ref_In a' len' cap' l' (r, m) wr (HI.out.2.keep hB)
          rw [hq] at hcon
          have HQ := hid hq
          clear hq
          go_wp2_with (go_at_call 39; refine hcon.mono ?_; rintro e w1 ⟨rfl, hB1⟩; have HB1 := hid hB1; clear hB1)
          go_roundw
          case rel => exact ⟨k + 1, by omega, by go_num, by rw [filter_take_no _ HX.out (by simp [HQ.out])]; exact owns_below HO.out HB1.out, hB.trans (HB1.out.mono hB.size)⟩
          case measure => simp [intOf]; omega
        · have hcon := ref_In a' len' cap' l' (r, m) wr (HI.out.2.keep hB)
          rw [hq] at hcon
          have HQ := hid hq
          clear hq
          go_wp2_with (first
            | (go_at_call 39; refine hcon.mono ?_; rintro e w1 ⟨rfl, hB1⟩; have gc0 := cell_keep hB1 hc0; have gc1 := cell_keep hB1 hc1; have HB1 := hid hB1; have hs1 := Nat.le_trans hB.size hB1.size; clear hB1)
            | (at_builtin; refine wpList_append_own _ rfl (.tmp 19) (.tmp 24) 39 rfl w.heap.size 24 i0 (.agg #[.int .u8 0, .int .u32 0]) 2 8 Try.underlying39 hi hz0 hz1 hz2 rfl Nat.zero_lt_two _ _ _ rfl ((owns_below HO.out HB1.out).alloc _) ⟨w1.heap.size, 0, none⟩ 1 1 [.int .u8 (r : Int), .int .u32 (m : Int)] rfl rfl (cells_two_new _ _ _ _) (one_two _ _) hbd1 hbd2 (size_alloc_le hs1 _) ?_; intro v2 w2 hown2 hgrow2 _; have hB2 : Below w.heap.size w1 w2 := Below.grown ((Below.refl _ _).alloc hs1 _) hgrow2 (size_alloc_le hs1 _) (fun j e => ((owns_below HO.out HB1.out).lt j e).1); have HO2 := hid hown2; have HB2 := hid hB2; clear hown2 hgrow2 hB2)
            | go_in)
          go_roundw
          case rel => exact ⟨k + 1, by omega, by go_num, by rw [filter_take_yes _ HX.out (by simp [HQ.out]), flat_snoc]; simpa using HO2.out, hB.trans ((HB1.out.mono hB.size).trans HB2.out)⟩
          case measure => simp [intOf]; omega
    · obtain rfl : k = len := by omega
      have ht : l.take k = l := List.take_of_length_le (by rw [HL.out.1]; exact Nat.le_refl _)
      rw [ht] at hown
      have hI2 := owns_dotsV hown (fun d hd => HL.out.2.1 d (List.mem_filter.1 hd).1)
      have hlf : (l.filter (fun d => inB l' d)).length ≤ 1000000 := Nat.le_trans (List.length_filter_le _ _) (by rw [HL.out.1]; exact hl)
      have HI2 := hid hI2
      clear hown ht hI2
      go_wp2_with (go_at_call 21; refine (ref_SortV _ (l.filter (fun d => inB l' d)) _ HI2.out hlf).mono ?_; intro e w3 hP; obtain ⟨v3, rfl, hr3, hB4⟩ := hP.after hB; have HR := hid hr3; clear hr3 hP)
      go_ret
      exact ⟨v3, rfl, HR.out, hB4⟩

set_option maxHeartbeats 4000000 in
set_option maxRecDepth 100000 in
theorem ref_Minus (a a' : Option Addr) (len cap len' cap' : Nat) (l l' : List Dot) (w : World) (hI : IsDots w a len cap l) (hI' : IsDots w a' len' cap' l') (hl : len ≤ 1000000) (hl' : len' ≤ 1000000) :
    Calls Try.prog 27 #[.slice a len cap, .slice a' len' cap'] w (RowPost w (can (l.filter (fun d => !inB l' d)))) := by
  have hcap : len ≤ 9223372036854775807 := by omega
  have HL := hid (And.intro hI.1 (And.intro hI.2.2.2.1 hI'.1))
  have HI := hid (And.intro hI hI')
  clear hI hI'
  obtain ⟨i0, hi, hz0, hz1, hz2⟩ := info_parts infoDot
  go_enter Try.func27, Try.ntmps27
  go_wp2
  go_loopw [5, 6] (fun out i wr => ∃ k : Nat, k ≤ len ∧ i = .int .i64 k ∧ wr.ownsRow w.heap.size 24 2 out ((l.take k).filter (fun d => !inB l' d)).length (flat ((l.take k).filter (fun d => !inB l' d))) ∧ Below w.heap.size w wr) (fun _ i _ => len - (intOf i).toNat)
  case atStart => exact ⟨0, by omega, rfl, World.ownsRow_nil _ _ _ _, Below.refl _ _⟩
  case round =>
    obtain ⟨k, hk, rfl, hown, hB⟩ := hrel
    by_cases hlt : k < len
    · cases a with
      | none => have := HI.out.1.none_len; omega
      | some ad =>
        obtain ⟨r, m, B, O, sp, hx, hr, hm, hA, hc0, hc1⟩ := (HI.out.1.keep hB).at k hlt
        have hlk : ((l.take k).filter (fun d => !inB l' d)).length ≤ k := by
          have h1 := List.length_filter_le (fun d => !inB l' d) (l.take k)
          rw [List.length_take] at h1
          omega
        have hbd1 : ((l.take k).filter (fun d => !inB l' d)).length + 1 ≤ maxLen := by unfold maxLen; omega
        have hbd2 : (((l.take k).filter (fun d => !inB l' d)).length + 1) * 8 ≤ 140737488355328 := by omega
        have HX := hid hx
        have HO := hid hown
        clear hx hown
        cases hq : inB l' (r, m)
        · have hcon := ref_In a' len' cap' l' (r, m) wr (HI.out.2.keep hB)
          rw [hq] at hcon
          have HQ := hid hq
          clear hq
          go_wp2_with (first
            | (go_at_call 39; refine hcon.mono ?_; rintro e w1 ⟨rfl, hB1⟩; have gc0 := cell_keep hB1 hc0; have gc1 := cell_keep hB1 hc1; have HB1 := hid hB1; have hs1 := Nat.le_trans hB.size hB1.size; clear hB1)
            | (at_builtin; refine wpList_append_own _ rfl (.tmp 20) (.tmp 25) 39 rfl w.heap.size 24 i0 (.agg #[.int .u8 0, .int .u32 0]) 2 8 Try.underlying39 hi hz0 hz1 hz2 rfl Nat.zero_lt_two _ _ _ rfl ((owns_below HO.out HB1.out).alloc _) ⟨w1.heap.size, 0, none⟩ 1 1 [.int .u8 (r : Int), .int .u32 (m : Int)] rfl rfl (cells_two_new _ _ _ _) (one_two _ _) hbd1 hbd2 (size_alloc_le hs1 _) ?_; intro v2 w2 hown2 hgrow2 _; have hB2 : Below w.heap.size w1 w2 := Below.grown ((Below.refl _ _).alloc hs1 _) hgrow2 (size_alloc_le hs1 _) (fun j e => ((owns_below HO.out HB1.out).lt j e).1); have HO2 := hid hown2; have HB2 := hid hB2; clear hown2 hgrow2 hB2)
            | go_in)
          go_roundw
          case rel => exact ⟨k + 1, by omega, by go_num, by rw [filter_take_yes _ HX.out (by simp [HQ.out]), flat_snoc]; simpa using HO2.out, hB.trans ((HB1.out.mono hB.size).trans HB2.out)⟩
          case measure => simp [intOf]; omega
        · have hcon := ref_In a' len' cap' l' (r, m) wr (HI.out.2.keep hB)
          rw [hq] at hcon
          have HQ := hid hq
          clear hq
          go_wp2_with (go_at_call 39; refine hcon.mono ?_; rintro e w1 ⟨rfl, hB1⟩; have HB1 := hid hB1; clear hB1)
          go_roundw
          case rel => exact ⟨k + 1, by omega, by go_num, by rw [filter_take_no _ HX.out (by simp [HQ.out])]; exact owns_below HO.out HB1.out, hB.trans (HB1.out.mono hB.size)⟩
          case measure => simp [intOf]; omega
    · obtain rfl : k = len := by omega
      have ht : l.take k = l := List.take_of_length_le (by rw [HL.out.1]; exact Nat.le_refl _)
      rw [ht] at hown
      have hI2 := owns_dotsV hown (fun d hd => HL.out.2.1 d (List.mem_filter.1 hd).1)
      have hlf : (l.filter (fun d => !inB l' d)).length ≤ 1000000 := Nat.le_trans (List.length_filter_le _ _) (by rw [HL.out.1]; exact hl)
      have HI2 := hid hI2
      clear hown ht hI2
      go_wp2_with (go_at_call 21; refine (ref_SortV _ (l.filter (fun d => !inB l' d)) _ HI2.out hlf).mono ?_; intro e w3 hP; obtain ⟨v3, rfl, hr3, hB4⟩ := hP.after hB; have HR := hid hr3; clear hr3 hP)
      go_ret
      exact ⟨v3, rfl, HR.out, hB4⟩

end Go.Proofs.Ytmjmgjdklhdcdaa
