/-
  The law on texts that are as long as they may be, and longer.
-/
import Derived.Test.YtnglalahhdkebaaRN
namespace Go.Proofs.Ytnglalahhdkebaa.Q
set_option linter.unusedVariables false
set_option linter.unusedSimpArgs false
set_option maxRecDepth 100000
open Go Go.RowKit Wire

theorem rep_get (n : Nat) (b : UInt8) (i : Nat) (h : i < (ba (List.replicate n b)).size) : (ba (List.replicate n b))[i].toNat = b.toNat := by
  have h1 := ba_get (List.replicate n b) i h
  rw [List.getElem?_replicate] at h1
  split at h1
  · rw [← Option.some.inj h1]
  · cases h1
/-- Bytes all the same, in a row, as a string from a place on. -/
theorem conv_rep {wr : World} {g n o m : Nat} {b : UInt8} (h : wr.heap[g]? = some (.cells (S.rowCells n (fun _ => b.toNat) n) 5 (0, 0))) (hm : o + m = n) (cap : Nat) :
    (convert 40 9 (.slice (some ⟨g, o, none⟩) m cap)).run Try.prog wr = .ok (.string (ba (List.replicate m b))) wr := by
  have hc := Lib.run_convert_whole (P := Try.prog) wr 40 5 9 Try.underlying40 Try.underlying5 Try.underlying9 g o (ba (List.replicate m b)) (fun i hi => by
    have hi' : o + i < n := by rw [ba_size, List.length_replicate] at hi; omega
    rw [rep_get m b i hi, cell_of_row _ _ _ _ _ _ h, S.row_at _ _ _ _ hi', if_pos hi']) cap
  rw [ba_size, List.length_replicate] at hc
  exact hc

set_option maxHeartbeats 4000000 in
theorem law_RecordLong (w : World) (a c : Nat) (ha : a < 256) (hc : c < 256) :
    Calls Try.prog 6 #[.int .u8 (a : Int), .int .u8 (c : Int)] w fun e w' => e = .returned (.bool true) ∧ Below w.heap.size w w' := by
  obtain ⟨b, hb⟩ : ∃ b : UInt8, b.toNat = c := ⟨UInt8.ofNat c, u8_ofNat hc⟩
  obtain ⟨N, hN⟩ : ∃ N : Nat, N = 65537 := ⟨_, rfl⟩
  have hNle : N ≤ 100000 := by omega
  have hNge : 1 < N := by omega
  have hmk0 := S.make_row N (by omega) (fun _ => b.toNat) w
  have hm0 : S.MixW w (w.alloc (.cells (S.rowCells N (fun _ => b.toNat) 0) 5)) N (fun _ => b.toNat) 0 := ⟨(Below.refl _ w).alloc (Nat.le_refl _) _, heap_alloc_last _ _⟩
  have hconv1 : ∀ wr, S.MixW w wr N (fun _ => b.toNat) N → (convert 40 9 (.slice (some ⟨w.heap.size, 1, none⟩) (N - 1) (N - 1))).run Try.prog wr = .ok (.string (ba (List.replicate (N - 1) b))) wr := fun wr h => conv_rep h.2 (by omega) _
  have hconv0 : ∀ wr, S.MixW w wr N (fun _ => b.toNat) N → (convert 40 9 (.slice (some ⟨w.heap.size, 0, none⟩) N N)).run Try.prog wr = .ok (.string (ba (List.replicate N b))) wr := fun wr h => conv_rep h.2 (by omega) _
  have hM0 : (List.replicate (N - 1) b).length = 65536 := by rw [List.length_replicate]; omega
  have hB0 : (List.replicate N b).length = 65537 := by rw [List.length_replicate]; omega
  generalize List.replicate (N - 1) b = M at hconv1 hM0
  generalize List.replicate N b = B at hconv0 hB0
  have hcell : ∀ wr k, k < N → S.MixW w wr N (fun _ => b.toNat) k → wr.cell? ⟨w.heap.size, k, none⟩ = some (.int .u8 0) ∧ wr.frozen? ⟨w.heap.size, k, none⟩ = false := fun wr k hk h => by
    refine ⟨?_, frozen_of_row _ _ _ _ _ h.2⟩
    rw [cell_of_row _ _ _ _ _ _ h.2, S.row_at _ _ _ _ hk, if_neg (by omega)]
    rfl
  have hstore : ∀ wr k, S.MixW w wr N (fun _ => b.toNat) k → S.MixW w (wr.setCell ⟨w.heap.size, k, none⟩ (.int .u8 (c : Int))) N (fun _ => b.toNat) (k + 1) := fun wr k h => by
    have := h.store
    rw [hb] at this ⊢
    exact this
  have hkeep : ∀ wr W, S.MixW w wr N (fun _ => b.toNat) N → Below wr.heap.size wr W → S.MixW w W N (fun _ => b.toNat) N := fun wr W h hW => ⟨h.1.trans (hW.mono h.1.size), (hW.block _ (lt_of_some h.2)).trans h.2⟩
  have hbel : ∀ wr k, S.MixW w wr N (fun _ => b.toNat) k → Below w.heap.size w wr := fun wr k h => h.1
  generalize hR0 : S.rowCells N (fun _ => b.toNat) 0 = R0 at hmk0 hm0
  have hmk : (Instr.makeSlice 40 (.int .i64 65537) (.int .i64 65537)).run Try.prog w = .ok (.slice (some ⟨w.heap.size, 0, none⟩) N N) (w.alloc (.cells R0 5)) := by
    rw [show (65537 : Int) = (N : Int) by omega]; exact hmk0
  generalize hP : S.MixW w = MX at *
  clear hR0 hmk0 hP hN
  -- the bytes
  have hM65 : ∀ t ∈ [M], t.length ≤ 65536 := fun t ht => by rw [List.mem_singleton] at ht; rw [ht]; omega
  have hrow : rowB [M] = record M := by rw [rowB_cons, rowB_nil, List.append_nil]
  have hrl : (record M).length = 65544 := by rw [record_length, hM0, enc3]; rfl
  have hrN : (rowB [M]).length = 65544 := by rw [hrow]; exact hrl
  obtain ⟨k, hk⟩ : ∃ k : Nat, k = 65543 - a := ⟨_, rfl⟩
  have hk1 : (65543 : Int) - (a : Int) = (k : Int) := by omega
  have hkl : k ≤ 65544 := by omega
  obtain ⟨r2, q1, q2⟩ := scan_cut hM65 (k := k) (n := 0) (by omega) (by simp [rowB]) (by
    intro t ht
    obtain rfl : M = t := by simpa using ht
    rw [hrl, List.take_zero, rowB_nil]
    simp; omega) (by omega)
  have q3 : stB r2 = 1 := by rw [q2, if_neg (by simp [rowB]; omega)]
  rw [hrow] at q1
  have hp1 : ∀ W : World, Calls Try.prog 9 #[.slice (some ⟨W.heap.size, 0, none⟩) 1 1] (W.alloc (.cells #[.string (ba M)] 9)) fun e w' => e = .returned (.tuple #[.string (ba (record M)), .int .i64 0]) ∧ Below W.heap.size W w' := fun W => by
    have := record_Put_ok [M] _ _ (SV.new W [M] (by simp) (by simp)) hM65 (by omega)
    rw [hrow] at this
    refine this.mono ?_
    rintro e w' ⟨rfl, hb⟩
    exact ⟨rfl, ((Below.refl _ W).alloc (Nat.le_refl _) _).trans (hb.mono (by simp))⟩
  have hp2 : ∀ W : World, Calls Try.prog 9 #[.slice (some ⟨W.heap.size, 0, none⟩) 3 3] (W.alloc (.cells #[.string ⟨#[120]⟩, .string (ba B), .string ⟨#[121]⟩] 9)) fun e w' => e = .returned (.tuple #[.string (ba []), .int .i64 3]) ∧ Below W.heap.size W w' := fun W => by
    refine (record_Put_long [[120], B, [121]] _ _ (SV.new W [[120], B, [121]] (by simp) (by simp)) (fun t ht => ?_) ?_).mono ?_
    · simp only [List.mem_cons, List.not_mem_nil, or_false] at ht
      rcases ht with rfl | rfl | rfl
      · simp
      · omega
      · simp
    · exact List.any_eq_true.2 ⟨B, by simp, decide_eq_true (by omega)⟩
    · rintro e w' ⟨rfl, hb⟩
      exact ⟨rfl, ((Below.refl _ W).alloc (Nat.le_refl _) _).trans (hb.mono (by simp))⟩
  have hs1 : ∀ W : World, Calls Try.prog 11 #[.string (ba (record M)), .slice (some ⟨W.heap.size, 0, none⟩) 1 1, .int .i64 65544, .int .u8 0] (W.alloc (.cells #[.string (ba M)] 9)) fun e w' => e = .returned (.bool true) ∧ Below W.heap.size W w' := fun W => by
    have hsr := scan_row hM65
    rw [hrow] at hsr
    refine (law_scans hsr (by omega) _ _ (SV.new W [M] (by simp) (by simp)) 65544 0 hrN rfl).mono ?_
    rintro e w' ⟨rfl, hb⟩
    exact ⟨rfl, ((Below.refl _ W).alloc (Nat.le_refl _) _).trans (hb.mono (by simp))⟩
  have hs2 : ∀ W : World, Calls Try.prog 11 #[.string (ba ((record M).take k)), .slice none 0 0, .int .i64 0, .int .u8 1] W fun e w' => e = .returned (.bool true) ∧ Below W.heap.size W w' := fun W =>
    law_scans (m := []) q1 (by rw [List.length_take]; omega) _ W (SV.nil W) 0 1 rfl q3
  have hrs : (ba (record M)).size = 65544 := by rw [ba_size, hrl]
  have hex := ba_extract_to (record M) k
  have huw : IntKind.i64.wrap (a : Int) = (a : Int) := by simp [IntKind.wrap, IntKind.bits, IntKind.signed]; omega
  clear hk q1 q2 q3 hM65 hrow hrl hrN hM0 hB0
  generalize ba (record M) = TR at *
  generalize ba ((record M).take k) = TK at *
  generalize ba M = TM at *
  generalize ba B = TB at *
  go_enter Try.func6, Try.ntmps6
  go_wp2_with (fail)
  go_loopw [6] (fun i wr => ∃ j : Nat, j ≤ N ∧ i = .int .i64 j ∧ Hid (MX wr N (fun _ => b.toNat) j)) (fun i _ => N - (intOf i).toNat)
  case atStart => exact ⟨0, by omega, rfl, hid hm0⟩
  case round =>
    obtain ⟨j, hj, rfl, HM⟩ := hrel
    by_cases hlt : j < N
    · obtain ⟨hcj, hfj⟩ := hcell wr j hlt HM.out
      have HN := hid (hstore wr j HM.out)
      go_wp2_with (fail)
      go_roundw
      case rel => exact ⟨j + 1, by omega, by go_num, HN⟩
      case measure => simp [intOf]; omega
    · obtain rfl : j = N := by omega
      have e1 := hconv1 wr HM.out
      have HBW := hid (hbel wr _ HM.out)
      clear hmk hm0
      go_wp2_with (first
        | (go_at_call 9; first
          | ((with_reducible refine (hp1 _).mono ?_); rintro e w5 ⟨rfl, hb5⟩; have e2 := hconv0 w5 (hkeep wr w5 HM.out hb5); have HB5 := hid hb5; clear hb5 hp1)
          | ((with_reducible refine (hp2 _).mono ?_); rintro e w6 ⟨rfl, hb6⟩; have HB6 := hid hb6; clear hb6 hp2))
        | (go_at_call 11; first
          | ((with_reducible refine (hs1 _).mono ?_); rintro e w7 ⟨rfl, hb7⟩; have HB7 := hid hb7; clear hb7 hs1)
          | ((with_reducible refine (hs2 _).mono ?_); rintro e w8 ⟨rfl, hb8⟩; have HB8 := hid hb8; clear hb8 hs2))
        | (go_at_call 8; (with_reducible refine (law_head _).mono ?_); rintro e w9 ⟨rfl, hb9⟩; have HB9 := hid hb9; clear hb9))
      go_ret
      exact ⟨rfl, below_next HBW.out (below_next HB5.out (below_next HB6.out (below_next HB7.out (below_next HB8.out HB9.out))))⟩
end Go.Proofs.Ytnglalahhdkebaa.Q
