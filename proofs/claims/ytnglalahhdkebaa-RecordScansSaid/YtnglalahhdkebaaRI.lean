/-
  Contracts of package record: how a length is read, and what a length that is not whole can become.
-/
import Derived.Test.YtnglalahhdkebaaRH
namespace Go.Proofs.Ytnglalahhdkebaa.Q
set_option linter.unusedVariables false
set_option linter.unusedSimpArgs false
set_option maxRecDepth 100000
open Go Go.RowKit Wire

theorem lite_HasPrefix (y x : Bs) (hx : x.length ≤ 1000000) (hy : y.length ≤ 1000000) (w : World) :
    Calls Try.prog 66 #[.string (ba y), .string (ba x)] w fun e w' => e = .returned (.bool (x.isPrefixOf y)) ∧ w = w' := by
  have hxs := ba_size x
  have hys := ba_size y
  have he := ba_extract_to y x.length
  rw [prefix_is]
  by_cases h : x.length ≤ y.length
  · have hb := beq_ba (y.take x.length) x
    rw [decide_eq_true h, Bool.true_and]
    generalize decide (y.take x.length = x) = b at hb
    go_enter Try.func66, Try.ntmps66
    go_wp2
    go_ret
    exact ⟨rfl, rfl⟩
  · have hn : ¬ x.length ≤ y.length := h
    rw [decide_eq_false h, Bool.false_and]
    go_enter Try.func66, Try.ntmps66
    go_wp2
    go_ret
    exact ⟨rfl, rfl⟩
theorem strings_HasPrefix (y x : Bs) (hx : x.length ≤ 1000000) (hy : y.length ≤ 1000000) (w : World) :
    Calls Try.prog 52 #[.string (ba y), .string (ba x)] w fun e w' => e = .returned (.bool (x.isPrefixOf y)) ∧ w = w' := by
  go_enter Try.func52, Try.ntmps52
  go_wp2_with (go_at_call 66; refine (lite_HasPrefix y x hx hy _).mono ?_; rintro e w1 ⟨rfl, rfl⟩)
  go_ret
  exact ⟨rfl, rfl⟩

/-- Of a row: how long the length's bytes are, the length, is there one. -/
def headOf (s : Bs) : Nat := match numOf s with | some (n, _) => (enc n).length | none => min s.length 4
def lenOf (s : Bs) : Nat := match numOf s with | some (n, _) => n | none => 0
theorem window_facts (s : Bs) : (takeNum (some (s.take 4)) 65536).1 = lenOf s ∧ (takeNum (some (s.take 4)) 65536).2.isSome = (numOf s).isSome ∧ (s.take 4).length - ((takeNum (some (s.take 4)) 65536).2.getD []).length = headOf s ∧ ((takeNum (some (s.take 4)) 65536).2.getD []).length ≤ (s.take 4).length ∧ lenOf s ≤ 65536 := by
  rw [num_window]
  unfold lenOf headOf
  cases hn : numOf s with
  | none => exact ⟨rfl, rfl, by simp; omega, by simp, by simp⟩
  | some p =>
    obtain ⟨n, r⟩ := p
    obtain ⟨rfl, hle⟩ := numOf_some hn
    have h4 := enc_le4 hle
    refine ⟨rfl, rfl, ?_, ?_, hle⟩
    · simp only [Option.getD_some, List.length_take, List.length_append]; omega
    · simp only [Option.getD_some, List.length_take, List.length_append]; omega

set_option maxHeartbeats 1000000 in
theorem record_readLength (s : Bs) (hs : s.length ≤ 900000) (w : World) :
    Calls Try.prog 49 #[.string (ba s)] w fun e w' => e = .returned (.tuple #[.int .i64 (headOf s : Nat), .int .i64 (lenOf s : Nat), .bool (numOf s).isSome]) ∧ Below w.heap.size w w' := by
  obtain ⟨f1, f2, f3, f4, f5⟩ := window_facts s
  have hss : (ba s).size = s.length := ba_size s
  have hmi : min (s.length : Int) 4 = ((min s.length 4 : Nat) : Int) := by omega
  have hex : (ba s).extract 0 (min s.length 4) = ba (s.take 4) := by
    rw [ba_extract_to]
    congr 1
    rcases Nat.lt_or_ge s.length 4 with h | h
    · rw [Nat.min_eq_left (by omega), List.take_of_length_le (by omega), List.take_of_length_le (by omega)]
    · rw [Nat.min_eq_right h]
  have hml : min s.length 4 ≤ s.length := by omega
  have hwl : (s.take 4).length ≤ 4 := by rw [List.length_take]; omega
  have hws : (ba (s.take 4)).size = (s.take 4).length := ba_size _
  have hopen := fun W => wire_Open (ba (s.take 4)) (by rw [hws]; omega) W
  rw [ba_list] at hopen
  have hnum : ∀ g W, RAt W (some g) (some (s.take 4)) → Calls Try.prog 59 #[.pointer (some ⟨g, 0, none⟩), .int .u64 65536] W fun e w' => e = .returned (.int .u64 (lenOf s : Nat)) ∧ RAt w' (some g) (takeNum (some (s.take 4)) 65536).2 ∧ Keeps W.heap.size (some g) W w' := fun g W h => by
    have := wire_Num (some g) (some (s.take 4)) 65536 (show (s.take 4).length ≤ 1000000 by omega) W h
    rw [f1] at this
    exact this
  have hcv : IntKind.i64.wrap (lenOf s : Int) = lenOf s := by simp [IntKind.wrap, IntKind.bits, IntKind.signed]; omega
  generalize (takeNum (some (s.take 4)) 65536).2 = st at *
  have hsub : (((s.take 4).length : Nat) : Int) - ((st.getD []).length : Int) = (headOf s : Int) := by omega
  have hleft : ∀ g W, RAt W (some g) st → Calls Try.prog 60 #[.pointer (some ⟨g, 0, none⟩)] W fun e w' => e = .returned (.int .i64 ((st.getD []).length : Nat)) ∧ W = w' := fun g W h => wire_Left (some g) st W h
  have hfine : ∀ g W, RAt W (some g) st → Calls Try.prog 61 #[.pointer (some ⟨g, 0, none⟩)] W fun e w' => e = .returned (.bool (numOf s).isSome) ∧ W = w' := fun g W h => by rw [← f2]; exact wire_Fine (some g) st W h
  clear f1 f2 f3 f4
  generalize s.take 4 = q at *
  generalize headOf s = hd at *
  generalize lenOf s = n at *
  generalize (numOf s).isSome = ok at *
  generalize min s.length 4 = m at *
  generalize (st.getD []).length = lf at *
  go_enter Try.func49, Try.ntmps49
  go_wp2_with (first
    | (go_at_call 58; refine (hopen _).mono ?_; rintro e w1 ⟨g, rfl, hg, hr1, hb1⟩; have HR1 := hid hr1; clear hr1)
    | (go_at_call 59; refine (hnum g _ HR1.out).mono ?_; rintro e w2 ⟨rfl, hr2, hk2⟩; have HR2 := hid hr2; have HK2 := hid hk2; clear hr2 hk2)
    | (go_at_call 60; refine (hleft g _ HR2.out).mono ?_; rintro e w3 ⟨rfl, rfl⟩)
    | (go_at_call 61; refine (hfine g _ HR2.out).mono ?_; rintro e w4 ⟨rfl, rfl⟩))
  exact bodyPost_ret (results_tmp3 rfl _ _ _) rfl ⟨rfl, hb1.trans ((HK2.out.mono hb1.size).below (fun k e => by cases e; exact hg))⟩

/-! ### Numbers -/
theorem num_0 (w : World) : Calls Try.prog 64 #[.int .i64 0] w fun e w' => e = .returned (.int .i64 1) ∧ w = w' := by
  go_enter Try.func64, Try.ntmps64
  go_wp2
  go_ret
  exact ⟨rfl, rfl⟩
theorem num_1 (w : World) : Calls Try.prog 64 #[.int .i64 1] w fun e w' => e = .returned (.int .i64 256) ∧ w = w' := by
  go_enter Try.func64, Try.ntmps64
  go_wp2
  go_ret
  exact ⟨rfl, rfl⟩
theorem num_2 (w : World) : Calls Try.prog 64 #[.int .i64 2] w fun e w' => e = .returned (.int .i64 65536) ∧ w = w' := by
  go_enter Try.func64, Try.ntmps64
  go_wp2
  go_ret
  exact ⟨rfl, rfl⟩
theorem num_3 (w : World) : Calls Try.prog 64 #[.int .i64 3] w fun e w' => e = .returned (.int .i64 16777216) ∧ w = w' := by
  go_enter Try.func64, Try.ntmps64
  go_wp2
  go_ret
  exact ⟨rfl, rfl⟩
theorem short_1 (n : Nat) (hn : n ≤ 16777216) (b : Nat) (w : World) (hc : w.cell? ⟨b, 0, none⟩ = some (.int .i64 1)) : Calls Try.prog 63 #[.int .i64 n, .pointer (some ⟨b, 0, none⟩)] w fun e w' => e = .returned (.int .i64 (n / 256 : Nat)) ∧ w = w' := by
  go_enter Try.func63, Try.ntmps63
  go_wp2
  go_ret
  exact ⟨rfl, rfl⟩
theorem short_2 (n : Nat) (hn : n ≤ 16777216) (b : Nat) (w : World) (hc : w.cell? ⟨b, 0, none⟩ = some (.int .i64 2)) : Calls Try.prog 63 #[.int .i64 n, .pointer (some ⟨b, 0, none⟩)] w fun e w' => e = .returned (.int .i64 (n / 65536 : Nat)) ∧ w = w' := by
  go_enter Try.func63, Try.ntmps63
  go_wp2
  go_ret
  exact ⟨rfl, rfl⟩
theorem short_3 (n : Nat) (hn : n ≤ 16777216) (b : Nat) (w : World) (hc : w.cell? ⟨b, 0, none⟩ = some (.int .i64 3)) : Calls Try.prog 63 #[.int .i64 n, .pointer (some ⟨b, 0, none⟩)] w fun e w' => e = .returned (.int .i64 (n / 16777216 : Nat)) ∧ w = w' := by
  go_enter Try.func63, Try.ntmps63
  go_wp2
  go_ret
  exact ⟨rfl, rfl⟩

/-- The digits as a number: none, one, two. -/
theorem record_bigEndian (q : Bs) (hq : q.length ≤ 2) (w : World) :
    Calls Try.prog 65 #[.string (ba q)] w fun e w' => e = .returned (.int .i64 (big q : Nat)) ∧ Below w.heap.size w w' := by
  have hqs : (ba q).size = q.length := ba_size q
  go_enter Try.func65, Try.ntmps65
  go_wp2
  go_loopw [3, 7] (fun n i wr => ∃ k : Nat, k ≤ q.length ∧ i = .int .i64 k ∧ n = .int .i64 (big (q.take k) : Nat) ∧ Hid (Below w.heap.size w wr)) (fun n i _ => q.length - (intOf i).toNat)
  case atStart => exact ⟨0, by omega, rfl, rfl, hid (Below.refl _ _)⟩
  case round =>
    obtain ⟨k, hk, rfl, rfl, HB⟩ := hrel
    by_cases hlt : k < q.length
    · have hks : k < (ba q).size := by rw [hqs]; exact hlt
      have hlen : (q.take k).length ≤ 1 := by rw [List.length_take]; omega
      have hbl := big_lt (q.take k)
      have hb1 : big (q.take k) < 256 := Nat.lt_of_lt_of_le hbl (Nat.le_trans (Nat.pow_le_pow_right (by omega) hlen) (by decide))
      have hbyte := Wire.u8_lt (ba q)[k]
      have hnext : big (q.take (k + 1)) = 256 * big (q.take k) + (ba q)[k].toNat := by
        rw [List.take_add_one, ba_get q k hks]
        exact big_snoc _ _
      have hor : bits .or .i64 ((big (q.take k) : Int) * 256) ((ba q)[k].toNat : Int) = (big (q.take (k + 1)) : Int) := by
        have := or_i64 (big (q.take k) * 256) (ba q)[k].toNat (by omega) (by omega)
        rw [or_low _ _ hbyte] at this
        rw [show (big (q.take k) : Int) * 256 = ((big (q.take k) * 256 : Nat) : Int) by omega, this, hnext]
        omega
      clear hbl hnext
      go_wp2
      go_roundw
      case rel => exact ⟨k + 1, by omega, by go_num, rfl, HB⟩
      case measure => simp [intOf]; omega
    · obtain rfl : k = q.length := by omega
      rw [List.take_length]
      go_wp2
      go_ret
      exact ⟨rfl, HB.out⟩
end Go.Proofs.Ytnglalahhdkebaa.Q
