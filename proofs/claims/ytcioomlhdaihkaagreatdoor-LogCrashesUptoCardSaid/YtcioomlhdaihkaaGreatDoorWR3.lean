/-
  Contracts of package record: how a length is read, and what a length that is not whole can become.
-/
import Derived.Test.YtcioomlhdaihkaaGreatDoorWR2
import Derived.RangeFuncFrom
import Derived.RangeFuncLeaves
import Derived.RangeFuncBox
import Derived.RangeFuncCalls
import Derived.Shelf.RegionOpen
import Derived.OwnWalkIn
import Derived.TacticsInMore
import Derived.LoopNIn
import Derived.LoopIn
namespace Go.Proofs.YtcioomlhdaihkaaGreatDoor.Q
set_option linter.unusedVariables false
set_option linter.unusedSimpArgs false
set_option maxRecDepth 100000
open Go Go.RowKit Wire

set_option maxRecDepth 100000
set_option linter.unusedVariables false
set_option linter.unusedSimpArgs false
theorem lite_HasPrefix (y x : Bs) (hx : x.length ≤ 1000000) (hy : y.length ≤ 1000000) (w : World) :
    Calls Tryz.prog 129 #[.string (ba y), .string (ba x)] w fun e w' => e = .returned (.bool (x.isPrefixOf y)) ∧ w = w' := by
  have hxs := ba_size x
  have hys := ba_size y
  have he := ba_extract_to y x.length
  rw [prefix_is]
  by_cases h : x.length ≤ y.length
  · have hb := beq_ba (y.take x.length) x
    rw [decide_eq_true h, Bool.true_and]
    generalize decide (y.take x.length = x) = b at hb
    go_enter Tryz.func129, Tryz.ntmps129
    go_wp2
    go_ret
    exact ⟨rfl, rfl⟩
  · have hn : ¬ x.length ≤ y.length := h
    rw [decide_eq_false h, Bool.false_and]
    go_enter Tryz.func129, Tryz.ntmps129
    go_wp2
    go_ret
    exact ⟨rfl, rfl⟩
theorem strings_HasPrefix (y x : Bs) (hx : x.length ≤ 1000000) (hy : y.length ≤ 1000000) (w : World) :
    Calls Tryz.prog 113 #[.string (ba y), .string (ba x)] w fun e w' => e = .returned (.bool (x.isPrefixOf y)) ∧ w = w' := by
  go_enter Tryz.func113, Tryz.ntmps113
  go_wp2_with (go_at_call 129; refine (lite_HasPrefix y x hx hy _).mono ?_; rintro e w1 ⟨rfl, rfl⟩)
  go_ret
  exact ⟨rfl, rfl⟩

/-- Of a row: how long the length's bytes are, the length, is there one. -/
def headOf (s : Bs) : Nat := match numOf s with | some (n, _) => (enc n).length | none => min s.length 4
def lenOf (s : Bs) : Nat := match numOf s with | some (n, _) => n | none => 0
theorem window_facts (s : Bs) : (takeNum (some (s.take 4)) 65536).1 = lenOf s ∧ (takeNum (some (s.take 4)) 65536).2.isSome = (numOf s).isSome ∧ (s.take 4).length - ((takeNum (some (s.take 4)) 65536).2.getD []).length = headOf s ∧ ((takeNum (some (s.take 4)) 65536).2.getD []).length ≤ (s.take 4).length ∧ lenOf s ≤ 65536 := by
  rw [num_window]
  unfold lenOf headOf
  cases hn : numOf s with
  | none => exact ⟨rfl, rfl, by simp; omega, by simp, by simp⟩
  | some p =>
    obtain ⟨n, r⟩ := p
    obtain ⟨rfl, hle⟩ := numOf_some hn
    have h4 := enc_le4 hle
    refine ⟨rfl, rfl, ?_, ?_, hle⟩
    · simp only [Option.getD_some, List.length_take, List.length_append]; omega
    · simp only [Option.getD_some, List.length_take, List.length_append]; omega

set_option maxHeartbeats 1000000 in
theorem record_readLength (s : Bs) (hs : s.length ≤ 900000) (w : World) :
    Calls Tryz.prog 172 #[.string (ba s)] w fun e w' => e = .returned (.tuple #[.int .i64 (headOf s : Nat), .int .i64 (lenOf s : Nat), .bool (numOf s).isSome]) ∧ Below w.heap.size w w' := by
  obtain ⟨f1, f2, f3, f4, f5⟩ := window_facts s
  have hss : (ba s).size = s.length := ba_size s
  have hmi : min (s.length : Int) 4 = ((min s.length 4 : Nat) : Int) := by omega
  have hex : (ba s).extract 0 (min s.length 4) = ba (s.take 4) := by
    rw [ba_extract_to]
    congr 1
    rcases Nat.lt_or_ge s.length 4 with h | h
    · rw [Nat.min_eq_left (by omega), List.take_of_length_le (by omega), List.take_of_length_le (by omega)]
    · rw [Nat.min_eq_right h]
  have hml : min s.length 4 ≤ s.length := by omega
  have hwl : (s.take 4).length ≤ 4 := by rw [List.length_take]; omega
  have hws : (ba (s.take 4)).size = (s.take 4).length := ba_size _
  have hopen := fun W => wire_Open (ba (s.take 4)) (by rw [hws]; omega) W
  rw [ba_list] at hopen
  have hnum : ∀ g W, RAt W (some g) (some (s.take 4)) → Calls Tryz.prog 193 #[.pointer (some ⟨g, 0, none⟩), .int .u64 65536] W fun e w' => e = .returned (.int .u64 (lenOf s : Nat)) ∧ RAt w' (some g) (takeNum (some (s.take 4)) 65536).2 ∧ Keeps W.heap.size (some g) W w' := fun g W h => by
    have := wire_Num (some g) (some (s.take 4)) 65536 (show (s.take 4).length ≤ 1000000 by omega) W h
    rw [f1] at this
    exact this
  have hcv : IntKind.i64.wrap (lenOf s : Int) = lenOf s := by simp [IntKind.wrap, IntKind.bits, IntKind.signed]; omega
  generalize (takeNum (some (s.take 4)) 65536).2 = st at *
  have hsub : (((s.take 4).length : Nat) : Int) - ((st.getD []).length : Int) = (headOf s : Int) := by omega
  have hleft : ∀ g W, RAt W (some g) st → Calls Tryz.prog 194 #[.pointer (some ⟨g, 0, none⟩)] W fun e w' => e = .returned (.int .i64 ((st.getD []).length : Nat)) ∧ W = w' := fun g W h => wire_Left (some g) st W h
  have hfine : ∀ g W, RAt W (some g) st → Calls Tryz.prog 195 #[.pointer (some ⟨g, 0, none⟩)] W fun e w' => e = .returned (.bool (numOf s).isSome) ∧ W = w' := fun g W h => by rw [← f2]; exact wire_Fine (some g) st W h
  clear f1 f2 f3 f4
  generalize s.take 4 = q at *
  generalize headOf s = hd at *
  generalize lenOf s = n at *
  generalize (numOf s).isSome = ok at *
  generalize min s.length 4 = m at *
  generalize (st.getD []).length = lf at *
  go_enter Tryz.func172, Tryz.ntmps172
  go_wp2_with (first
    | (go_at_call 192; refine (hopen _).mono ?_; rintro e w1 ⟨g, rfl, hg, hr1, hb1⟩; have HR1 := hid hr1; clear hr1)
    | (go_at_call 193; refine (hnum g _ HR1.out).mono ?_; rintro e w2 ⟨rfl, hr2, hk2⟩; have HR2 := hid hr2; have HK2 := hid hk2; clear hr2 hk2)
    | (go_at_call 194; refine (hleft g _ HR2.out).mono ?_; rintro e w3 ⟨rfl, rfl⟩)
    | (go_at_call 195; refine (hfine g _ HR2.out).mono ?_; rintro e w4 ⟨rfl, rfl⟩))
  exact bodyPost_ret (results_tmp3 rfl _ _ _) rfl ⟨rfl, hb1.trans ((HK2.out.mono hb1.size).below (fun k e => by cases e; exact hg))⟩

/-! ### Numbers -/
theorem num_0 (w : World) : Calls Tryz.prog 197 #[.int .i64 0] w fun e w' => e = .returned (.int .i64 1) ∧ w = w' := by
  go_enter Tryz.func197, Tryz.ntmps197
  go_wp2
  go_ret
  exact ⟨rfl, rfl⟩
theorem num_1 (w : World) : Calls Tryz.prog 197 #[.int .i64 1] w fun e w' => e = .returned (.int .i64 256) ∧ w = w' := by
  go_enter Tryz.func197, Tryz.ntmps197
  go_wp2
  go_ret
  exact ⟨rfl, rfl⟩
theorem num_2 (w : World) : Calls Tryz.prog 197 #[.int .i64 2] w fun e w' => e = .returned (.int .i64 65536) ∧ w = w' := by
  go_enter Tryz.func197, Tryz.ntmps197
  go_wp2
  go_ret
  exact ⟨rfl, rfl⟩
theorem num_3 (w : World) : Calls Tryz.prog 197 #[.int .i64 3] w fun e w' => e = .returned (.int .i64 16777216) ∧ w = w' := by
  go_enter Tryz.func197, Tryz.ntmps197
  go_wp2
  go_ret
  exact ⟨rfl, rfl⟩
theorem short_1 (n : Nat) (hn : n ≤ 16777216) (b : Nat) (w : World) (hc : w.cell? ⟨b, 0, none⟩ = some (.int .i64 1)) : Calls Tryz.prog 196 #[.int .i64 n, .pointer (some ⟨b, 0, none⟩)] w fun e w' => e = .returned (.int .i64 (n / 256 : Nat)) ∧ w = w' := by
  go_enter Tryz.func196, Tryz.ntmps196
  go_wp2
  go_ret
  exact ⟨rfl, rfl⟩
theorem short_2 (n : Nat) (hn : n ≤ 16777216) (b : Nat) (w : World) (hc : w.cell? ⟨b, 0, none⟩ = some (.int .i64 2)) : Calls Tryz.prog 196 #[.int .i64 n, .pointer (some ⟨b, 0, none⟩)] w fun e w' => e = .returned (.int .i64 (n / 65536 : Nat)) ∧ w = w' := by
  go_enter Tryz.func196, Tryz.ntmps196
  go_wp2
  go_ret
  exact ⟨rfl, rfl⟩
theorem short_3 (n : Nat) (hn : n ≤ 16777216) (b : Nat) (w : World) (hc : w.cell? ⟨b, 0, none⟩ = some (.int .i64 3)) : Calls Tryz.prog 196 #[.int .i64 n, .pointer (some ⟨b, 0, none⟩)] w fun e w' => e = .returned (.int .i64 (n / 16777216 : Nat)) ∧ w = w' := by
  go_enter Tryz.func196, Tryz.ntmps196
  go_wp2
  go_ret
  exact ⟨rfl, rfl⟩

/-- The digits as a number: none, one, two. -/
theorem record_bigEndian (q : Bs) (hq : q.length ≤ 2) (w : World) :
    Calls Tryz.prog 198 #[.string (ba q)] w fun e w' => e = .returned (.int .i64 (big q : Nat)) ∧ Below w.heap.size w w' := by
  have hqs : (ba q).size = q.length := ba_size q
  go_enter Tryz.func198, Tryz.ntmps198
  go_wp2
  go_loopw [3, 7] (fun n i wr => ∃ k : Nat, k ≤ q.length ∧ i = .int .i64 k ∧ n = .int .i64 (big (q.take k) : Nat) ∧ Hid (Below w.heap.size w wr)) (fun n i _ => q.length - (intOf i).toNat)
  case atStart => exact ⟨0, by omega, rfl, rfl, hid (Below.refl _ _)⟩
  case round =>
    obtain ⟨k, hk, rfl, rfl, HB⟩ := hrel
    by_cases hlt : k < q.length
    · have hks : k < (ba q).size := by rw [hqs]; exact hlt
      have hlen : (q.take k).length ≤ 1 := by rw [List.length_take]; omega
      have hbl := big_lt (q.take k)
      have hb1 : big (q.take k) < 256 := Nat.lt_of_lt_of_le hbl (Nat.le_trans (Nat.pow_le_pow_right (by omega) hlen) (by decide))
      have hbyte := Wire.u8_lt (ba q)[k]
      have hnext : big (q.take (k + 1)) = 256 * big (q.take k) + (ba q)[k].toNat := by
        rw [List.take_add_one, ba_get q k hks]
        exact big_snoc _ _
      have hor : bits .or .i64 ((big (q.take k) : Int) * 256) ((ba q)[k].toNat : Int) = (big (q.take (k + 1)) : Int) := by
        have := or_i64 (big (q.take k) * 256) (ba q)[k].toNat (by omega) (by omega)
        rw [or_low _ _ hbyte] at this
        rw [show (big (q.take k) : Int) * 256 = ((big (q.take k) * 256 : Nat) : Int) by omega, this, hnext]
        omega
      clear hbl hnext
      go_wp2
      go_roundw
      case rel => exact ⟨k + 1, by omega, by go_num, rfl, HB⟩
      case measure => simp [intOf]; omega
    · obtain rfl : k = q.length := by omega
      rw [List.take_length]
      go_wp2
      go_ret
      exact ⟨rfl, HB.out⟩
end Go.Proofs.YtcioomlhdaihkaaGreatDoor.Q

namespace Go.Proofs.YtcioomlhdaihkaaGreatDoor.Q
set_option linter.unusedVariables false
set_option linter.unusedSimpArgs false
set_option maxRecDepth 100000
open Go Go.RowKit Wire

set_option maxRecDepth 100000
set_option linter.unusedVariables false
set_option linter.unusedSimpArgs false
/-- Digits that are too many, or all there. -/
theorem bl_no (S : ByteArray) (a n : Nat) (hs : S.size = n + 1) (hn : n ≤ 1000000) (hat : S[0].toNat = a) (ha : 128 ≤ a) (ha2 : a < 256) (h : 131 < a ∨ a ≤ 128 + n) (w : World) :
    Calls Tryz.prog 174 #[.string S] w fun e w' => e = .returned (.bool false) ∧ Below w.heap.size w w' := by
  have hcv : IntKind.i64.wrap (a : Int) = a := by simp [IntKind.wrap, IntKind.bits, IntKind.signed]; omega
  have hex : ∀ m, m = n + 1 → (S.extract 1 m).size = n := fun m hm => by simp [ByteArray.size_extract]; omega
  have hex1 := hex _ rfl
  have hex2 : (S.extract 1 S.size).size = n := by rw [hs]; exact hex1
  obtain ⟨d, hd⟩ : ∃ d : Nat, a = 128 + d := ⟨a - 128, by omega⟩
  have h1 : (a : Int) - 128 = (d : Int) := by omega
  have hdb : d ≤ 128 := by omega
  clear hex
  by_cases h3 : 3 < d
  · have q1 : decide ((3 : Int) < (d : Int)) = true := decide_eq_true (by omega)
    clear hd h ha ha2
    go_enter Tryz.func174, Tryz.ntmps174
    go_wp2
    go_ret
    exact ⟨rfl, (Below.refl _ _).alloc (Nat.le_refl _) _⟩
  · have q1 : decide ((3 : Int) < (d : Int)) = false := decide_eq_false (by omega)
    have q2 : decide ((d : Int) - (n : Int) ≤ 0) = true := decide_eq_true (by omega)
    have q3 : d ≤ n := by omega
    clear hd h ha ha2
    go_enter Tryz.func174, Tryz.ntmps174
    go_wp2
    go_ret
    exact ⟨rfl, (Below.refl _ _).alloc (Nat.le_refl _) _⟩

set_option maxHeartbeats 1000000 in
/-- Digits that are missing: m of d, the numbers' bounds, shortened. -/
theorem bl_yes (S : ByteArray) (a d n m x1 x2 lo hi lo' hi' t : Nat) (hs : S.size = n + 1) (hn : n ≤ 2) (hat : S[0].toNat = a) (ha : a = 128 + d) (hd1 : 1 ≤ d) (hd : d ≤ 3) (hm : m + n = d) (hm0 : 0 < m)
    (q : Bs) (hq : S.extract 1 (n + 1) = ba q) (hql : q.length = n) (hbig : ∀ W, Calls Tryz.prog 198 #[.string (ba q)] W fun e w' => e = .returned (.int .i64 (t : Nat)) ∧ Below W.heap.size W w')
    (hn1 : ∀ W, Calls Tryz.prog 197 #[.int .i64 ((d - 1 : Nat) : Int)] W fun e w' => e = .returned (.int .i64 (x1 : Nat)) ∧ W = w') (hn2 : ∀ W, Calls Tryz.prog 197 #[.int .i64 (d : Int)] W fun e w' => e = .returned (.int .i64 (x2 : Nat)) ∧ W = w')
    (hx2 : x2 ≤ 16777216) (hx1 : x1 ≤ 16777216) (hx3 : 1 ≤ x2) (hlo : max 128 x1 = lo) (hhi : min 65536 (x2 - 1) = hi)
    (hc1 : ∀ (b : Nat) (W : World), W.cell? ⟨b, 0, none⟩ = some (.int .i64 (m : Int)) → Calls Tryz.prog 196 #[.int .i64 (lo : Int), .pointer (some ⟨b, 0, none⟩)] W fun e w' => e = .returned (.int .i64 (lo' : Nat)) ∧ W = w')
    (hc2 : ∀ (b : Nat) (W : World), W.cell? ⟨b, 0, none⟩ = some (.int .i64 (m : Int)) → Calls Tryz.prog 196 #[.int .i64 (hi : Int), .pointer (some ⟨b, 0, none⟩)] W fun e w' => e = .returned (.int .i64 (hi' : Nat)) ∧ W = w') (w : World) :
    Calls Tryz.prog 174 #[.string S] w fun e w' => e = .returned (.bool (decide (lo' ≤ t) && decide (t ≤ hi'))) ∧ Below w.heap.size w w' := by
  have hcv : IntKind.i64.wrap (a : Int) = a := by simp [IntKind.wrap, IntKind.bits, IntKind.signed]; omega
  have hex1 : (S.extract 1 (n + 1)).size = n := by rw [hq, ba_size, hql]
  have hqs : (ba q).size = n := by rw [ba_size, hql]
  have h1 : (a : Int) - 128 = (d : Int) := by omega
  have h2 : (d : Int) - (n : Int) = (m : Int) := by omega
  have h3 : decide ((3 : Int) < (d : Int)) = false := decide_eq_false (by omega)
  have h3' : ¬ 3 < d := by omega
  have h4 : decide ((m : Int) ≤ 0) = false := decide_eq_false (by omega)
  have h4' : ¬ m ≤ 0 := by omega
  have h5 : (d : Int) - 1 = ((d - 1 : Nat) : Int) := by omega
  have h6 : max (128 : Int) (x1 : Int) = (lo : Int) := by omega
  have h7 : (x2 : Int) - 1 = ((x2 - 1 : Nat) : Int) := by omega
  have h8 : min (65536 : Int) ((x2 - 1 : Nat) : Int) = (hi : Int) := by omega
  have hbox := cell_one_new w (.int .i64 (m : Int)) 3 0
  have hbx : (w.alloc (.cells #[.int .i64 (m : Int)] 3)).cell? ⟨w.heap.size, 0, none⟩ = some (.int .i64 (m : Int)) := (cell_of_heap (heap_alloc_last w _)).trans rfl
  have hcl1 : ∀ W, Below (w.heap.size + 1) (w.alloc (.cells #[.int .i64 (m : Int)] 3)) W → Calls Tryz.prog 196 #[.int .i64 (lo : Int), .pointer (some ⟨w.heap.size, 0, none⟩)] W fun e w' => e = .returned (.int .i64 (lo' : Nat)) ∧ W = w' := fun W hW => hc1 _ W ((hW.cell (p := ⟨w.heap.size, 0, none⟩) (Nat.lt_succ_self _)).trans hbx)
  have hcl2 : ∀ W, Below (w.heap.size + 1) (w.alloc (.cells #[.int .i64 (m : Int)] 3)) W → Calls Tryz.prog 196 #[.int .i64 (hi : Int), .pointer (some ⟨w.heap.size, 0, none⟩)] W fun e w' => e = .returned (.int .i64 (hi' : Nat)) ∧ W = w' := fun W hW => hc2 _ W ((hW.cell (p := ⟨w.heap.size, 0, none⟩) (Nat.lt_succ_self _)).trans hbx)
  clear hc1 hc2 hbox hlo hhi ha hm
  by_cases hle : lo' ≤ t
  · rw [decide_eq_true hle, Bool.true_and]
    have hle2 : decide ((lo' : Int) ≤ (t : Int)) = true := decide_eq_true (by omega)
    go_enter Tryz.func174, Tryz.ntmps174
    go_wp2_with (first
      | (go_at_call 198; refine (hbig _).mono ?_; rintro e w1 ⟨rfl, hb1⟩; have hB1 := hb1; rw [World.size_alloc] at hB1)
      | (go_at_call 196; first | ((with_reducible refine (hcl1 _ hB1).mono ?_); rintro e w2 ⟨rfl, rfl⟩) | ((with_reducible refine (hcl2 _ hB1).mono ?_); rintro e w2 ⟨rfl, rfl⟩))
      | (go_at_call 197; first | ((with_reducible refine (hn1 _).mono ?_); rintro e w3 ⟨rfl, rfl⟩) | ((with_reducible refine (hn2 _).mono ?_); rintro e w3 ⟨rfl, rfl⟩)))
    go_ret
    exact ⟨rfl, ((Below.refl _ w).alloc (Nat.le_refl _) _).trans (hB1.mono (by omega))⟩
  · rw [decide_eq_false hle, Bool.false_and]
    have hle2 : decide ((lo' : Int) ≤ (t : Int)) = false := decide_eq_false (by omega)
    go_enter Tryz.func174, Tryz.ntmps174
    go_wp2_with (first
      | (go_at_call 198; refine (hbig _).mono ?_; rintro e w1 ⟨rfl, hb1⟩; have hB1 := hb1; rw [World.size_alloc] at hB1)
      | (go_at_call 196; (with_reducible refine (hcl1 _ hB1).mono ?_); rintro e w2 ⟨rfl, rfl⟩)
      | (go_at_call 197; first | ((with_reducible refine (hn1 _).mono ?_); rintro e w3 ⟨rfl, rfl⟩) | ((with_reducible refine (hn2 _).mono ?_); rintro e w3 ⟨rfl, rfl⟩)))
    go_ret
    exact ⟨rfl, ((Below.refl _ w).alloc (Nat.le_refl _) _).trans (hB1.mono (by omega))⟩

theorem ba_tail (a : UInt8) (q : Bs) : (ba (a :: q)).extract 1 (q.length + 1) = ba q := ba_extract_from (a :: q) 1
theorem record_beginsLength (s : Bs) (hs : s.length ≤ 900000) (hn : numOf s = none) (hne : s ≠ []) (w : World) :
    Calls Tryz.prog 174 #[.string (ba s)] w fun e w' => e = .returned (.bool (lenB s)) ∧ Below w.heap.size w w' := by
  match s, hne with
  | a :: q, _ =>
    rw [← blv_len hn]
    have hq : q.length ≤ 900000 := by simp at hs; omega
    have hsz : (ba (a :: q)).size = q.length + 1 := ba_size (a :: q)
    have ha := u8_lt a
    have h128 : 128 ≤ a.toNat := by
      rcases Nat.lt_or_ge a.toNat 128 with h1 | h1
      · have := numOf_enc (n := a.toNat) (by omega) q
        rw [enc_small h1, ofNat_toNat8, List.singleton_append, hn] at this
        cases this
      · exact h1
    by_cases hno : 131 < a.toNat ∨ a.toNat ≤ 128 + q.length
    · unfold blv
      rw [if_pos hno]
      exact bl_no _ a.toNat q.length hsz (by omega) rfl h128 ha hno w
    · have hb : blv a.toNat q = (decide (max 128 (256 ^ (a.toNat - 129)) / 256 ^ (a.toNat - 128 - q.length) ≤ big q) && decide (big q ≤ min 65536 (256 ^ (a.toNat - 128) - 1) / 256 ^ (a.toNat - 128 - q.length))) := by unfold blv; rw [if_neg hno]
      rw [hb]
      have hbig := fun W => record_bigEndian q (by omega) W
      generalize ht : big q = t at *
      clear hb hn
      have key : ∀ d m, a.toNat = 128 + d → m + q.length = d → a.toNat - 128 = d ∧ a.toNat - 129 = d - 1 ∧ a.toNat - 128 - q.length = m := fun d m h1 h2 => by omega
      rcases (show a.toNat = 129 ∨ a.toNat = 130 ∨ a.toNat = 131 by omega) with h | h | h
      · obtain ⟨k1, k2, k3⟩ := key 1 1 (by omega) (by omega)
        rw [k3, k1, k2]
        exact bl_yes _ a.toNat 1 q.length 1 1 256 128 255 (128 / 256) (255 / 256) t hsz (by omega) rfl (by omega) (by omega) (by omega) (by omega) (by omega) q (ba_tail a q) rfl hbig num_0 num_1 (by omega) (by omega) (by omega) (by omega) (by omega) (fun b W h => short_1 128 (by omega) b W h) (fun b W h => short_1 255 (by omega) b W h) w
      · rcases (show q.length = 0 ∨ q.length = 1 by omega) with h0 | h0
        · obtain ⟨k1, k2, k3⟩ := key 2 2 (by omega) (by omega)
          rw [k3, k1, k2]
          exact bl_yes _ a.toNat 2 q.length 2 256 65536 256 65535 (256 / 65536) (65535 / 65536) t hsz (by omega) rfl (by omega) (by omega) (by omega) (by omega) (by omega) q (ba_tail a q) rfl hbig num_1 num_2 (by omega) (by omega) (by omega) (by omega) (by omega) (fun b W h => short_2 256 (by omega) b W h) (fun b W h => short_2 65535 (by omega) b W h) w
        · obtain ⟨k1, k2, k3⟩ := key 2 1 (by omega) (by omega)
          rw [k3, k1, k2]
          exact bl_yes _ a.toNat 2 q.length 1 256 65536 256 65535 (256 / 256) (65535 / 256) t hsz (by omega) rfl (by omega) (by omega) (by omega) (by omega) (by omega) q (ba_tail a q) rfl hbig num_1 num_2 (by omega) (by omega) (by omega) (by omega) (by omega) (fun b W h => short_1 256 (by omega) b W h) (fun b W h => short_1 65535 (by omega) b W h) w
      · rcases (show q.length = 0 ∨ q.length = 1 ∨ q.length = 2 by omega) with h0 | h0 | h0
        · obtain ⟨k1, k2, k3⟩ := key 3 3 (by omega) (by omega)
          rw [k3, k1, k2]
          exact bl_yes _ a.toNat 3 q.length 3 65536 16777216 65536 65536 (65536 / 16777216) (65536 / 16777216) t hsz (by omega) rfl (by omega) (by omega) (by omega) (by omega) (by omega) q (ba_tail a q) rfl hbig num_2 num_3 (by omega) (by omega) (by omega) (by omega) (by omega) (fun b W h => short_3 65536 (by omega) b W h) (fun b W h => short_3 65536 (by omega) b W h) w
        · obtain ⟨k1, k2, k3⟩ := key 3 2 (by omega) (by omega)
          rw [k3, k1, k2]
          exact bl_yes _ a.toNat 3 q.length 2 65536 16777216 65536 65536 (65536 / 65536) (65536 / 65536) t hsz (by omega) rfl (by omega) (by omega) (by omega) (by omega) (by omega) q (ba_tail a q) rfl hbig num_2 num_3 (by omega) (by omega) (by omega) (by omega) (by omega) (fun b W h => short_2 65536 (by omega) b W h) (fun b W h => short_2 65536 (by omega) b W h) w
        · obtain ⟨k1, k2, k3⟩ := key 3 1 (by omega) (by omega)
          rw [k3, k1, k2]
          exact bl_yes _ a.toNat 3 q.length 1 65536 16777216 65536 65536 (65536 / 256) (65536 / 256) t hsz (by omega) rfl (by omega) (by omega) (by omega) (by omega) (by omega) q (ba_tail a q) rfl hbig num_2 num_3 (by omega) (by omega) (by omega) (by omega) (by omega) (fun b W h => short_1 65536 (by omega) b W h) (fun b W h => short_1 65536 (by omega) b W h) w

set_option maxHeartbeats 1000000 in
theorem record_begins (s : Bs) (hs : s.length ≤ 900000) (hne : s ≠ []) (w : World) :
    Calls Tryz.prog 147 #[.string (ba s)] w fun e w' => e = .returned (.bool (begB s)) ∧ Below w.heap.size w w' := by
  have hrl := fun W => record_readLength s hs W
  have hss : (ba s).size = s.length := ba_size s
  cases hn : numOf s with
  | none =>
    have hb : begB s = lenB s := by unfold begB; rw [hn]
    have hbl := fun W => record_beginsLength s hs hn hne W
    rw [hn] at hrl
    rw [hb]
    clear hb hn hne
    simp only [Option.isSome_none] at hrl
    generalize lenB s = b at *
    generalize headOf s = hd at *
    generalize lenOf s = n at *
    go_enter Tryz.func147, Tryz.ntmps147
    go_wp2_with (first
      | (go_at_call 172; refine (hrl _).mono ?_; rintro e w1 ⟨rfl, hb1⟩)
      | (go_at_call 174; refine (hbl _).mono ?_; rintro e w2 ⟨rfl, hb2⟩))
    go_ret
    exact ⟨rfl, below_next hb1 hb2⟩
  | some p =>
    obtain ⟨n, r⟩ := p
    obtain ⟨e, hle⟩ := numOf_some hn
    have hh : headOf s = (enc n).length := by unfold headOf; rw [hn]
    have hl : lenOf s = n := by unfold lenOf; rw [hn]
    have h4 := enc_le4 hle
    rw [hn, hh, hl] at hrl
    have hlen : s.length = (enc n).length + r.length := by rw [e, List.length_append]
    have hb : begB s = (if r.length < n then true else s.isPrefixOf (Crc.sealed (s.take ((enc n).length + n)))) := by
      unfold begB; rw [hn]; simp only; rw [show s.length - r.length = (enc n).length by omega]
    rw [hb]
    obtain ⟨c, hc⟩ : ∃ c : Nat, c = (enc n).length + n := ⟨_, rfl⟩
    have hc1 : ((enc n).length : Int) + (n : Int) = (c : Int) := by omega
    rw [← hc]
    simp only [Option.isSome_some] at hrl
    by_cases h5 : r.length < n
    · rw [if_pos h5]
      have hlt : s.length < c := by omega
      clear hb hn hne e hlen h5 hh hl hc
      generalize (enc n).length = hd at *
      go_enter Tryz.func147, Tryz.ntmps147
      go_wp2_with (go_at_call 172; refine (hrl _).mono ?_; rintro e w1 ⟨rfl, hb1⟩)
      go_ret
      exact ⟨rfl, hb1⟩
    · rw [if_neg h5]
      have hlt : ¬ s.length < c := by omega
      have hle2 : c ≤ s.length := by omega
      have hex := ba_extract_to s c
      have htl : (s.take c).length = c := by rw [List.length_take]; omega
      have hseal : ∀ W, Calls Tryz.prog 75 #[.string (ba (s.take c))] W fun e w' => e = .returned (.string (ba (Crc.sealed (s.take c)))) ∧ Below W.heap.size W w' := fun W => by
        have := S.sum_Seal (ba (s.take c)) (by rw [ba_size, htl]; omega) W
        rwa [sealed_ba] at this
      have hpre := fun W => strings_HasPrefix (Crc.sealed (s.take c)) s (by omega) (by rw [Crc.sealed_length, htl]; omega) W
      generalize s.isPrefixOf (Crc.sealed (s.take c)) = b at *
      generalize Crc.sealed (s.take c) = y at *
      clear hb hn hne e hlen h5 hh hl hc htl
      generalize s.take c = x at *
      generalize (enc n).length = hd at *
      go_enter Tryz.func147, Tryz.ntmps147
      go_wp2_with (first
        | (go_at_call 172; refine (hrl _).mono ?_; rintro e w1 ⟨rfl, hb1⟩)
        | (go_at_call 75; refine (hseal _).mono ?_; rintro e w2 ⟨rfl, hb2⟩)
        | (go_at_call 113; refine (hpre _).mono ?_; rintro e w3 ⟨rfl, rfl⟩))
      go_ret
      exact ⟨rfl, below_next hb1 hb2⟩

set_option maxHeartbeats 1000000 in
theorem record_stateOf (s : Bs) (hs : s.length ≤ 900000) (hf : first s = none) (w : World) :
    Calls Tryz.prog 122 #[.string (ba s)] w fun e w' => e = .returned (.int .u8 (stB s : Nat)) ∧ Below w.heap.size w w' := by
  by_cases hne : s = []
  · subst hne
    have hcmp : (ba []).toList.isEmpty = true := by rw [Lib.toList_data, ba_list]; rfl
    go_enter Tryz.func122, Tryz.ntmps122
    go_wp2
    go_ret
    exact ⟨rfl, Below.refl _ _⟩
  · have hb := fun W => record_begins s hs hne W
    rw [begB_part hf] at hb
    have hcmp : (ba s).toList.isEmpty = false := by
      rw [Lib.toList_data, ba_list]
      cases s with
      | nil => exact absurd rfl hne
      | cons => rfl
    cases hp : part s with
    | true =>
      have hst : stB s = 1 := by unfold stB; rw [if_neg hne, if_pos hp]
      rw [hst]
      rw [hp] at hb
      clear hne hst hp
      go_enter Tryz.func122, Tryz.ntmps122
      go_wp2_with (go_at_call 147; refine (hb _).mono ?_; rintro e w1 ⟨rfl, hb1⟩)
      go_ret
      exact ⟨rfl, hb1⟩
    | false =>
      have hst : stB s = 2 := by unfold stB; rw [if_neg hne, if_neg (by rw [hp]; simp)]
      rw [hst]
      rw [hp] at hb
      clear hne hst hp
      go_enter Tryz.func122, Tryz.ntmps122
      go_wp2_with (go_at_call 147; refine (hb _).mono ?_; rintro e w1 ⟨rfl, hb1⟩)
      go_ret
      exact ⟨rfl, hb1⟩
end Go.Proofs.YtcioomlhdaihkaaGreatDoor.Q

namespace Go.Proofs.YtcioomlhdaihkaaGreatDoor.Q
set_option linter.unusedVariables false
set_option linter.unusedSimpArgs false
set_option maxRecDepth 100000
open Go Go.RowKit Wire

set_option maxRecDepth 100000
set_option linter.unusedVariables false
set_option linter.unusedSimpArgs false
def res3 (s : Bs) : Array Value := match first s with
  | some (t, k) => #[.string (ba t), .int .i64 (k : Nat), .bool true]
  | none => #[.string (ba []), .int .i64 0, .bool false]
set_option maxHeartbeats 1000000 in
theorem record_first (s : Bs) (hs : s.length ≤ 900000) (w : World) :
    Calls Tryz.prog 146 #[.string (ba s)] w fun e w' => e = .returned (.tuple (res3 s)) ∧ Below w.heap.size w w' := by
  have hrl := fun W => record_readLength s hs W
  have hss : (ba s).size = s.length := ba_size s
  cases hn : numOf s with
  | none =>
    have hr : res3 s = #[.string (ba []), .int .i64 0, .bool false] := by unfold res3 first; rw [hn]
    have hl : lenOf s = 0 := by unfold lenOf; rw [hn]
    have hh : headOf s ≤ 4 := by unfold headOf; rw [hn]; simp only; omega
    rw [hn, hl] at hrl
    rw [hr]
    clear hr hn hl
    simp only [Option.isSome_none] at hrl
    generalize headOf s = hd at *
    go_enter Tryz.func146, Tryz.ntmps146
    go_wp2_with (go_at_call 172; refine (hrl _).mono ?_; rintro e w1 ⟨rfl, hb1⟩)
    exact bodyPost_ret (results_tmp3 rfl _ _ _) rfl ⟨rfl, hb1⟩
  | some p =>
    obtain ⟨n, r⟩ := p
    obtain ⟨e, hle⟩ := numOf_some hn
    have hh : headOf s = (enc n).length := by unfold headOf; rw [hn]
    have hl : lenOf s = n := by unfold lenOf; rw [hn]
    have h4 := enc_le4 hle
    rw [hn, hh, hl] at hrl
    have hlen : s.length = (enc n).length + r.length := by rw [e, List.length_append]
    have hsl : s.length - r.length = (enc n).length := by omega
    simp only [Option.isSome_some] at hrl
    obtain ⟨c, hc⟩ : ∃ c : Nat, c = (enc n).length + n + 4 := ⟨_, rfl⟩
    have hc1 : ((enc n).length : Int) + (n : Int) + 4 = (c : Int) := by omega
    by_cases h5 : r.length < n + 4
    · have hr : res3 s = #[.string (ba []), .int .i64 0, .bool false] := by unfold res3 first; rw [hn]; simp only; rw [if_pos h5]
      have hlt : s.length < c := by omega
      rw [hr]
      clear hr hn e hlen h5 hh hl hc hsl
      generalize (enc n).length = hd at *
      go_enter Tryz.func146, Tryz.ntmps146
      go_wp2_with (go_at_call 172; refine (hrl _).mono ?_; rintro e w1 ⟨rfl, hb1⟩)
      exact bodyPost_ret (results_tmp3 rfl _ _ _) rfl ⟨rfl, hb1⟩
    · have hlt : ¬ s.length < c := by omega
      have hle2 : c ≤ s.length := by omega
      have hex := ba_extract_to s c
      have htl : (s.take c).length = c := by rw [List.length_take]; omega
      have hopen := fun W => S.sum_Open (ba (s.take c)) (by rw [ba_size, htl]; omega) W
      rw [ba_list] at hopen
      have hk : s.take ((enc n).length + n) = enc n ++ r.take n := by rw [e, List.take_length_add_append]
      cases hb : Crc.isSealed (s.take c) with
      | false =>
        have hr : res3 s = #[.string (ba []), .int .i64 0, .bool false] := by
          unfold res3 first; rw [hn]; simp only; rw [if_neg h5, hsl, ← hc, hb, if_neg (by simp)]
        rw [hr]
        rw [hb] at hopen
        have hopen2 : ∀ W, Calls Tryz.prog 173 #[.string (ba (s.take c))] W fun e w' => ∃ y, e = .returned (.tuple #[.string y, .bool false]) ∧ Below W.heap.size W w' := fun W => (hopen W).mono (fun e w' h => ⟨_, h⟩)
        clear hr hn e hlen h5 hh hl hc hsl hb hk htl hopen
        generalize s.take c = x at *
        generalize (enc n).length = hd at *
        go_enter Tryz.func146, Tryz.ntmps146
        go_wp2_with (first
          | (go_at_call 172; refine (hrl _).mono ?_; rintro e w1 ⟨rfl, hb1⟩)
          | (go_at_call 173; refine (hopen2 _).mono ?_; rintro e w2 ⟨y, rfl, hb2⟩))
        exact bodyPost_ret (results_tmp3 rfl _ _ _) rfl ⟨rfl, below_next hb1 hb2⟩
      | true =>
        have hr : res3 s = #[.string (ba (r.take n)), .int .i64 (c : Nat), .bool true] := by
          unfold res3 first; rw [hn]; simp only; rw [if_neg h5, hsl, ← hc, hb, if_pos rfl]
        have hbody : S.bodyB (ba (s.take c)) = ba (enc n ++ r.take n) := by
          unfold S.bodyB
          rw [ba_list, hb, if_pos rfl, ba_size, htl, ba_extract_to, List.take_take, show min (c - 4) c = (enc n).length + n by omega, hk]
        rw [hr]
        rw [hb, hbody] at hopen
        have hex2 : (ba (enc n ++ r.take n)).extract (enc n).length ((enc n).length + n) = ba (r.take n) := by
          have := ba_extract_from (enc n ++ r.take n) (enc n).length
          rw [List.drop_left, List.length_append, List.length_take, Nat.min_eq_left (by omega)] at this
          exact this
        have hys : (ba (enc n ++ r.take n)).size = (enc n).length + n := by rw [ba_size, List.length_append, List.length_take, Nat.min_eq_left (by omega)]
        clear hr hn e hlen h5 hh hl hc hsl hb hk htl hbody
        generalize s.take c = x at *
        generalize ba (enc n ++ r.take n) = y at *
        generalize (enc n).length = hd at *
        generalize r.take n = t at *
        go_enter Tryz.func146, Tryz.ntmps146
        go_wp2_with (first
          | (go_at_call 172; refine (hrl _).mono ?_; rintro e w1 ⟨rfl, hb1⟩)
          | (go_at_call 173; refine (hopen _).mono ?_; rintro e w2 ⟨rfl, hb2⟩))
        exact bodyPost_ret (results_tmp3 rfl _ _ _) rfl ⟨rfl, below_next hb1 hb2⟩

theorem record_records (s : Bs) (w : World) :
    Calls Tryz.prog 121 #[.string (ba s)] w fun e w' => e = .returned (.func (.func 145) #[] #[.pointer (some ⟨w.heap.size, 0, none⟩)]) ∧ w' = w.alloc (.cells #[.string (ba s)] 9) := by
  go_enter Tryz.func121, Tryz.ntmps121
  go_wp2
  go_ret
  exact ⟨rfl, rfl⟩

/-! ### The iterator -/
attribute [local go_sem] Oper.semAt_some
def encP (x : Bs × Nat) : Array Value := #[.string (ba x.1), .int .i64 (x.2 : Nat)]
def pairs (l : List Bs) : List (Bs × Nat) := (List.range l.length).map fun j => (l.getD j [], (rowB (l.take (j + 1))).length)
theorem pairs_length (l : List Bs) : (pairs l).length = l.length := by simp [pairs]
theorem pairs_at {l : List Bs} {j : Nat} {x : Bs} (h : l[j]? = some x) : (pairs l)[j]? = some (x, (rowB (l.take (j + 1))).length) := by
  have hj := (List.getElem?_eq_some_iff.1 h).1
  simp only [pairs, List.getElem?_map, List.getElem?_range hj, Option.map_some]
  rw [List.getD_eq_getElem?_getD, h]; rfl
theorem pairs_fst (l : List Bs) : (pairs l).map Prod.fst = l := by
  apply List.ext_getElem?
  intro j
  rw [List.getElem?_map]
  by_cases hj : j < l.length
  · rw [pairs_at (List.getElem?_eq_getElem hj), List.getElem?_eq_getElem hj]; rfl
  · rw [List.getElem?_eq_none (by rw [pairs_length]; omega), List.getElem?_eq_none (by omega)]; rfl
/-- What a round keeps: the bytes' box. -/
def KpB (b : Nat) (W W' : World) : Prop := ∀ cs t fr, W.heap[b]? = some (.cells cs t fr) → W'.heap[b]? = some (.cells cs t fr)
theorem grown_of_below {W W' : World} (h : Below W.heap.size W W') : W.grownBy W' none := ⟨h.os, h.tape, h.output, h.size, fun k hk _ => h.block k hk⟩

set_option maxHeartbeats 2000000 in
theorem records_stops (n : Nat) (hn : 2 ≤ n) (b : Nat) (s : Bs) (l : List Bs) (rest : Bs) (hsc : IsScan s l rest) (hs : s.length ≤ 900000) (w : World) (hb : w.heap[b]? = some (.cells #[.string (ba s)] 9 (0, 0))) :
    SeqStopsK Fence.wide n Tryz.prog 145 #[.pointer (some ⟨b, 0, none⟩)] encP (KpB b) (fun xs => xs = pairs l) (fun _ => True) l.length w := by
  intro lp J Jx W hW hJ hJx hY h0
  have HSC := hid hsc
  have hbW : W.heap[b]? = some (.cells #[.string (ba s)] 9 (0, 0)) := (hW.block b (lt_of_some hb)).trans hb
  have hss : (ba s).size = s.length := ba_size s
  have hll : l.length ≤ 900000 := by have := row_count l; have := scan_len hsc; omega
  clear hsc hb
  refine callsIn_of_wp Tryz.func145 rfl trivial ?_ rfl
  simp only [Tryz.ntmps145, List.size_toArray, List.length_cons, List.length_nil, Nat.reduceAdd, Nat.reduceSub, Array.replicate_succ, Array.replicate_zero, List.push_toArray, List.append_toArray, List.nil_append, List.cons_append]
  gi_wp2
  gi_loopw [3] (fun i wr => ∃ k : Nat, k ≤ l.length ∧ i = .int .i64 ((rowB (l.take k)).length : Nat) ∧ Hid (J ((pairs l).take k) wr) ∧ Hid (wr.heap[b]? = some (.cells #[.string (ba s)] 9 (0, 0)))) (fun i _ => s.length - (intOf i).toNat)
  case atStart => exact ⟨0, by omega, rfl, hid h0, hid hbW⟩
  case round =>
    obtain ⟨k, hk, rfl, HJ, HB⟩ := hrel
    have hat := scan_bound HSC.out k
    have hcb : wr.cell? ⟨b, 0, none⟩ = some (.string (ba s)) := (cell_of_heap HB.out).trans rfl
    have hex : (ba s).extract (rowB (l.take k)).length s.length = ba (s.drop (rowB (l.take k)).length) := ba_extract_from s _
    have hdl : (s.drop (rowB (l.take k)).length).length ≤ 900000 := by rw [List.length_drop]; omega
    have hfirst := fun W => record_first (s.drop (rowB (l.take k)).length) hdl W
    have HJJ := hid hJ
    have HJX := hid hJx
    by_cases hlt : k < l.length
    · obtain ⟨x, hx⟩ : ∃ x, l[k]? = some x := ⟨_, List.getElem?_eq_getElem hlt⟩
      have hf := scan_first HSC.out hx
      have hfr : res3 (s.drop (rowB (l.take k)).length) = #[.string (ba x), .int .i64 ((record x).length : Nat), .bool true] := by unfold res3; rw [hf]
      simp only [hfr] at hfirst
      have hnext : (rowB (l.take (k + 1))).length = (rowB (l.take k)).length + (record x).length := by rw [rowB_take_succ hx, List.length_append]
      have hb2 := scan_bound HSC.out (k + 1)
      have h5 := record_pos x
      have hnx2 : ((rowB (l.take k)).length : Int) + ((record x).length : Int) = ((rowB (l.take (k + 1))).length : Int) := by omega
      have hpk : ((pairs l).take k).length = k := by rw [List.length_take, pairs_length]; omega
      have hps : (pairs l).take (k + 1) = (pairs l).take k ++ [(x, (rowB (l.take (k + 1))).length)] := by rw [List.take_add_one, pairs_at hx]; rfl
      have HX := hid hx
      have HPS := hid hps
      have HNX := hid hnext
      clear hx hf hfr hnext hps
      gi_wp2_with (refine ⟨trivial, fun h => (by cases h), (callsIn_wide.2 (hfirst _)).mono ?_⟩; rintro e w1 ⟨rfl, hb1⟩; have HB1 := hid hb1; clear hb1)
      obtain ⟨fn, tmps, assign, body, hy, hR⟩ := hY _ (x, (rowB (l.take (k + 1))).length) w1 (HJJ.out _ wr w1 none HJ.out (grown_of_below HB1.out) (fun r h => (by cases h))) (by rw [hpk]; exact hlt)
      simp only [encP] at hy
      have HB2 := hid ((HB1.out.block b (lt_of_some HB.out)).trans HB.out)
      rw [hy]
      gi_wp2
      refine ⟨fun h => (by cases h), hR.mono ?_⟩
      rintro e W' (⟨rfl, hj, hkp⟩ | ⟨rfl, hj⟩)
      · rw [← HPS.out] at hj
        have HJ2 := hid hj
        have HB3 := hid (hkp _ _ _ HB2.out)
        clear hj hkp
        gi_wp2
        go_roundw
        case rel => exact ⟨k + 1, hlt, rfl, HJ2, HB3⟩
        case measure => simp [intOf]; omega
      · gi_wp2
        refine bodyPost_ret (results_none rfl _ _ _) rfl ?_
        exact ⟨⟨_, rfl⟩, .inr ⟨_, trivial, hj⟩⟩
    · obtain rfl : k = l.length := by omega
      rw [List.take_length] at hat hex hdl hfirst ⊢
      rw [scan_rest HSC.out] at hdl hex hfirst
      have hfr : res3 rest = #[.string (ba []), .int .i64 0, .bool false] := by unfold res3; rw [HSC.out.stop]
      simp only [hfr] at hfirst
      have hpt : (pairs l).take l.length = pairs l := by rw [← pairs_length l, List.take_length]
      rw [hpt] at HJ
      clear hfr hpt
      gi_wp2_with (refine ⟨trivial, fun h => (by cases h), (callsIn_wide.2 (hfirst _)).mono ?_⟩; rintro e w1 ⟨rfl, hb1⟩; have HB1 := hid hb1; clear hb1)
      refine ⟨fun f h => (by cases h), ?_⟩
      gi_wp2
      refine bodyPost_ret (results_none rfl _ _ _) rfl ?_
      exact ⟨⟨_, rfl⟩, .inl ⟨_, rfl, HJJ.out _ wr w1 none HJ.out (grown_of_below HB1.out) (fun r h => (by cases h))⟩⟩
end Go.Proofs.YtcioomlhdaihkaaGreatDoor.Q
