/-
  Contracts of package record: lengths that are not whole, what a rest is, the first record.
-/
import Derived.Test.YtnglalahhdkebaaRI
namespace Go.Proofs.Ytnglalahhdkebaa.Q
set_option linter.unusedVariables false
set_option linter.unusedSimpArgs false
set_option maxRecDepth 100000
open Go Go.RowKit Wire

/-- Digits that are too many, or all there. -/
theorem bl_no (S : ByteArray) (a n : Nat) (hs : S.size = n + 1) (hn : n ≤ 1000000) (hat : S[0].toNat = a) (ha : 128 ≤ a) (ha2 : a < 256) (h : 131 < a ∨ a ≤ 128 + n) (w : World) :
    Calls Try.prog 51 #[.string S] w fun e w' => e = .returned (.bool false) ∧ Below w.heap.size w w' := by
  have hcv : IntKind.i64.wrap (a : Int) = a := by simp [IntKind.wrap, IntKind.bits, IntKind.signed]; omega
  have hex : ∀ m, m = n + 1 → (S.extract 1 m).size = n := fun m hm => by simp [ByteArray.size_extract]; omega
  have hex1 := hex _ rfl
  have hex2 : (S.extract 1 S.size).size = n := by rw [hs]; exact hex1
  obtain ⟨d, hd⟩ : ∃ d : Nat, a = 128 + d := ⟨a - 128, by omega⟩
  have h1 : (a : Int) - 128 = (d : Int) := by omega
  have hdb : d ≤ 128 := by omega
  clear hex
  by_cases h3 : 3 < d
  · have q1 : decide ((3 : Int) < (d : Int)) = true := decide_eq_true (by omega)
    clear hd h ha ha2
    go_enter Try.func51, Try.ntmps51
    go_wp2
    go_ret
    exact ⟨rfl, (Below.refl _ _).alloc (Nat.le_refl _) _⟩
  · have q1 : decide ((3 : Int) < (d : Int)) = false := decide_eq_false (by omega)
    have q2 : decide ((d : Int) - (n : Int) ≤ 0) = true := decide_eq_true (by omega)
    have q3 : d ≤ n := by omega
    clear hd h ha ha2
    go_enter Try.func51, Try.ntmps51
    go_wp2
    go_ret
    exact ⟨rfl, (Below.refl _ _).alloc (Nat.le_refl _) _⟩

set_option maxHeartbeats 1000000 in
/-- Digits that are missing: m of d, the numbers' bounds, shortened. -/
theorem bl_yes (S : ByteArray) (a d n m x1 x2 lo hi lo' hi' t : Nat) (hs : S.size = n + 1) (hn : n ≤ 2) (hat : S[0].toNat = a) (ha : a = 128 + d) (hd1 : 1 ≤ d) (hd : d ≤ 3) (hm : m + n = d) (hm0 : 0 < m)
    (q : Bs) (hq : S.extract 1 (n + 1) = ba q) (hql : q.length = n) (hbig : ∀ W, Calls Try.prog 65 #[.string (ba q)] W fun e w' => e = .returned (.int .i64 (t : Nat)) ∧ Below W.heap.size W w')
    (hn1 : ∀ W, Calls Try.prog 64 #[.int .i64 ((d - 1 : Nat) : Int)] W fun e w' => e = .returned (.int .i64 (x1 : Nat)) ∧ W = w') (hn2 : ∀ W, Calls Try.prog 64 #[.int .i64 (d : Int)] W fun e w' => e = .returned (.int .i64 (x2 : Nat)) ∧ W = w')
    (hx2 : x2 ≤ 16777216) (hx1 : x1 ≤ 16777216) (hx3 : 1 ≤ x2) (hlo : max 128 x1 = lo) (hhi : min 65536 (x2 - 1) = hi)
    (hc1 : ∀ (b : Nat) (W : World), W.cell? ⟨b, 0, none⟩ = some (.int .i64 (m : Int)) → Calls Try.prog 63 #[.int .i64 (lo : Int), .pointer (some ⟨b, 0, none⟩)] W fun e w' => e = .returned (.int .i64 (lo' : Nat)) ∧ W = w')
    (hc2 : ∀ (b : Nat) (W : World), W.cell? ⟨b, 0, none⟩ = some (.int .i64 (m : Int)) → Calls Try.prog 63 #[.int .i64 (hi : Int), .pointer (some ⟨b, 0, none⟩)] W fun e w' => e = .returned (.int .i64 (hi' : Nat)) ∧ W = w') (w : World) :
    Calls Try.prog 51 #[.string S] w fun e w' => e = .returned (.bool (decide (lo' ≤ t) && decide (t ≤ hi'))) ∧ Below w.heap.size w w' := by
  have hcv : IntKind.i64.wrap (a : Int) = a := by simp [IntKind.wrap, IntKind.bits, IntKind.signed]; omega
  have hex1 : (S.extract 1 (n + 1)).size = n := by rw [hq, ba_size, hql]
  have hqs : (ba q).size = n := by rw [ba_size, hql]
  have h1 : (a : Int) - 128 = (d : Int) := by omega
  have h2 : (d : Int) - (n : Int) = (m : Int) := by omega
  have h3 : decide ((3 : Int) < (d : Int)) = false := decide_eq_false (by omega)
  have h3' : ¬ 3 < d := by omega
  have h4 : decide ((m : Int) ≤ 0) = false := decide_eq_false (by omega)
  have h4' : ¬ m ≤ 0 := by omega
  have h5 : (d : Int) - 1 = ((d - 1 : Nat) : Int) := by omega
  have h6 : max (128 : Int) (x1 : Int) = (lo : Int) := by omega
  have h7 : (x2 : Int) - 1 = ((x2 - 1 : Nat) : Int) := by omega
  have h8 : min (65536 : Int) ((x2 - 1 : Nat) : Int) = (hi : Int) := by omega
  have hbox := cell_one_new w (.int .i64 (m : Int)) 3 0
  have hbx : (w.alloc (.cells #[.int .i64 (m : Int)] 3)).cell? ⟨w.heap.size, 0, none⟩ = some (.int .i64 (m : Int)) := (cell_of_heap (heap_alloc_last w _)).trans rfl
  have hcl1 : ∀ W, Below (w.heap.size + 1) (w.alloc (.cells #[.int .i64 (m : Int)] 3)) W → Calls Try.prog 63 #[.int .i64 (lo : Int), .pointer (some ⟨w.heap.size, 0, none⟩)] W fun e w' => e = .returned (.int .i64 (lo' : Nat)) ∧ W = w' := fun W hW => hc1 _ W ((hW.cell (p := ⟨w.heap.size, 0, none⟩) (Nat.lt_succ_self _)).trans hbx)
  have hcl2 : ∀ W, Below (w.heap.size + 1) (w.alloc (.cells #[.int .i64 (m : Int)] 3)) W → Calls Try.prog 63 #[.int .i64 (hi : Int), .pointer (some ⟨w.heap.size, 0, none⟩)] W fun e w' => e = .returned (.int .i64 (hi' : Nat)) ∧ W = w' := fun W hW => hc2 _ W ((hW.cell (p := ⟨w.heap.size, 0, none⟩) (Nat.lt_succ_self _)).trans hbx)
  clear hc1 hc2 hbox hlo hhi ha hm
  by_cases hle : lo' ≤ t
  · rw [decide_eq_true hle, Bool.true_and]
    have hle2 : decide ((lo' : Int) ≤ (t : Int)) = true := decide_eq_true (by omega)
    go_enter Try.func51, Try.ntmps51
    go_wp2_with (first
      | (go_at_call 65; refine (hbig _).mono ?_; rintro e w1 ⟨rfl, hb1⟩; have hB1 := hb1; rw [World.size_alloc] at hB1)
      | (go_at_call 63; first | ((with_reducible refine (hcl1 _ hB1).mono ?_); rintro e w2 ⟨rfl, rfl⟩) | ((with_reducible refine (hcl2 _ hB1).mono ?_); rintro e w2 ⟨rfl, rfl⟩))
      | (go_at_call 64; first | ((with_reducible refine (hn1 _).mono ?_); rintro e w3 ⟨rfl, rfl⟩) | ((with_reducible refine (hn2 _).mono ?_); rintro e w3 ⟨rfl, rfl⟩)))
    go_ret
    exact ⟨rfl, ((Below.refl _ w).alloc (Nat.le_refl _) _).trans (hB1.mono (by omega))⟩
  · rw [decide_eq_false hle, Bool.false_and]
    have hle2 : decide ((lo' : Int) ≤ (t : Int)) = false := decide_eq_false (by omega)
    go_enter Try.func51, Try.ntmps51
    go_wp2_with (first
      | (go_at_call 65; refine (hbig _).mono ?_; rintro e w1 ⟨rfl, hb1⟩; have hB1 := hb1; rw [World.size_alloc] at hB1)
      | (go_at_call 63; (with_reducible refine (hcl1 _ hB1).mono ?_); rintro e w2 ⟨rfl, rfl⟩)
      | (go_at_call 64; first | ((with_reducible refine (hn1 _).mono ?_); rintro e w3 ⟨rfl, rfl⟩) | ((with_reducible refine (hn2 _).mono ?_); rintro e w3 ⟨rfl, rfl⟩)))
    go_ret
    exact ⟨rfl, ((Below.refl _ w).alloc (Nat.le_refl _) _).trans (hB1.mono (by omega))⟩

theorem ba_tail (a : UInt8) (q : Bs) : (ba (a :: q)).extract 1 (q.length + 1) = ba q := ba_extract_from (a :: q) 1
theorem record_beginsLength (s : Bs) (hs : s.length ≤ 900000) (hn : numOf s = none) (hne : s ≠ []) (w : World) :
    Calls Try.prog 51 #[.string (ba s)] w fun e w' => e = .returned (.bool (lenB s)) ∧ Below w.heap.size w w' := by
  match s, hne with
  | a :: q, _ =>
    rw [← blv_len hn]
    have hq : q.length ≤ 900000 := by simp at hs; omega
    have hsz : (ba (a :: q)).size = q.length + 1 := ba_size (a :: q)
    have ha := u8_lt a
    have h128 : 128 ≤ a.toNat := by
      rcases Nat.lt_or_ge a.toNat 128 with h1 | h1
      · have := numOf_enc (n := a.toNat) (by omega) q
        rw [enc_small h1, ofNat_toNat8, List.singleton_append, hn] at this
        cases this
      · exact h1
    by_cases hno : 131 < a.toNat ∨ a.toNat ≤ 128 + q.length
    · unfold blv
      rw [if_pos hno]
      exact bl_no _ a.toNat q.length hsz (by omega) rfl h128 ha hno w
    · have hb : blv a.toNat q = (decide (max 128 (256 ^ (a.toNat - 129)) / 256 ^ (a.toNat - 128 - q.length) ≤ big q) && decide (big q ≤ min 65536 (256 ^ (a.toNat - 128) - 1) / 256 ^ (a.toNat - 128 - q.length))) := by unfold blv; rw [if_neg hno]
      rw [hb]
      have hbig := fun W => record_bigEndian q (by omega) W
      generalize ht : big q = t at *
      clear hb hn
      have key : ∀ d m, a.toNat = 128 + d → m + q.length = d → a.toNat - 128 = d ∧ a.toNat - 129 = d - 1 ∧ a.toNat - 128 - q.length = m := fun d m h1 h2 => by omega
      rcases (show a.toNat = 129 ∨ a.toNat = 130 ∨ a.toNat = 131 by omega) with h | h | h
      · obtain ⟨k1, k2, k3⟩ := key 1 1 (by omega) (by omega)
        rw [k3, k1, k2]
        exact bl_yes _ a.toNat 1 q.length 1 1 256 128 255 (128 / 256) (255 / 256) t hsz (by omega) rfl (by omega) (by omega) (by omega) (by omega) (by omega) q (ba_tail a q) rfl hbig num_0 num_1 (by omega) (by omega) (by omega) (by omega) (by omega) (fun b W h => short_1 128 (by omega) b W h) (fun b W h => short_1 255 (by omega) b W h) w
      · rcases (show q.length = 0 ∨ q.length = 1 by omega) with h0 | h0
        · obtain ⟨k1, k2, k3⟩ := key 2 2 (by omega) (by omega)
          rw [k3, k1, k2]
          exact bl_yes _ a.toNat 2 q.length 2 256 65536 256 65535 (256 / 65536) (65535 / 65536) t hsz (by omega) rfl (by omega) (by omega) (by omega) (by omega) (by omega) q (ba_tail a q) rfl hbig num_1 num_2 (by omega) (by omega) (by omega) (by omega) (by omega) (fun b W h => short_2 256 (by omega) b W h) (fun b W h => short_2 65535 (by omega) b W h) w
        · obtain ⟨k1, k2, k3⟩ := key 2 1 (by omega) (by omega)
          rw [k3, k1, k2]
          exact bl_yes _ a.toNat 2 q.length 1 256 65536 256 65535 (256 / 256) (65535 / 256) t hsz (by omega) rfl (by omega) (by omega) (by omega) (by omega) (by omega) q (ba_tail a q) rfl hbig num_1 num_2 (by omega) (by omega) (by omega) (by omega) (by omega) (fun b W h => short_1 256 (by omega) b W h) (fun b W h => short_1 65535 (by omega) b W h) w
      · rcases (show q.length = 0 ∨ q.length = 1 ∨ q.length = 2 by omega) with h0 | h0 | h0
        · obtain ⟨k1, k2, k3⟩ := key 3 3 (by omega) (by omega)
          rw [k3, k1, k2]
          exact bl_yes _ a.toNat 3 q.length 3 65536 16777216 65536 65536 (65536 / 16777216) (65536 / 16777216) t hsz (by omega) rfl (by omega) (by omega) (by omega) (by omega) (by omega) q (ba_tail a q) rfl hbig num_2 num_3 (by omega) (by omega) (by omega) (by omega) (by omega) (fun b W h => short_3 65536 (by omega) b W h) (fun b W h => short_3 65536 (by omega) b W h) w
        · obtain ⟨k1, k2, k3⟩ := key 3 2 (by omega) (by omega)
          rw [k3, k1, k2]
          exact bl_yes _ a.toNat 3 q.length 2 65536 16777216 65536 65536 (65536 / 65536) (65536 / 65536) t hsz (by omega) rfl (by omega) (by omega) (by omega) (by omega) (by omega) q (ba_tail a q) rfl hbig num_2 num_3 (by omega) (by omega) (by omega) (by omega) (by omega) (fun b W h => short_2 65536 (by omega) b W h) (fun b W h => short_2 65536 (by omega) b W h) w
        · obtain ⟨k1, k2, k3⟩ := key 3 1 (by omega) (by omega)
          rw [k3, k1, k2]
          exact bl_yes _ a.toNat 3 q.length 1 65536 16777216 65536 65536 (65536 / 256) (65536 / 256) t hsz (by omega) rfl (by omega) (by omega) (by omega) (by omega) (by omega) q (ba_tail a q) rfl hbig num_2 num_3 (by omega) (by omega) (by omega) (by omega) (by omega) (fun b W h => short_1 65536 (by omega) b W h) (fun b W h => short_1 65536 (by omega) b W h) w

set_option maxHeartbeats 1000000 in
theorem record_begins (s : Bs) (hs : s.length ≤ 900000) (hne : s ≠ []) (w : World) :
    Calls Try.prog 40 #[.string (ba s)] w fun e w' => e = .returned (.bool (begB s)) ∧ Below w.heap.size w w' := by
  have hrl := fun W => record_readLength s hs W
  have hss : (ba s).size = s.length := ba_size s
  cases hn : numOf s with
  | none =>
    have hb : begB s = lenB s := by unfold begB; rw [hn]
    have hbl := fun W => record_beginsLength s hs hn hne W
    rw [hn] at hrl
    rw [hb]
    clear hb hn hne
    simp only [Option.isSome_none] at hrl
    generalize lenB s = b at *
    generalize headOf s = hd at *
    generalize lenOf s = n at *
    go_enter Try.func40, Try.ntmps40
    go_wp2_with (first
      | (go_at_call 49; refine (hrl _).mono ?_; rintro e w1 ⟨rfl, hb1⟩)
      | (go_at_call 51; refine (hbl _).mono ?_; rintro e w2 ⟨rfl, hb2⟩))
    go_ret
    exact ⟨rfl, below_next hb1 hb2⟩
  | some p =>
    obtain ⟨n, r⟩ := p
    obtain ⟨e, hle⟩ := numOf_some hn
    have hh : headOf s = (enc n).length := by unfold headOf; rw [hn]
    have hl : lenOf s = n := by unfold lenOf; rw [hn]
    have h4 := enc_le4 hle
    rw [hn, hh, hl] at hrl
    have hlen : s.length = (enc n).length + r.length := by rw [e, List.length_append]
    have hb : begB s = (if r.length < n then true else s.isPrefixOf (Crc.sealed (s.take ((enc n).length + n)))) := by
      unfold begB; rw [hn]; simp only; rw [show s.length - r.length = (enc n).length by omega]
    rw [hb]
    obtain ⟨c, hc⟩ : ∃ c : Nat, c = (enc n).length + n := ⟨_, rfl⟩
    have hc1 : ((enc n).length : Int) + (n : Int) = (c : Int) := by omega
    rw [← hc]
    simp only [Option.isSome_some] at hrl
    by_cases h5 : r.length < n
    · rw [if_pos h5]
      have hlt : s.length < c := by omega
      clear hb hn hne e hlen h5 hh hl hc
      generalize (enc n).length = hd at *
      go_enter Try.func40, Try.ntmps40
      go_wp2_with (go_at_call 49; refine (hrl _).mono ?_; rintro e w1 ⟨rfl, hb1⟩)
      go_ret
      exact ⟨rfl, hb1⟩
    · rw [if_neg h5]
      have hlt : ¬ s.length < c := by omega
      have hle2 : c ≤ s.length := by omega
      have hex := ba_extract_to s c
      have htl : (s.take c).length = c := by rw [List.length_take]; omega
      have hseal : ∀ W, Calls Try.prog 21 #[.string (ba (s.take c))] W fun e w' => e = .returned (.string (ba (Crc.sealed (s.take c)))) ∧ Below W.heap.size W w' := fun W => by
        have := S.sum_Seal (ba (s.take c)) (by rw [ba_size, htl]; omega) W
        rwa [sealed_ba] at this
      have hpre := fun W => strings_HasPrefix (Crc.sealed (s.take c)) s (by omega) (by rw [Crc.sealed_length, htl]; omega) W
      generalize s.isPrefixOf (Crc.sealed (s.take c)) = b at *
      generalize Crc.sealed (s.take c) = y at *
      clear hb hn hne e hlen h5 hh hl hc htl
      generalize s.take c = x at *
      generalize (enc n).length = hd at *
      go_enter Try.func40, Try.ntmps40
      go_wp2_with (first
        | (go_at_call 49; refine (hrl _).mono ?_; rintro e w1 ⟨rfl, hb1⟩)
        | (go_at_call 21; refine (hseal _).mono ?_; rintro e w2 ⟨rfl, hb2⟩)
        | (go_at_call 52; refine (hpre _).mono ?_; rintro e w3 ⟨rfl, rfl⟩))
      go_ret
      exact ⟨rfl, below_next hb1 hb2⟩

set_option maxHeartbeats 1000000 in
theorem record_stateOf (s : Bs) (hs : s.length ≤ 900000) (hf : first s = none) (w : World) :
    Calls Try.prog 27 #[.string (ba s)] w fun e w' => e = .returned (.int .u8 (stB s : Nat)) ∧ Below w.heap.size w w' := by
  by_cases hne : s = []
  · subst hne
    have hcmp : (ba []).toList.isEmpty = true := by rw [Lib.toList_data, ba_list]; rfl
    go_enter Try.func27, Try.ntmps27
    go_wp2
    go_ret
    exact ⟨rfl, Below.refl _ _⟩
  · have hb := fun W => record_begins s hs hne W
    rw [begB_part hf] at hb
    have hcmp : (ba s).toList.isEmpty = false := by
      rw [Lib.toList_data, ba_list]
      cases s with
      | nil => exact absurd rfl hne
      | cons => rfl
    cases hp : part s with
    | true =>
      have hst : stB s = 1 := by unfold stB; rw [if_neg hne, if_pos hp]
      rw [hst]
      rw [hp] at hb
      clear hne hst hp
      go_enter Try.func27, Try.ntmps27
      go_wp2_with (go_at_call 40; refine (hb _).mono ?_; rintro e w1 ⟨rfl, hb1⟩)
      go_ret
      exact ⟨rfl, hb1⟩
    | false =>
      have hst : stB s = 2 := by unfold stB; rw [if_neg hne, if_neg (by rw [hp]; simp)]
      rw [hst]
      rw [hp] at hb
      clear hne hst hp
      go_enter Try.func27, Try.ntmps27
      go_wp2_with (go_at_call 40; refine (hb _).mono ?_; rintro e w1 ⟨rfl, hb1⟩)
      go_ret
      exact ⟨rfl, hb1⟩
end Go.Proofs.Ytnglalahhdkebaa.Q
