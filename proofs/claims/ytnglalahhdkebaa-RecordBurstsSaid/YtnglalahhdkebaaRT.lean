/-
  The law on bursts in rows.
-/
import Derived.Test.YtnglalahhdkebaaRO
import Derived.Deep.Cut
namespace Go.Proofs.Ytnglalahhdkebaa.Q
set_option linter.unusedVariables false
set_option linter.unusedSimpArgs false
set_option maxRecDepth 100000
open Go Go.RowKit Wire

theorem bits_next {n i : Nat} (q : Nat) (hq : q = n % 2 ^ i) (hb : n / 2 ^ i % 2 = 1) : q + 2 ^ i = n % 2 ^ (i + 1) := by
  rw [hq, Nat.mod_pow_succ, hb, Nat.mul_one]
theorem bits_stay {n i : Nat} (q : Nat) (hq : q = n % 2 ^ i) (hb : ¬ n / 2 ^ i % 2 = 1) : q = n % 2 ^ (i + 1) := by
  have : n / 2 ^ i % 2 = 0 := by omega
  rw [hq, Nat.mod_pow_succ, this, Nat.mul_zero, Nat.add_zero]
/-- Behind the rounds: other bytes, as many. -/
theorem burst_other {W wr : World} {g : Nat} {X : ByteArray} {N k q : Nat} (h : S.BurstAt W wr g X N k 32 q) (hXs : X.size = N) (hq : q ≠ 0) (cap : Nat) :
    ∃ y : Bs, (convert 40 9 (.slice (some ⟨g, 0, none⟩) N cap)).run Try.prog wr = .ok (.string (ba y)) wr ∧ y.length = N ∧ y ≠ X.data.toList ∧ Below W.heap.size W wr := by
  obtain ⟨l, h1, h2, h3, h4, h5, h6⟩ := h
  refine ⟨l, by rw [← h1]; exact h3.string cap, h1, fun e => ?_, h4⟩
  rw [e] at h2
  have h0 : 2 ^ k * q = 0 := by
    have := congrArg (fun z => Crc.num X.data.toList ^^^ z) h2
    simp only [← Nat.xor_assoc, Nat.xor_self, Nat.zero_xor] at this
    exact this.symm
  rcases Nat.mul_eq_zero.1 h0 with h | h
  · have := Nat.two_pow_pos k; omega
  · exact hq h

/-- What comes first of other bytes is no more that text. -/
theorem other_first {y x t : Bs} {l : List Bs} {r : Bs} (hy : y ≠ record x) (hlen : y.length = (record x).length) (h : IsScan y (t :: l) r) : t ≠ x := by
  intro e
  subst e
  obtain ⟨_, _, q, hq⟩ := first_some (scan_head h)
  apply hy
  rw [hq, List.length_append] at hlen
  have : q = [] := List.eq_nil_of_length_eq_zero (by omega)
  rw [hq, this, List.append_nil]

set_option maxHeartbeats 4000000 in
theorem law_RecordBursts (w : World) (v : Value) (l : List Bs) (hv : SV w v l) (hsm : ∀ x ∈ l, x.length ≤ 140737488355328) (a c d : Nat) (ha : a < 65536) (hc : c < 65536) (hd : d < 4294967296) :
    Calls Try.prog 5 #[v, .agg #[.int .u16 (a : Int), .int .u16 (c : Int)], .int .u32 (d : Int)] w fun e w' => e = .returned (.bool true) ∧ Below w.heap.size w w' := by
  have HE := hid ((Below.refl _ w).alloc (Nat.le_refl _) (.cells #[.int .u16 (a : Int), .int .u16 (c : Int)] 38))
  have HX0 := hid (heap_alloc_last w (.cells #[.int .u16 (a : Int), .int .u16 (c : Int)] 38))
  have HV0 := hid (hv.keep HE.out)
  obtain ⟨ad, len, cap, rfl, hI⟩ := hv
  have HI0 := hid (hI.keep HE.out)
  have hlen := hI.hlen
  have hm : len ≤ 9223372036854775807 := by have h1 := hI.hle; have h2 := hI.hmax; unfold maxLen at h2; omega
  have hlc : len ≤ cap := hI.hle
  have hnil := hI.hnil
  clear hI
  go_enter Try.func5, Try.ntmps5
  go_wp2_with (fail)
  generalize w.alloc (.cells #[.int .u16 (a : Int), .int .u16 (c : Int)] 38) = W0 at HE HX0 HV0 HI0 ⊢
  go_at_call 7
  refine (law_great W0 _ l HV0.out hsm).mono ?_
  rintro e w1 ⟨g, rfl, hb1, hg⟩
  have HB1 := hid hb1
  clear hb1 hsm
  cases g with
  | true =>
    clear hg hlen hnil
    go_wp2_with (go_at_call 8; refine (law_head _).mono ?_; rintro e w' ⟨rfl, hb⟩)
    go_ret
    exact ⟨rfl, below_next HE.out (below_next HB1.out hb)⟩
  | false =>
  obtain ⟨h60, htot⟩ := hg rfl
  clear hg
  by_cases hl0 : len = 0
  · have z1 : ((len : Int) == 0) = true := by rw [hl0]; rfl
    have z2 : (len == 0) = true := by rw [hl0]; rfl
    clear hlen hnil h60 htot
    go_wp2_with (go_at_call 8; refine (law_head _).mono ?_; rintro e w' ⟨rfl, hb⟩)
    go_ret
    exact ⟨rfl, below_next HE.out (below_next HB1.out hb)⟩
  have z1 : ((len : Int) == 0) = false := by rw [beq_eq_false_iff_ne]; omega
  have z2 : (len == 0) = false := by rw [beq_eq_false_iff_ne]; omega
  by_cases hd0 : d = 0
  · have z3 : ((d : Int) == 0) = true := by rw [hd0]; rfl
    have z4 : (d == 0) = true := by rw [hd0]; rfl
    clear hlen hnil h60 htot
    go_wp2_with (go_at_call 8; refine (law_head _).mono ?_; rintro e w' ⟨rfl, hb⟩)
    go_ret
    exact ⟨rfl, below_next HE.out (below_next HB1.out hb)⟩
  have z3 : ((d : Int) == 0) = false := by rw [beq_eq_false_iff_ne]; omega
  have z4 : (d == 0) = false := by rw [beq_eq_false_iff_ne]; omega
  cases ad with
  | none => have := (hnil rfl).1; omega
  | some ad =>
  clear hnil
  have hsmall : ∀ t ∈ l, t.length ≤ 65536 := fun t ht => by have := mem_tot ht; omega
  have hN : (rowB l).length ≤ 900000 := by have := row_tot l hsmall; omega
  obtain ⟨n, hn⟩ : ∃ n : Nat, n = a % len := ⟨_, rfl⟩
  have hnl : n < len := by rw [hn]; exact Nat.mod_lt _ (by omega)
  have hn1 : (a : Int).tmod (len : Int) = (n : Int) := by rw [hn]; rfl
  have uwa : IntKind.i64.wrap (a : Int) = (a : Int) := by simp [IntKind.wrap, IntKind.bits, IntKind.signed]; omega
  have uwc : IntKind.i64.wrap (c : Int) = (c : Int) := by simp [IntKind.wrap, IntKind.bits, IntKind.signed]; omega
  obtain ⟨x, hx, hcx0⟩ := HI0.out.at hnl
  have hnl2 : n ≤ l.length := by omega
  have htake : ∀ t ∈ l.take n, t.length ≤ 65536 := fun t ht => hsmall t (List.mem_of_mem_take ht)
  have hNt : (rowB (l.take n)).length ≤ 900000 := Nat.le_trans (row_len_le n) hN
  have hx65 := hsmall x (List.mem_of_getElem? hx)
  have hsl := fun V => slice_sv HI0.out hnl2 V
  have hp1 : ∀ W, Below W0.heap.size W0 W → Calls Try.prog 9 #[.slice (some ad) n cap] W fun e w' => e = .returned (.tuple #[.string (ba (rowB (l.take n))), .int .i64 0]) ∧ Below W.heap.size W w' := fun W hW =>
    record_Put_ok (l.take n) _ W ⟨_, _, _, rfl, (HI0.out.keep hW).take hnl2⟩ htake hNt
  have hp2 : ∀ W : World, Calls Try.prog 9 #[.slice (some ⟨W.heap.size, 0, none⟩) 1 1] (W.alloc (.cells #[.string (ba x)] 9)) fun e w' => e = .returned (.tuple #[.string (ba (record x)), .int .i64 0]) ∧ Below W.heap.size W w' := fun W => by
    have hr : rowB [x] = record x := by rw [rowB_cons, rowB_nil, List.append_nil]
    have hrl := record_le hN hx
    have := record_Put_ok [x] _ _ (SV.new W [x] (by simp) (by simp)) (fun t ht => by rw [List.mem_singleton] at ht; rw [ht]; exact hx65) (by rw [hr]; omega)
    rw [hr] at this
    refine this.mono ?_
    rintro e w' ⟨rfl, hb⟩
    exact ⟨rfl, ((Below.refl _ W).alloc (Nat.le_refl _) _).trans (hb.mono (by simp))⟩
  obtain ⟨N, hNx⟩ : ∃ N, (record x).length = N := ⟨_, rfl⟩
  have h5 : 5 ≤ N := by rw [← hNx]; exact record_pos x
  have hN9 : N ≤ 900000 := by have := record_le hN hx; omega
  have HSUM := hid (show (rowB (l.take n)).length + N ≤ 900000 from by have := record_le hN hx; omega)
  have hos : (ba (record x)).size = N := by rw [ba_size, hNx]
  have has : (ba (rowB (l.take n))).size = (rowB (l.take n)).length := ba_size _
  have HX := hid hx
  have HNX := hid hNx
  have HTK := hid htake
  have HSM := hid hsmall
  have HNN := hid hN
  have HNT := hid hNt
  have HZ := hid hd0
  have HLEN := hid hlen
  have c0 : ∀ W, Below W0.heap.size W0 W → W.cell? ⟨w.heap.size, 0, none⟩ = some (.int .u16 (a : Int)) := fun W hW => (hW.cell (p := ⟨w.heap.size, 0, none⟩) (lt_of_some HX0.out)).trans ((cell_of_heap HX0.out).trans rfl)
  have c1 : ∀ W, Below W0.heap.size W0 W → W.cell? ⟨w.heap.size, 1, none⟩ = some (.int .u16 (c : Int)) := fun W hW => (hW.cell (p := ⟨w.heap.size, 1, none⟩) (lt_of_some HX0.out)).trans ((cell_of_heap HX0.out).trans rfl)
  have cx : ∀ W, Below W0.heap.size W0 W → W.cell? (ad.add n) = some (.string (ba x)) := fun W hW => (hW.cell (World.block_lt_of_cell? W0 _ hcx0)).trans hcx0
  have k0 := c0 w1 HB1.out
  clear hn hx htake hsmall hN hNx h60 htot hd0 hlen hcx0 hNt
  generalize hrx : record x = rx at *
  generalize hpre : rowB (l.take n) = pb at *
  have HRX := hid hrx
  have HPRE := hid hpre
  clear hrx hpre
  go_upto_region 8 with (first
    | (go_at_call 9; first
      | ((with_reducible refine (hp1 _ HB1.out).mono ?_); rintro e w2 ⟨rfl, hb2⟩; have HB2 := hid (below_next HB1.out hb2); have k1 := cx w2 HB2.out; clear hb2 hp1)
      | ((with_reducible refine (hp2 _).mono ?_); rintro e w3 ⟨rfl, hb3⟩; have HB3 := hid (below_next HB2.out hb3); clear hb3 hp2)))
  obtain ⟨k, hk⟩ : ∃ k : Nat, (k : Int) = (c : Int) % (8 * (N : Int) - 31) := ⟨((c : Int) % (8 * (N : Int) - 31)).toNat, Int.toNat_of_nonneg (Int.emod_nonneg _ (by omega))⟩
  have hkl : k + 31 < 8 * N := by have := Int.emod_lt_of_pos (c : Int) (show (0 : Int) < 8 * (N : Int) - 31 by omega); omega
  have hk2 : (c : Int).tmod (8 * (N : Int) - 31) = (k : Int) := by rw [Int.tmod_eq_emod_of_nonneg (by omega)]; exact hk.symm
  have hdz : (8 * (N : Int) - 31 == 0) = false := by rw [beq_eq_false_iff_ne]; omega
  generalize hp1' : ba rx = p1 at *
  have HP1 := hid hp1'
  have HOS := hid hos
  have hconv : ∀ w : World, (convert 9 40 (.string p1)).run Try.prog w = .ok (.slice (some ⟨w.heap.size, 0, none⟩) N (grownCap w N 0 5))
      (w.drew.alloc (.cells (bytesRow p1 (grownCap w N 0 5)) 5 ((bytesRow p1 (grownCap w N 0 5)).size, (bytesRow p1 (grownCap w N 0 5)).size + 1))) := fun w => by
    have e := HOS.out
    rw [← e]; exact run_bytes_of_string w 9 40 5 p1 Try.underlying9 Try.underlying40 Try.underlying5
  clear hk k0 k1 hp1'
  go_upto_region 9 with (fail)
  have hb6 : Below w3.heap.size w3 (w3.alloc (.cells (bytesRow p1 (grownCap w3 N 0 5)) 5 ((bytesRow p1 (grownCap w3 N 0 5)).size, (bytesRow p1 (grownCap w3 N 0 5)).size + 1))).drew := ((Below.refl _ w3).alloc (Nat.le_refl _) _).drew
  have HB6 := hid hb6
  have HBY := hid (show S.BytesAt (w3.alloc (.cells (bytesRow p1 (grownCap w3 N 0 5)) 5 ((bytesRow p1 (grownCap w3 N 0 5)).size, (bytesRow p1 (grownCap w3 N 0 5)).size + 1))).drew w3.heap.size p1.data.toList from S.BytesAt.made w3 p1 _)
  generalize (w3.alloc (.cells (bytesRow p1 (grownCap w3 N 0 5)) 5 ((bytesRow p1 (grownCap w3 N 0 5)).size, (bytesRow p1 (grownCap w3 N 0 5)).size + 1))).drew = w6 at hb6 HB6 HBY ⊢
  have d0 := c1 w6 (below_next HB3.out hb6)
  clear hb6 hconv
  go_wp2_with (fail)
  clear d0 hk2 hdz c0 c1 uwa uwc hn1 z1 z2 z3 z4
  go_loopw [14] (fun i wr => ∃ j q : Nat, j ≤ 32 ∧ i = .int .i64 j ∧ q = d % 2 ^ j ∧ S.BurstAt w3 wr w3.heap.size p1 N k j q) (fun i _ => 32 - (intOf i).toNat)
  case atStart => exact ⟨0, 0, by omega, rfl, by simp; omega, p1.data.toList, by rw [← HOS.out]; simp, by simp, HBY.out, HB6.out, Nat.le_refl _, by omega⟩
  case round =>
    obtain ⟨i, q, hi, rfl, hqn, hB⟩ := hrel
    have HQN := hid hqn
    clear hqn
    by_cases hlt : i < 32
    · by_cases hbit : d / 2 ^ i % 2 = 1
      · have ht : ((d : Int) / 2 ^ i).tmod 2 = 1 := S.bit_one d i hbit
        have hin : k + i < 8 * N := by omega
        have HNEXT := hid (bits_next q HQN.out hbit)
        obtain ⟨bl, hll, hnum, hby, hbe, hg, hq⟩ := hB
        have hj : (k + i) / 8 < bl.length := by omega
        have hcell := hby.cell _ hj
        have hfree := hby.free _ hj
        have hnext := S.burst_turn hll hnum hby hbe hg hq hin hj
        have HNx := hid hnext
        clear hnum hll hnext
        go_wp2_with fail
        go_roundw
        case rel => exact ⟨i + 1, q + 2 ^ i, by omega, by go_num, HNEXT.out, HNx.out⟩
        case measure => simp [intOf]; omega
      · have ht : ((d : Int) / 2 ^ i).tmod 2 = 0 := S.bit_zero d i hbit
        have HNEXT := hid (bits_stay q HQN.out hbit)
        go_wp2_with fail
        go_roundw
        case rel => exact ⟨i + 1, q, by omega, by go_num, HNEXT.out, S.burst_stay hB⟩
        case measure => simp [intOf]; omega
    · have : i = 32 := by omega
      subst this
      have hq0 : q ≠ 0 := by
        have := HQN.out
        rw [Nat.mod_eq_of_lt (by omega)] at this
        have := HZ.out
        omega
      obtain ⟨y, hcv, hyl, hyn, hbe⟩ := burst_other hB HOS.out hq0 (grownCap w3 N 0 5)
      rw [← HP1.out, ba_list, ← HRX.out] at hyn
      obtain ⟨l2, r2, hs2⟩ := scan_ex y
      have hsc := scan_behind HTK.out hs2
      rw [HPRE.out] at hsc
      have hyN : y.length = (record x).length := by rw [hyl, HRX.out, HNX.out]
      have hscan := fun W => record_Scan (pb ++ y) (l.take n ++ l2) r2 hsc (by rw [List.length_append, hyl]; exact HSUM.out) W
      have hys : (ba y).size = N := by rw [ba_size, hyl]
      have happ : ba pb ++ ba y = ba (pb ++ y) := ba_append pb y
      have hRL : (rowB (l.take n ++ l2)).length = pb.length + (rowB l2).length := by rw [rowB_append, List.length_append, HPRE.out]
      obtain ⟨M, hM⟩ : ∃ M, (rowB (l.take n ++ l2)).length = M := ⟨_, rfl⟩
      rw [hM] at hscan
      have hMp : ¬ M < pb.length := by omega
      have hpbl : pb.length ≤ 900000 := HNT.out
      have hla : (l.take n ++ l2).length = n + l2.length := by rw [List.length_append, List.length_take, Nat.min_eq_left hnl2]
      have HBE := hid (below_next HE.out (below_next HB3.out hbe))
      have HLA := hid hla
      have HM := hid (show (rowB (l.take n ++ l2)).length ≤ 900000 from by have h1 := scan_len hsc; have h2 := HSUM.out; rw [List.length_append, hyl] at h1; omega)
      have HBX := hid hbe
      clear hB hbe hq0 hsc hRL hM
      go_wp2_with (first
        | (go_at_call 13; (with_reducible refine (hscan _).mono ?_); rintro e w7 ⟨v7, rfl, hv7, hb7⟩; obtain ⟨ad7, len7, cap7, rfl, hI7⟩ := hv7; have HI7 := hid hI7; have HB7 := hid hb7; clear hI7 hb7 hscan))
      have hlen7 : len7 = n + l2.length := by rw [← HI7.out.hlen]; exact HLA.out
      have hlm7 : len7 ≤ 900000 := by
        have h1 := row_count (l.take n ++ l2)
        have h2 := HM.out
        rw [HI7.out.hlen] at h1
        omega
      have hge7 : ¬ len7 < n := by omega
      have hs7 := fun V => slice_sv HI7.out (n := n) (by rw [HLA.out]; omega) V
      have hB07 : Below W0.heap.size W0 w7 := below_next HB3.out (below_next HBX.out HB7.out)
      have hsame : ∀ W, Below w7.heap.size w7 W → Calls Try.prog 15 #[.slice ad7 n cap7, .slice (some ad) n cap] W fun e w' => e = .returned (.bool true) ∧ Below W.heap.size W w' := fun W hW => by
        have e1 : (l.take n ++ l2).take n = l.take n := List.take_left' (by rw [List.length_take, Nat.min_eq_left hnl2])
        have h1 : SV W (.slice ad7 n cap7) (l.take n) := by
          have := (HI7.out.keep hW).take (n := n) (by rw [HLA.out]; omega)
          rw [e1] at this
          exact ⟨_, _, _, rfl, this⟩
        have := ref_Same (l.take n) (l.take n) _ _ W h1 ⟨_, _, _, rfl, (HI0.out.keep (below_next hB07 hW)).take hnl2⟩
        rwa [decide_eq_true rfl] at this
      have HS2 := hid hs2
      have HYN := hid hyn
      have HYL := hid hyN
      have HB07 := hid hB07
      have HL7 := hid hlen7
      clear hs2 hyn hyN hlen7 hB07
      refine wp_region_later w7.heap.size (by kernel_rfl) (by kernel_rfl) ?_
      repeat (go_big_quiet_step (first | (go_at_call 15; with_reducible exact Calls.later_of (Nat.le_refl _) (hsame _ (Later.ok _)))))
      refine wpQuiet_nil ?_
      rintro w8 ⟨⟨w8', ok8⟩, e8⟩
      obtain rfl : w8 = w8' := e8
      have HB8 := hid ok8
      cases l2 with
      | nil =>
        have hl7 := HL7.out
        simp at hl7
        have he7 : (len7 == n) = true := by rw [hl7]; exact beq_self_eq_true _
        have he7' : ((len7 : Int) == (n : Int)) = true := by rw [hl7]; exact beq_self_eq_true _
        clear ok8 hsame hl7
        go_wp2
        refine wp_region_later w8.heap.size (by kernel_rfl) (by kernel_rfl) ?_
        repeat (go_big_quiet_step (first | (go_at_call 8; with_reducible exact Calls.later_of (Nat.le_refl _) (law_head _))))
        refine wpQuiet_nil ?_
        rintro _ ⟨p, rfl⟩
        go_wp2
        go_ret
        exact ⟨rfl, below_next HE.out (below_next HB07.out (below_next HB8.out p.ok))⟩
      | cons t r =>
        have hl7 := HL7.out
        simp at hl7
        have htx : t ≠ x := other_first HYN.out HYL.out HS2.out
        have hcmp : ((ba t).toList == (ba x).toList) = false := by rw [beq_ba, decide_eq_false htx]
        have hat : (l.take n ++ t :: r)[n]? = some t := by
          rw [List.getElem?_append_right (by rw [List.length_take]; omega), List.length_take, Nat.min_eq_left hnl2, Nat.sub_self]; rfl
        obtain ⟨a7, ha7, hc7⟩ := HI7.out.hcell n t hat
        subst ha7
        have q1 : ∀ p : Later w8.heap.size w8, p.val.cell? (a7.add n) = some (.string (ba t)) := fun p => ((below_next HB8.out p.ok).cell (World.block_lt_of_cell? w7 _ hc7)).trans hc7
        have q2 : ∀ p : Later w8.heap.size w8, p.val.cell? (ad.add n) = some (.string (ba x)) := fun p => cx _ (below_next HB07.out (below_next HB8.out p.ok))
        have hn7 : n < len7 := by omega
        have he7 : (len7 == n) = false := by rw [beq_eq_false_iff_ne]; omega
        have he7' : ((len7 : Int) == (n : Int)) = false := by rw [beq_eq_false_iff_ne]; omega
        clear ok8 hsame hl7 htx hat hc7
        go_wp2
        refine wp_region_later w8.heap.size (by kernel_rfl) (by kernel_rfl) ?_
        repeat (go_big_quiet_step (first | (go_at_call 8; with_reducible exact Calls.later_of (Nat.le_refl _) (law_head _))))
        refine wpQuiet_nil ?_
        rintro _ ⟨p, rfl⟩
        go_wp2
        go_ret
        exact ⟨rfl, below_next HE.out (below_next HB07.out (below_next HB8.out p.ok))⟩
end Go.Proofs.Ytnglalahhdkebaa.Q
