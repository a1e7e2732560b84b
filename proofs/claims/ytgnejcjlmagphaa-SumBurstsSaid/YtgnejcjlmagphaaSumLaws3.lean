/-
  The walk of the law on bursts.
-/
import Derived.Test.YtgnejcjlmagphaaSumLaws2
namespace Go.Proofs.Ytgnejcjlmagphaa
open Go Go.RowKit Crc

/-- The bytes l lie at the head of block g, which a conversion of a string made. -/
def BytesAt (w : World) (g : Nat) (l : List UInt8) : Prop :=
  ∃ cur : Array Value, w.heap[g]? = some (.cells cur 5 (cur.size, cur.size + 1)) ∧ l.length ≤ cur.size ∧ ∀ j (h : j < l.length), cur[j]? = some (.int .u8 (l[j].toNat : Int))
theorem BytesAt.cell {w : World} {g : Nat} {l : List UInt8} (h : BytesAt w g l) (j : Nat) (hj : j < l.length) : w.cell? ⟨g, j, none⟩ = some (.int .u8 ((l.getD j 0).toNat : Int)) := by
  obtain ⟨cur, hg, _, hc⟩ := h
  rw [cell_of_row _ _ _ _ _ _ hg, hc j hj]; simp [List.getD_eq_getElem?_getD, hj]
theorem BytesAt.free {w : World} {g : Nat} {l : List UInt8} (h : BytesAt w g l) (j : Nat) (hj : j < l.length) : w.frozen? ⟨g, j, none⟩ = false := by
  obtain ⟨cur, hg, hl, _⟩ := h
  simp [World.frozen?, hg]; omega
theorem BytesAt.store {w : World} {g : Nat} {l : List UInt8} (h : BytesAt w g l) (j : Nat) (b : UInt8) (v : Int) (hv : v = (b.toNat : Nat)) : BytesAt (w.setCell ⟨g, j, none⟩ (.int .u8 v)) g (l.set j b) := by
  obtain ⟨cur, hg, hl, hc⟩ := h
  subst hv
  refine ⟨cur.setIfInBounds j (.int .u8 (b.toNat : Int)), ?_, by simpa using hl, ?_⟩
  · rw [setCell_eq_setRow _ g j cur _ _ _ hg, setRow_heap _ _ _ _ _ _ hg]; simp
  · intro i hi
    rw [List.length_set] at hi
    rw [Array.getElem?_setIfInBounds]
    by_cases he : j = i
    · subst he
      simp; omega
    · simp only [he, if_false, hc i hi]
      rw [List.getElem_set_ne he]
theorem BytesAt.below {w w' : World} {g : Nat} {l : List UInt8} (h : BytesAt w g l) (hb : Below w.heap.size w w') : BytesAt w' g l := by
  obtain ⟨cur, hg, r⟩ := h
  exact ⟨cur, by rw [hb.block g (Array.getElem?_eq_some_iff.1 hg).1]; exact hg, r⟩
theorem BytesAt.string {w : World} {g : Nat} {l : List UInt8} (h : BytesAt w g l) (cap : Nat) :
    (convert 35 9 (.slice (some ⟨g, 0, none⟩) l.length cap)).run Try.prog w = .ok (.string ⟨l.toArray⟩) w := by
  have hc := Lib.run_convert_whole (P := Try.prog) w 35 5 9 Try.underlying35 Try.underlying5 Try.underlying9 g 0 ⟨l.toArray⟩ (fun i hi => by
    have hi' : i < l.length := hi
    rw [Nat.zero_add, h.cell i hi']
    simp [List.getD_eq_getElem?_getD, hi']
    rfl) cap
  exact hc
theorem BytesAt.made (w : World) (s : ByteArray) (cap : Nat) : BytesAt (w.alloc (.cells (bytesRow s cap) 5 ((bytesRow s cap).size, (bytesRow s cap).size + 1))) w.heap.size s.data.toList := by
  refine ⟨bytesRow s cap, heap_alloc_last _ _, by simp [bytesRow], fun j hj => ?_⟩
  have hj' : j < s.data.size := by simpa using hj
  have hj2 : j < s.size := hj'
  simp only [bytesRow]
  rw [Array.getElem?_append, if_pos (by simpa using hj2)]
  rw [Array.getElem?_map, Array.getElem?_eq_getElem hj']
  simp

theorem bit_one (n i : Nat) (h : n / 2 ^ i % 2 = 1) : ((n : Int) / 2 ^ i).tmod 2 = 1 := by
  have e : ((n : Int) / 2 ^ i) = ((n / 2 ^ i : Nat) : Int) := by rw [Int.natCast_ediv, Int.natCast_pow]; rfl
  rw [e, Int.tmod_eq_emod_of_nonneg (Int.natCast_nonneg _)]; omega
theorem bit_zero (n i : Nat) (h : ¬ n / 2 ^ i % 2 = 1) : ((n : Int) / 2 ^ i).tmod 2 = 0 := by
  have e : ((n : Int) / 2 ^ i) = ((n / 2 ^ i : Nat) : Int) := by rw [Int.natCast_ediv, Int.natCast_pow]; rfl
  rw [e, Int.tmod_eq_emod_of_nonneg (Int.natCast_nonneg _)]; omega

/-- What holds at the head of round i: the bytes l are the sealed ones with the number q turned at place k. -/
def BurstAt (W wr : World) (g : Nat) (X : ByteArray) (N k i q : Nat) : Prop :=
  ∃ l : List UInt8, l.length = N ∧ num l = num X.data.toList ^^^ 2 ^ k * q ∧ BytesAt wr g l ∧ Below W.heap.size W wr ∧ W.heap.size ≤ g ∧ q < 2 ^ i

theorem burst_stay {W wr : World} {g : Nat} {X : ByteArray} {N k i q : Nat} (h : BurstAt W wr g X N k i q) : BurstAt W wr g X N k (i + 1) q := by
  obtain ⟨l, h1, h2, h3, h4, h5, h6⟩ := h
  exact ⟨l, h1, h2, h3, h4, h5, by rw [Nat.pow_succ]; omega⟩
theorem burst_byte (l : List UInt8) (j : Nat) (hj : j / 8 < l.length) :
    bits .xor .u8 ((l[j / 8].toNat : Nat) : Int) (2 ^ (j % 8) % 256) = ((l.getD (j / 8) 0 ^^^ UInt8.ofNat (2 ^ (j % 8))).toNat : Nat) := by
  have hp : 2 ^ (j % 8) < 256 := by
    have : 2 ^ (j % 8) < 2 ^ 8 := Nat.pow_lt_pow_of_lt (by omega) (Nat.mod_lt _ (by omega))
    simpa using this
  have hx := xor_u8 l[j / 8].toNat (2 ^ (j % 8)) (u8_lt _) hp
  have e : ((2 : Int) ^ (j % 8) % 256) = ((2 ^ (j % 8) : Nat) : Int) := by
    have : ((2 : Int) ^ (j % 8)) = ((2 ^ (j % 8) : Nat) : Int) := by rw [Int.natCast_pow]; rfl
    rw [this]; exact Int.emod_eq_of_lt (Int.natCast_nonneg _) (Int.ofNat_lt.2 hp)
  rw [e, hx, UInt8.toNat_xor, UInt8.toNat_ofNat', Nat.mod_eq_of_lt (show 2 ^ (j % 8) < 2 ^ 8 from hp)]
  simp [List.getD_eq_getElem?_getD, hj]
theorem burst_turn {W wr : World} {g : Nat} {X : ByteArray} {N k i q : Nat} {l : List UInt8} (h1 : l.length = N) (h2 : num l = num X.data.toList ^^^ 2 ^ k * q) (h3 : BytesAt wr g l) (h4 : Below W.heap.size W wr)
    (h5 : W.heap.size ≤ g) (h6 : q < 2 ^ i) (hin : k + i < 8 * N) (hj : (k + i) / 8 < l.length) :
    BurstAt W (wr.setCell ⟨g, (k + i) / 8, none⟩ (.int .u8 (bits .xor .u8 ((l[(k + i) / 8].toNat : Nat) : Int) (2 ^ ((k + i) % 8) % 256)))) g X N k (i + 1) (q + 2 ^ i) := by
  refine ⟨flip l (k + i), by rw [flip_length]; exact h1, ?_, ?_, h4.setCell h5 _, h5, by rw [Nat.pow_succ]; omega⟩
  · rw [num_flip _ _ (by omega), h2, Nat.xor_assoc, pow_step k q i h6]
  · rw [burst_byte l (k + i) hj]
    exact h3.store _ _ _ rfl
theorem burst_end {W wr : World} {g : Nat} {s X : ByteArray} {N k q : Nat} (h : BurstAt W wr g X N k 32 q) (hX : X = s ++ lowB (sum s.data.toList)) (hXs : X.size = N) (hk : k < 8 * N) (hN : 4 ≤ N) (hN' : N ≤ 3004) (cap : Nat) :
    ∃ Y B : ByteArray, (convert 35 9 (.slice (some ⟨g, 0, none⟩) N cap)).run Try.prog wr = .ok (.string Y) wr ∧
      (∀ w, Calls Try.prog 10 #[.string Y] w fun e w' => e = .returned (.tuple #[.string B, .bool (decide (q = 0))]) ∧ Below w.heap.size w w') ∧ Below W.heap.size W wr := by
  obtain ⟨l, h1, h2, h3, h4, h5, h6⟩ := h
  refine ⟨⟨l.toArray⟩, bodyB ⟨l.toArray⟩, by rw [← h1]; exact h3.string cap, fun w => ?_, h4⟩
  have ho := sum_Open ⟨l.toArray⟩ (by show l.length ≤ _; omega) w
  have hb := burst X.data.toList l k q (by rw [len_toList]; omega) (by rw [len_toList]; omega) (by rw [len_toList]; omega) (by omega) (by rw [hX]; exact sealedB_is s) h2
  have hl : (⟨l.toArray⟩ : ByteArray).data.toList = l := rfl
  rw [hl, hb] at ho
  exact ho

set_option maxHeartbeats 4000000 in
set_option maxRecDepth 100000 in
theorem law_SumBursts (s : ByteArray) (a1 a2 : Int) (hs : s.size ≤ maxLen) (h1 : (Lit.int .i64 a1).wf = true) (h2 : (Lit.int .u32 a2).wf = true) (W : World) :
    Calls Try.prog 5 #[.string s, .int .i64 a1, .int .u32 a2] W fun e w' => e = .returned (.bool true) ∧ Below W.heap.size W w' := by
  obtain ⟨n, rfl, hn⟩ := u32_nat h2
  clear h2
  unfold maxLen at hs
  by_cases h3 : 3000 < s.size
  · go_enter Try.func5, Try.ntmps5
    go_wp2_with (go_at_call 7; refine (law_head _).mono ?_; rintro e w1 ⟨rfl, hb1⟩)
    go_ret
    exact ⟨rfl, hb1⟩
  by_cases hz : n = 0
  · subst hz
    go_enter Try.func5, Try.ntmps5
    go_wp2_with (go_at_call 7; refine (law_head _).mono ?_; rintro e w1 ⟨rfl, hb1⟩)
    go_ret
    exact ⟨rfl, hb1⟩
  have hz' : ((n : Int) == 0) = false := by simp; omega
  by_cases hneg : a1 < 0
  · go_enter Try.func5, Try.ntmps5
    go_wp2_with (go_at_call 7; refine (law_head _).mono ?_; rintro e w1 ⟨rfl, hb1⟩)
    go_ret
    exact ⟨rfl, hb1⟩
  have hx : a1 ≤ 9223372036854775807 := by
    have : -9223372036854775808 ≤ a1 ∧ a1 ≤ 9223372036854775807 := by simpa [Lit.wf, IntKind.min, IntKind.max, IntKind.signed, IntKind.bits] using h1
    omega
  clear h1
  have hl : s.size ≤ 1000000 := by omega
  clear hs
  obtain ⟨X, hX⟩ : ∃ X : ByteArray, X = s ++ lowB (sum s.data.toList) := ⟨_, rfl⟩
  have hseal : ∀ W, Calls Try.prog 16 #[.string s] W fun e w' => e = .returned (.string X) ∧ Below W.heap.size W w' := fun W => by rw [hX]; exact sum_Seal s hl W
  obtain ⟨N, hN⟩ : ∃ N : Nat, N = s.size + 4 := ⟨_, rfl⟩
  have hXs : X.size = N := by rw [hX, hN]; exact sealedB_size s
  have hne : ((N : Int) != (s.size : Int) + 4) = false := by simp; omega
  have hNl : 4 ≤ N ∧ N ≤ 3004 := by omega
  obtain ⟨k, hk⟩ : ∃ k : Nat, (k : Int) = a1 % (8 * (N : Int)) := ⟨(a1 % (8 * (N : Int))).toNat, Int.toNat_of_nonneg (Int.emod_nonneg _ (by omega))⟩
  have hkl : k < 8 * N := by have := Int.emod_lt_of_pos a1 (show (0 : Int) < 8 * (N : Int) by omega); omega
  have hconv : ∀ w : World, (convert 9 35 (.string X)).run Try.prog w = .ok (.slice (some ⟨w.heap.size, 0, none⟩) N (grownCap w N 0 5))
      (w.drew.alloc (.cells (bytesRow X (grownCap w N 0 5)) 5 ((bytesRow X (grownCap w N 0 5)).size, (bytesRow X (grownCap w N 0 5)).size + 1))) := fun w => by
    rw [← hXs]; exact run_bytes_of_string w 9 35 5 X Try.underlying9 Try.underlying35 Try.underlying5
  have hk' : a1 % (8 * (N : Int)) = (k : Int) := hk.symm
  have hk2 : a1.tmod (8 * (N : Int)) = (k : Int) := by rw [Int.tmod_eq_emod_of_nonneg (by omega)]; exact hk'
  have HX := Lib.hid hX
  have HN := Lib.hid hN
  have HXs := Lib.hid hXs
  clear hX hN hXs hk
  go_enter Try.func5, Try.ntmps5
  go_wp2_with (go_at_call 16; refine (hseal _).mono ?_; rintro e w1 ⟨rfl, hb1⟩)
  go_loopw [8, 10] (fun t i wr => ∃ j q : Nat, j ≤ 32 ∧ i = .int .i64 j ∧ t = .bool (decide (q ≠ 0)) ∧ BurstAt W wr w1.heap.size X N k j q) (fun _ i _ => 32 - (intOf i).toNat)
  case atStart =>
    refine ⟨0, 0, by omega, rfl, by simp, X.data.toList, by rw [len_toList]; exact HXs.out, by simp, ?_, ?_, hb1.size, by omega⟩
    · exact BytesAt.made w1 X _
    · exact (hb1.alloc hb1.size _).drew
  case round =>
    obtain ⟨i, q, hi, rfl, rfl, hB⟩ := hrel
    by_cases hlt : i < 32
    · by_cases hbit : n / 2 ^ i % 2 = 1
      · have ht : ((n : Int) / 2 ^ i).tmod 2 = 1 := bit_one n i hbit
        by_cases hin : k + i < 8 * N
        · obtain ⟨l, hll, hnum, hby, hbe, hg, hq⟩ := hB
          have hj : (k + i) / 8 < l.length := by omega
          have hcell := hby.cell _ hj
          have hfree := hby.free _ hj
          have hnext := burst_turn hll hnum hby hbe hg hq hin hj
          have HNx := Lib.hid hnext
          clear hnum hll hnext
          go_wp2_with fail
          go_roundw
          case rel => exact ⟨i + 1, q + 2 ^ i, by omega, by go_num, by simp, HNx.out⟩
          case measure => simp [intOf]; omega
        · go_wp2_with fail
          go_roundw
          case rel => exact ⟨i + 1, q, by omega, by go_num, by simp, burst_stay hB⟩
          case measure => simp [intOf]; omega
      · have ht : ((n : Int) / 2 ^ i).tmod 2 = 0 := bit_zero n i hbit
        go_wp2_with fail
        go_roundw
        case rel => exact ⟨i + 1, q, by omega, by go_num, by simp, burst_stay hB⟩
        case measure => simp [intOf]; omega
    · have : i = 32 := by omega
      subst this
      obtain ⟨Y, B, hcv, hopen, hbe⟩ := burst_end hB HX.out HXs.out hkl hNl.1 hNl.2 (grownCap w1 N 0 5)
      go_wp2_with (first
        | (go_at_call 10; refine (hopen _).mono ?_; rintro e w2 ⟨rfl, hb2⟩)
        | (go_at_call 7; refine (law_head _).mono ?_; rintro e w3 ⟨rfl, hb3⟩))
      go_ret
      exact ⟨rfl, hbe.trans ((below_next hb2 hb3).mono hbe.size)⟩

end Go.Proofs.Ytgnejcjlmagphaa
