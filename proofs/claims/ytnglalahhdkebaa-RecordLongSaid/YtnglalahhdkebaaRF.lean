/-
  Contracts of the document's record: records one by one, what is scanned.
-/
import Derived.Test.YtnglalahhdkebaaRE
namespace Go.Proofs.Ytnglalahhdkebaa.Q
set_option linter.unusedVariables false
set_option linter.unusedSimpArgs false
set_option maxRecDepth 100000
open Go Go.RowKit Wire

theorem ref_Length (s : Bs) (hs : s.length ≤ 900000) (w : World) :
    Calls Try.prog 42 #[.string (ba s)] w fun e w' => e = .returned (.bool (lenB s)) ∧ w = w' := by
  match s, hs with
  | [], _ => exact len_nil _ (ba_size []) w
  | a :: q, hs =>
    have hq : q.length ≤ 1000000 := by simp at hs; omega
    have hsz : (ba (a :: q)).size = q.length + 1 := ba_size (a :: q)
    by_cases h1 : a.toNat < 128
    · have : lenB (a :: q) = true := by simp [lenB, h1]
      rw [this]
      exact len_low _ q.length a.toNat hsz hq rfl h1 w
    by_cases h2 : a.toNat = 129
    · match q, hq, hsz with
      | [], _, hsz =>
        have : lenB [a] = true := by simp [lenB, h2]
        rw [this]
        exact len_one _ hsz a.toNat rfl (.inl h2) w
      | b :: q, hq, hsz =>
        have : lenB (a :: b :: q) = decide (128 ≤ b.toNat) := by simp [lenB, h2]
        rw [this]
        exact len_129 _ q.length b.toNat hsz (by simp at hq; omega) h2 rfl _ rfl w
    by_cases h3 : a.toNat = 130
    · match q, hq, hsz with
      | [], _, hsz =>
        have : lenB [a] = true := by simp [lenB, h3]
        rw [this]
        exact len_one _ hsz a.toNat rfl (.inr h3) w
      | b :: q, hq, hsz =>
        have : lenB (a :: b :: q) = decide (1 ≤ b.toNat) := by simp [lenB, h3]
        rw [this]
        exact len_130 _ q.length b.toNat hsz (by simp at hq; omega) h3 rfl _ rfl w
    · have : lenB (a :: q) = ((a :: q).take 4).isPrefixOf [131, 1, 0, 0] := by simp only [lenB]; rw [if_neg h1, if_neg h2, if_neg h3]
      rw [this]
      have hex : (ba (a :: q)).extract 0 (min (q.length + 1) 4) = ba ((a :: q).take 4) := by
        rw [ba_extract_to]
        congr 1
        rcases Nat.lt_or_ge (q.length + 1) 4 with h | h
        · rw [Nat.min_eq_left (by omega), List.take_of_length_le (by simp), List.take_of_length_le (by simp; omega)]
        · rw [Nat.min_eq_right h]
      exact len_else _ q.length _ a.toNat hsz hq rfl h1 h2 h3 rfl _ hex _ (fun w => ref_begins _ _ (by rw [List.length_take]; simp at hs ⊢; omega) (by simp) w) w

/-! ### What is put -/
set_option maxHeartbeats 1000000 in
theorem ref_Put_ok (l : List Bs) (v : Value) (w : World) (hv : SV w v l) (hsm : ∀ x ∈ l, x.length ≤ 65536) (hN : (rowB l).length ≤ 900000) :
    Calls Try.prog 10 #[v] w fun e w' => e = .returned (.tuple #[.string (ba (rowB l)), .int .i64 0]) ∧ Below w.heap.size w w' := by
  obtain ⟨ad, len, cap, rfl, hI⟩ := hv
  have hm : len ≤ 9223372036854775807 := by have h1 := hI.hle; have h2 := hI.hmax; unfold maxLen at h2; omega
  have HI := hid hI
  have HS := hid hsm
  have HN := hid hN
  clear hI hsm hN
  go_enter Try.func10, Try.ntmps10
  go_wp2
  go_loopw [4, 5] (fun s i wr => ∃ k : Nat, k ≤ len ∧ i = .int .i64 k ∧ s = .string (ba (rowB (l.take k))) ∧ Hid (Below w.heap.size w wr)) (fun s i _ => len - (intOf i).toNat)
  case atStart => exact ⟨0, by omega, rfl, rfl, hid (Below.refl _ _)⟩
  case round =>
    obtain ⟨k, hk, rfl, rfl, HB⟩ := hrel
    by_cases hlt : k < len
    · cases ad with
      | none => have := (HI.out.hnil rfl).1; omega
      | some ad =>
        obtain ⟨x, hx, hc⟩ := (HI.out.keep HB.out).at hlt
        have hx65 := HS.out x (List.mem_of_getElem? hx)
        have hxs : (ba x).size = x.length := ba_size x
        have hle := record_le HN.out hx
        have hs1 : (ba (rowB (l.take k))).size = (rowB (l.take k)).length := ba_size _
        have hs2 : (ba (record x)).size = (record x).length := ba_size _
        have happ : ba (rowB (l.take k)) ++ ba (record x) = ba (rowB (l.take (k + 1))) := by rw [ba_append, rowB_take_succ hx]
        have hn65 : ¬ 65536 < x.length := by omega
        have HX := hid hx
        clear hx
        go_wp2_with (go_at_call 12; refine (ref_Record x (by omega) _).mono ?_; rintro e w1 ⟨rfl, hb1⟩; have HB1 := hid (hb1.mono HB.out.size); clear hb1)
        go_roundw
        case rel => exact ⟨k + 1, by omega, by go_num, rfl, hid (HB.out.trans HB1.out)⟩
        case measure => simp [intOf]; omega
    · obtain rfl : k = len := by omega
      have hlk : l.take l.length = l := List.take_length
      rw [← HI.out.hlen, hlk]
      go_wp2
      go_ret2
      exact ⟨rfl, HB.out⟩

/-! ### The first record -/
def firstRes (s : Bs) : Array Value := match first s with
  | some (t, k) => #[.string (ba t), .int .i64 (k : Nat)]
  | none => #[.string (ba []), .int .i64 0]
set_option maxHeartbeats 1000000 in
theorem ref_First (s : Bs) (hs : s.length ≤ 900000) (w : World) :
    Calls Try.prog 28 #[.string (ba s)] w fun e w' => e = .returned (.tuple (firstRes s)) ∧ Below w.heap.size w w' := by
  have hnum : ∀ W, Calls Try.prog 41 #[.agg #[.string (ba s), .bool true], .int .u64 65536] W fun e w' => e = .returned (.tuple #[.int .u64 ((takeNum (some s) 65536).1 : Nat), .agg (rcells (takeNum (some s) 65536).2)]) ∧ Below W.heap.size W w' := fun W => ref_TakeNum (some s) (show s.length ≤ 1000000 by omega) 65536 W
  cases hn : numOf s with
  | none =>
    have hf : firstRes s = #[.string (ba []), .int .i64 0] := by unfold firstRes first; rw [hn]
    rw [hf]
    rw [numOf_fail hn] at hnum
    simp only [rcells] at hnum
    clear hf hn
    go_enter Try.func28, Try.ntmps28
    go_wp2_with (go_at_call 41; refine (hnum _).mono ?_; rintro e w1 ⟨rfl, hb1⟩)
    go_ret2
    exact ⟨rfl, hb1.alloc hb1.size _⟩
  | some p =>
    obtain ⟨n, r⟩ := p
    obtain ⟨e, hle⟩ := numOf_some hn
    rw [numOf_eq hn] at hnum
    simp only [rcells] at hnum
    have hrs : (ba r).size = r.length := ba_size r
    have hlen : s.length = (enc n).length + r.length := by rw [e, List.length_append]
    have hc1 : IntKind.u64.wrap (r.length : Int) = r.length := by rw [wrap_u64]; omega
    have hc2 : IntKind.u64.wrap ((n : Int) + 4) = ((n + 4 : Nat) : Int) := by rw [wrap_u64]; omega
    by_cases h4 : r.length < n + 4
    · have hf : firstRes s = #[.string (ba []), .int .i64 0] := by unfold firstRes first; rw [hn]; simp only; rw [if_pos h4]
      rw [hf]
      have hd : decide ((r.length : Int) < (n : Int) + 4) = true := decide_eq_true (by omega)
      have hd2 : decide ((r.length : Int) < ((n + 4 : Nat) : Int)) = true := decide_eq_true (by omega)
      clear hf hn e
      go_enter Try.func28, Try.ntmps28
      go_wp2_with (go_at_call 41; refine (hnum _).mono ?_; rintro e w1 ⟨rfl, hb1⟩)
      go_ret2
      exact ⟨rfl, hb1.alloc hb1.size _⟩
    · have htl : (r.take n).length = n := by rw [List.length_take]; omega
      have hsl : s.length - r.length = (enc n).length := by omega
      have hrl : (record (r.take n)).length = (enc n).length + n + 4 := by rw [record_length, htl]
      have hseal : Crc.isSealed (s.take (s.length - r.length + n + 4)) = decide (s.take (record (r.take n)).length = record (r.take n)) := by
        rw [hsl, ← hrl]
        have hk : s.take ((enc n).length + n) = enc n ++ r.take n := by rw [e, List.take_length_add_append]
        have hl2 : (s.take (record (r.take n)).length).length = (enc n).length + n + 4 := by rw [List.length_take]; omega
        unfold Crc.isSealed
        rw [hl2, List.take_take, show min ((enc n).length + n + 4 - 4) (record (r.take n)).length = (enc n).length + n by omega, hk]
        rw [decide_eq_true (show 4 ≤ (enc n).length + n + 4 by omega), Bool.true_and]
        have : Crc.sealed (enc n ++ r.take n) = record (r.take n) := by unfold record; rw [htl]
        rw [this]
        exact decide_eq_decide.2 ⟨fun h => h.symm, fun h => h.symm⟩
      have hcmp := beq_ba (s.take (record (r.take n)).length) (record (r.take n))
      have hd : decide ((r.length : Int) < (n : Int) + 4) = false := decide_eq_false (by omega)
      have hd2 : decide ((r.length : Int) < ((n + 4 : Nat) : Int)) = false := decide_eq_false (by omega)
      have hx1 := ba_extract_to r n
      have hx2 := ba_extract_to s (record (r.take n)).length
      have hss : (ba s).size = s.length := ba_size s
      have hrs2 : (ba (record (r.take n))).size = (record (r.take n)).length := ba_size _
      have hnr : n ≤ r.length := by omega
      have hks : (record (r.take n)).length ≤ s.length := by omega
      have hk0 : (s.length - r.length + n + 4) = (record (r.take n)).length := by omega
      have hrec := fun W => ref_Record (r.take n) (by omega) W
      have hw : IntKind.i64.wrap (n : Int) = n := by simp [IntKind.wrap, IntKind.bits, IntKind.signed]; omega
      have HL := hid hrl
      cases hb : decide (s.take (record (r.take n)).length = record (r.take n)) with
      | true =>
        have hf : firstRes s = #[.string (ba (r.take n)), .int .i64 ((record (r.take n)).length : Nat)] := by
          unfold firstRes first; rw [hn]; simp only; rw [if_neg h4, hseal, hb, if_pos rfl, hk0]
        rw [hb] at hcmp
        rw [hf]
        clear hf hn e hseal htl hsl hrl hk0 hb hlen h4
        generalize record (r.take n) = x at *
        generalize r.take n = t at *
        go_enter Try.func28, Try.ntmps28
        go_wp2_with (first
          | (go_at_call 41; refine (hnum _).mono ?_; rintro e w1 ⟨rfl, hb1⟩)
          | (go_at_call 12; refine (hrec _).mono ?_; rintro e w2 ⟨rfl, hb2⟩))
        go_ret2
        exact ⟨rfl, (hb1.alloc hb1.size _).trans (hb2.mono (by have := hb1.size; simp; omega))⟩
      | false =>
        have hf : firstRes s = #[.string (ba []), .int .i64 0] := by
          unfold firstRes first; rw [hn]; simp only; rw [if_neg h4, hseal, hb, if_neg (by simp)]
        rw [hb] at hcmp
        rw [hf]
        clear hf hn e hseal htl hsl hrl hk0 hb hlen h4
        generalize record (r.take n) = x at *
        generalize r.take n = t at *
        go_enter Try.func28, Try.ntmps28
        go_wp2_with (first
          | (go_at_call 41; refine (hnum _).mono ?_; rintro e w1 ⟨rfl, hb1⟩)
          | (go_at_call 12; refine (hrec _).mono ?_; rintro e w2 ⟨rfl, hb2⟩))
        go_ret2
        exact ⟨rfl, (hb1.alloc hb1.size _).trans (hb2.mono (by have := hb1.size; simp; omega))⟩
end Go.Proofs.Ytnglalahhdkebaa.Q
