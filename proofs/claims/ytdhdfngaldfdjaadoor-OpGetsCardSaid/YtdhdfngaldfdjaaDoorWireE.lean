/-
  Contracts of package wire: what is read.
-/
import Derived.Test.YtdhdfngaldfdjaaDoorWireD
namespace Go.Proofs.YtdhdfngaldfdjaaDoor
open Go Go.RowKit Wire

set_option maxRecDepth 100000
set_option linter.unusedVariables false
set_option linter.unusedSimpArgs false
theorem small_drop {l : List UInt8} (h : Small (some l)) (n : Nat) : Small (some (l.drop n)) := by
  have h' : l.length ≤ 1000000 := h
  show (l.drop n).length ≤ 1000000
  rw [List.length_drop]; omega
theorem small_none : Small none := Nat.zero_le _

set_option maxRecDepth 100000 in
theorem readNumber_small (p : Option Nat) (b : UInt8) (r : List UInt8) (hs : Small (some (b :: r))) (hb : b.toNat < 128) (W : World) (h : RAt W p (some (b :: r))) :
    Calls Tryd.prog 59 #[takeFn p] W fun e w' => e = .returned (.tuple #[.int .u64 (b.toNat : Nat), .bool true]) ∧ RAt w' p (some r) ∧ Keeps W.heap.size p W w' := by
  have ht := wire_take p _ 1 (by omega) hs W h
  have h0 : takeB (some (b :: r)) 1 = (([b], true), some r) := by simp [takeB]
  rw [h0] at ht
  simp only at ht
  have hz : (ba [b]).size = 1 := rfl
  have hat : ∀ hh : 0 < (ba [b]).size, (ba [b])[0].toNat = b.toNat := fun _ => rfl
  generalize ba [b] = s1 at ht hz hat
  have hpos : 0 < s1.size := by omega
  have hat' := hat hpos
  generalize b.toNat = c at hat' hb
  clear hat h h0
  have hcv : IntKind.u64.wrap (c : Int) = c := by rw [wrap_u64]; omega
  go_enter Tryd.func59, Tryd.ntmps59
  simp only [takeFn]
  go_wp2_with (go_at_call 60; refine ht.mono ?_; rintro e w1 ⟨rfl, h1, hk1⟩)
  go_ret2
  exact ⟨rfl, h1, hk1⟩

set_option maxHeartbeats 4000000 in
set_option maxRecDepth 100000 in
theorem readNumber_great (p : Option Nat) (b : UInt8) (r : List UInt8) (hs : Small (some (b :: r))) (hb : ¬ b.toNat < 128) (W : World) (h : RAt W p (some (b :: r))) :
    ∃ n ok st', ReadSaid (some (b :: r)) n ok st' ∧ Calls Tryd.prog 59 #[takeFn p] W fun e w' => e = .returned (.tuple #[.int .u64 (n : Nat), .bool ok]) ∧ RAt w' p st' ∧ Keeps W.heap.size p W w' := by
  have ht := wire_take p _ 1 (by omega) hs W h
  have h0 : takeB (some (b :: r)) 1 = (([b], true), some r) := by simp [takeB]
  rw [h0] at ht
  simp only at ht
  have hsr : Small (some r) := small_drop hs 1
  have hb256 := Wire.u8_lt b
  have hz : (ba [b]).size = 1 := rfl
  have hat : ∀ hh : 0 < (ba [b]).size, (ba [b])[0].toNat = b.toNat := fun _ => rfl
  generalize ba [b] = s1 at ht hz hat
  have hpos : 0 < s1.size := by omega
  have hat' := hat hpos
  have hp2 := parse_case b r hb
  have hp3 : b.toNat - 128 > r.length → parse (b :: r) = none := fun hk => by
    rw [parse_cons, if_neg hb, if_neg]; rintro ⟨c1, _⟩; omega
  clear hat h h0
  obtain ⟨k, hk⟩ : ∃ k : Nat, k = b.toNat - 128 := ⟨_, rfl⟩
  rw [← hk] at hp2 hp3
  have hkc : b.toNat = 128 + k := by omega
  have hk128 : k < 128 := by omega
  generalize b.toNat = c at hat' hb hkc
  have hcv1 : IntKind.i64.wrap (c : Int) = c := by simp [IntKind.wrap, IntKind.bits, IntKind.signed]; omega
  have hcv2 : IntKind.i64.wrap ((c : Int) - 128) = k := by simp [IntKind.wrap, IntKind.bits, IntKind.signed]; omega
  have hcv2' : (c : Int) - 128 = k := by omega
  have hcv3 : IntKind.u64.wrap (k : Int) = k := by rw [wrap_u64]; omega
  have ht2 := fun w1 (h1 : RAt w1 p (some r)) => wire_take p _ k (by omega) hsr w1 h1
  have hlt : ¬ c < 128 := by omega
  clear hk hkc hb256
  by_cases hkr : k ≤ r.length
  · have htk : takeB (some r) k = ((r.take k, true), some (r.drop k)) := by simp [takeB, hkr]
    rw [htk] at ht2
    simp only at ht2
    have hp := hp2 hkr _ rfl
    have hbe := fun w => wire_bigEndian (ba (r.take k)) (by rw [ba_size, List.length_take]; omega) w
    rw [ba_list] at hbe
    obtain ⟨m, hm⟩ : ∃ m : Nat, m = big (r.take k) % 18446744073709551616 := ⟨_, rfl⟩
    rw [← hm] at hbe hp
    have hmlt : m < 18446744073709551616 := by omega
    have hbc := wire_byteCount m hmlt
    have hsd : Small (some (r.drop k)) := small_drop hsr k
    generalize ba (r.take k) = s2 at ht2 hbe
    have HP : Hid _ := hp
    clear hp hp2 hp3 hm htk
    by_cases c1 : 128 ≤ m
    · obtain ⟨q, hq⟩ : ∃ q : Nat, q = (dig m).length := ⟨_, rfl⟩
      rw [← hq] at hbc
      by_cases c2 : q = k
      · refine ⟨m, true, some (r.drop k), ⟨hmlt, hsd, ?_⟩, ?_⟩
        · rw [Option.bind_some, HP.out.1 ⟨c1, by rw [← hq, c2]⟩]
          exact ⟨rfl, rfl, rfl⟩
        · clear hq
          subst c2
          have hee : ((q : Int) == (q : Int)) = true := by simp
          go_enter Tryd.func59, Tryd.ntmps59
          simp only [takeFn]
          go_wp2_with (first
            | (go_at_call 60; refine ht.mono ?_; rintro e w1 ⟨rfl, h1, hk1⟩; clear ht; have ht3 := ht2 w1 h1; clear ht2 h1)
            | (go_at_call 60; refine ht3.mono ?_; rintro e w2 ⟨rfl, h2, hk2⟩; clear ht3)
            | (go_at_call 68; refine (hbe _).mono ?_; rintro e w3 ⟨rfl, rfl⟩)
            | (go_at_call 53; refine (hbc _).mono ?_; rintro e w4 ⟨rfl, rfl⟩))
          go_ret2
          exact ⟨rfl, h2, hk1.trans (hk2.mono hk1.size)⟩
      · refine ⟨m, false, some (r.drop k), ⟨hmlt, hsd, ?_⟩, ?_⟩
        · rw [Option.bind_some, HP.out.2 (fun x => c2 (by rw [hq, x.2]))]
        · clear hq
          have hee : ((q : Int) == (k : Int)) = false := by simp; omega
          go_enter Tryd.func59, Tryd.ntmps59
          simp only [takeFn]
          go_wp2_with (first
            | (go_at_call 60; refine ht.mono ?_; rintro e w1 ⟨rfl, h1, hk1⟩; clear ht; have ht3 := ht2 w1 h1; clear ht2 h1)
            | (go_at_call 60; refine ht3.mono ?_; rintro e w2 ⟨rfl, h2, hk2⟩; clear ht3)
            | (go_at_call 68; refine (hbe _).mono ?_; rintro e w3 ⟨rfl, rfl⟩)
            | (go_at_call 53; refine (hbc _).mono ?_; rintro e w4 ⟨rfl, rfl⟩))
          go_ret2
          exact ⟨rfl, h2, hk1.trans (hk2.mono hk1.size)⟩
    · refine ⟨m, false, some (r.drop k), ⟨hmlt, hsd, ?_⟩, ?_⟩
      · rw [Option.bind_some, HP.out.2 (fun x => c1 x.1)]
      · go_enter Tryd.func59, Tryd.ntmps59
        simp only [takeFn]
        go_wp2_with (first
          | (go_at_call 60; refine ht.mono ?_; rintro e w1 ⟨rfl, h1, hk1⟩; clear ht; have ht3 := ht2 w1 h1; clear ht2 h1)
          | (go_at_call 60; refine ht3.mono ?_; rintro e w2 ⟨rfl, h2, hk2⟩; clear ht3)
          | (go_at_call 68; refine (hbe _).mono ?_; rintro e w3 ⟨rfl, rfl⟩))
        go_ret2
        exact ⟨rfl, h2, hk1.trans (hk2.mono hk1.size)⟩
  · have htk : takeB (some r) k = (([], false), some r) := by simp [takeB, hkr]
    rw [htk] at ht2
    simp only at ht2
    have hp := hp3 (by omega)
    have hbe := fun w => wire_bigEndian (ba []) (by decide) w
    rw [ba_list] at hbe
    clear hp2 hp3 htk
    refine ⟨0, false, some r, ⟨by omega, hsr, ?_⟩, ?_⟩
    · rw [Option.bind_some, hp]
    · clear hp
      go_enter Tryd.func59, Tryd.ntmps59
      simp only [takeFn]
      go_wp2_with (first
        | (go_at_call 60; refine ht.mono ?_; rintro e w1 ⟨rfl, h1, hk1⟩; clear ht; have ht3 := ht2 w1 h1; clear ht2 h1)
        | (go_at_call 60; refine ht3.mono ?_; rintro e w2 ⟨rfl, h2, hk2⟩; clear ht3)
        | (go_at_call 68; refine (hbe _).mono ?_; rintro e w3 ⟨rfl, rfl⟩))
      go_ret2
      exact ⟨rfl, h2, hk1.trans (hk2.mono hk1.size)⟩

theorem wire_readNumber (p : Option Nat) (st : St) (hs : Small st) (W : World) (h : RAt W p st) :
    ∃ n ok st', ReadSaid st n ok st' ∧ Calls Tryd.prog 59 #[takeFn p] W fun e w' => e = .returned (.tuple #[.int .u64 (n : Nat), .bool ok]) ∧ RAt w' p st' ∧ Keeps W.heap.size p W w' := by
  match st, hs, h with
  | none, hs, h => exact ⟨0, false, none, ⟨by omega, small_none, rfl⟩, readNumber_none p none hs rfl W h⟩
  | some [], hs, h => exact ⟨0, false, some [], ⟨by omega, hs, rfl⟩, readNumber_none p (some []) hs rfl W h⟩
  | some (b :: r), hs, h =>
    by_cases hb : b.toNat < 128
    · refine ⟨b.toNat, true, some r, ⟨by have := Wire.u8_lt b; omega, small_drop hs 1, ?_⟩, readNumber_small p b r hs hb W h⟩
      rw [Option.bind_some, parse_cons, if_pos hb]
      exact ⟨rfl, rfl, rfl⟩
    · exact readNumber_great p b r hs hb W h

end Go.Proofs.YtdhdfngaldfdjaaDoor
