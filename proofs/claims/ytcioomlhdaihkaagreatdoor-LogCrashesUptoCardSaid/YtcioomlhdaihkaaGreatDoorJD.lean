/-
  Contracts of package wire: the readers.
-/
import Derived.Test.YtcioomlhdaihkaaGreatDoorJW
import Derived.Deep.RegionHeld3
import Derived.WalkLawsBesides
import Derived.Deep.RegionWith
import Derived.Laws.StructEq
import Derived.DeepKeys
namespace Go.Proofs.YtcioomlhdaihkaaGreatDoor
open Go Go.RowKit Wire

set_option maxRecDepth 100000
set_option linter.unusedVariables false
set_option linter.unusedSimpArgs false
set_option maxRecDepth 100000
set_option linter.unusedVariables false
set_option linter.unusedSimpArgs false
set_option maxRecDepth 100000
set_option linter.unusedVariables false
set_option linter.unusedSimpArgs false
def rcells : St → Array Value
  | some l => #[.string (ba l), .bool true]
  | none => #[.string ⟨#[]⟩, .bool false]
/-- The reader (none: the nil pointer) has the bytes that are left, or failed. -/
def RAt (w : World) : Option Nat → St → Prop
  | some g, st => w.heap[g]? = some (.cells (rcells st) 235 (0, 0))
  | none, st => st = none
def rptr (p : Option Nat) : Value := .pointer (p.map fun g => ⟨g, 0, none⟩)
/-- Few enough bytes. -/
def Small (st : St) : Prop := (st.getD []).length ≤ 1000000

theorem RAt.keep {w w' : World} {p : Option Nat} {st : St} (h : RAt w p st) (hb : Below w.heap.size w w') : RAt w' p st := by
  cases p with
  | none => exact h
  | some g => exact (hb.block g (lt_of_some h)).trans h

theorem wire_Fine (p : Option Nat) (st : St) (W : World) (h : RAt W p st) :
    Calls Tryz.prog 195 #[rptr p] W fun e w' => e = .returned (.bool st.isSome) ∧ W = w' := by
  cases p with
  | none =>
    obtain rfl : st = none := h
    go_enter Tryz.func195, Tryz.ntmps195
    simp only [rptr, Option.map]
    go_wp2
    go_ret
    exact ⟨rfl, rfl⟩
  | some g =>
    have hc : W.cell? ⟨g, 1, none⟩ = some (.bool st.isSome) := (cell_of_heap h).trans (by cases st <;> rfl)
    go_enter Tryz.func195, Tryz.ntmps195
    simp only [rptr, Option.map]
    go_wp2
    go_ret
    exact ⟨rfl, rfl⟩

theorem wire_Left (p : Option Nat) (st : St) (W : World) (h : RAt W p st) :
    Calls Tryz.prog 194 #[rptr p] W fun e w' => e = .returned (.int .i64 ((st.getD []).length : Nat)) ∧ W = w' := by
  have hf := wire_Fine p st W h
  cases st with
  | none =>
    go_enter Tryz.func194, Tryz.ntmps194
    go_wp2_with (go_at_call 195; refine hf.mono ?_; rintro e w1 ⟨rfl, rfl⟩)
    go_ret
    exact ⟨rfl, rfl⟩
  | some l =>
    cases p with
    | none => cases h
    | some g =>
      have hc : W.cell? ⟨g, 0, none⟩ = some (.string (ba l)) := (cell_of_heap h).trans rfl
      have hs := ba_size l
      go_enter Tryz.func194, Tryz.ntmps194
      simp only [rptr, Option.map] at hf ⊢
      go_wp2_with (go_at_call 195; refine hf.mono ?_; rintro e w1 ⟨rfl, rfl⟩)
      go_ret
      exact ⟨rfl, rfl⟩

/-- Is the reader at its end? -/
def endOf (st : St) : Int := if st = some [] then 0 else 5
/-- Bytes are taken. -/
def takeB (st : St) (n : Nat) : (List UInt8 × Bool) × St :=
  match st with
  | some l => if n ≤ l.length then ((l.take n, true), some (l.drop n)) else (([], false), some l)
  | none => (([], false), none)

theorem ba_extract_to (l : List UInt8) (n : Nat) : (ba l).extract 0 n = ba (l.take n) := toList_inj (by rw [Lib.extract_data]; simp [ba_list])
theorem ba_extract_from (l : List UInt8) (n : Nat) : (ba l).extract n l.length = ba (l.drop n) := toList_inj (by rw [Lib.extract_data, ba_list, ba_list]; exact List.take_of_length_le (by simp))

set_option maxRecDepth 100000 in
theorem wire_take (p : Option Nat) (st : St) (n : Nat) (hn : n < 18446744073709551616) (hs : Small st) (W : World) (h : RAt W p st) :
    Calls Tryz.prog 204 #[rptr p, .int .u64 n] W fun e w' => e = .returned (.tuple #[.string (ba (takeB st n).1.1), .bool (takeB st n).1.2]) ∧ RAt w' p (takeB st n).2 ∧ Keeps W.heap.size p W w' := by
  have hf := wire_Fine p st W h
  cases st with
  | none =>
    go_enter Tryz.func204, Tryz.ntmps204
    go_wp2_with (go_at_call 195; refine hf.mono ?_; rintro e w1 ⟨rfl, rfl⟩)
    go_ret2
    exact ⟨rfl, h, Keeps.refl _ _ _⟩
  | some l =>
    cases p with
    | none => cases h
    | some g =>
      have hc : W.cell? ⟨g, 0, none⟩ = some (.string (ba l)) := (cell_of_heap h).trans rfl
      have hfr : W.frozen? ⟨g, 0, none⟩ = false := free_of_heap h
      have hsz := ba_size l
      have hl : l.length ≤ 1000000 := hs
      have hcv : IntKind.u64.wrap (l.length : Int) = l.length := by rw [wrap_u64]; omega
      by_cases hle : n ≤ l.length
      · have he1 := ba_extract_to l n
        have he2 := ba_extract_from l n
        have hw : IntKind.i64.wrap (n : Int) = n := by simp [IntKind.wrap, IntKind.bits, IntKind.signed]; omega
        have ht : takeB (some l) n = ((l.take n, true), some (l.drop n)) := by simp [takeB, hle]
        rw [ht]
        have HH : Hid _ := h
        clear h ht
        go_enter Tryz.func204, Tryz.ntmps204
        simp only [rptr, Option.map] at hf ⊢
        go_wp2_with (go_at_call 195; refine hf.mono ?_; rintro e w1 ⟨rfl, rfl⟩)
        go_ret2
        refine ⟨rfl, ?_, Keeps.setCell _ _ ⟨g, 0, none⟩ _⟩
        show (W.setCell ⟨g, 0, none⟩ (.string (ba (l.drop n)))).heap[g]? = _
        rw [heap_setCell_same _ _ _ _ _ _ HH.out]; rfl
      · have ht : takeB (some l) n = (([], false), some l) := by simp [takeB, hle]
        rw [ht]
        have HH : Hid _ := h
        clear h ht
        go_enter Tryz.func204, Tryz.ntmps204
        simp only [rptr, Option.map] at hf ⊢
        go_wp2_with (go_at_call 195; refine hf.mono ?_; rintro e w1 ⟨rfl, rfl⟩)
        go_ret2
        exact ⟨rfl, HH.out, Keeps.refl _ _ _⟩

theorem RAt.failed {W : World} {g : Nat} {st : St} (h : RAt W (some g) st) :
    RAt ((W.setCell ⟨g, 0, none⟩ (.string ⟨#[]⟩)).setCell ⟨g, 1, none⟩ (.bool false)) (some g) none ∧ Keeps W.heap.size (some g) W ((W.setCell ⟨g, 0, none⟩ (.string ⟨#[]⟩)).setCell ⟨g, 1, none⟩ (.bool false)) := by
  have h' : W.heap[g]? = some (.cells (rcells st) 235 (0, 0)) := h
  refine ⟨?_, (Keeps.setCell _ _ ⟨g, 0, none⟩ _).trans (Keeps.setCell _ _ ⟨g, 1, none⟩ _)⟩
  show ((W.setCell ⟨g, 0, none⟩ (.string ⟨#[]⟩)).setCell ⟨g, 1, none⟩ (.bool false)).heap[g]? = _
  rw [heap_setCell_same _ _ _ _ _ _ (heap_setCell_same _ _ _ _ _ _ h')]
  cases st <;> rfl

theorem result_num (p : Option Nat) (st : St) (n : Nat) (b : Bool) (W : World) (h : RAt W p st) :
    Calls Tryz.prog 205 #[rptr p, .int .u64 n, .bool b] W fun e w' => e = .returned (.int .u64 ((if b then n else 0 : Nat) : Int)) ∧ RAt w' p (if b then st else none) ∧ Keeps W.heap.size p W w' := by
  cases b with
  | true =>
    have HH : Hid _ := h
    clear h
    go_enter Tryz.func205, Tryz.ntmps205
    go_wp2
    go_ret
    exact ⟨rfl, HH.out, Keeps.refl _ _ _⟩
  | false =>
    cases p with
    | none =>
      obtain rfl : st = none := h
      go_enter Tryz.func205, Tryz.ntmps205
      simp only [rptr, Option.map]
      go_wp2
      go_ret
      exact ⟨rfl, rfl, Keeps.refl _ _ _⟩
    | some g =>
      have hr := h.failed
      have h' : W.heap[g]? = some (.cells (rcells st) 235 (0, 0)) := h
      obtain ⟨x, y, hxy⟩ : ∃ x y, rcells st = #[x, y] := by cases st <;> exact ⟨_, _, rfl⟩
      rw [hxy] at h'
      have hc0 : W.cell? ⟨g, 0, none⟩ = some x := (cell_of_heap h').trans rfl
      have hc1 : W.cell? ⟨g, 1, none⟩ = some y := (cell_of_heap h').trans rfl
      have hf0 : W.frozen? ⟨g, 0, none⟩ = false := free_of_heap h'
      have hf1 : W.frozen? ⟨g, 1, none⟩ = false := free_of_heap h'
      have HR : Hid _ := hr
      clear hr h h' hxy
      go_enter Tryz.func205, Tryz.ntmps205
      simp only [rptr, Option.map]
      go_wp2
      go_ret
      exact ⟨rfl, HR.out.1, HR.out.2⟩

theorem parse_case (b : UInt8) (r : List UInt8) (hb : ¬ b.toNat < 128) (hk : b.toNat - 128 ≤ r.length) (m : Nat) (hm : m = big (r.take (b.toNat - 128)) % 18446744073709551616) :
    (128 ≤ m ∧ (dig m).length = b.toNat - 128 → parse (b :: r) = some (m, r.drop (b.toNat - 128))) ∧ (¬ (128 ≤ m ∧ (dig m).length = b.toNat - 128) → parse (b :: r) = none) := by
  have hlt : m < 18446744073709551616 := by omega
  have hlen : (r.take (b.toNat - 128)).length = b.toNat - 128 := by simp; omega
  have small : b.toNat - 128 ≤ 8 → m = big (r.take (b.toNat - 128)) := fun h8 => by
    have h1 := big_lt (r.take (b.toNat - 128))
    rw [hlen] at h1
    have h2 := Nat.pow_le_pow_right (show 0 < 256 by omega) h8
    rw [hm]
    exact Nat.mod_eq_of_lt (Nat.lt_of_lt_of_le h1 (by simpa using h2))
  refine ⟨fun ⟨h1, h2⟩ => ?_, fun h => ?_⟩
  · have h8 := dig_len8 hlt
    have he := small (by omega)
    rw [parse_cons, if_neg hb, ← he, if_pos ⟨hk, h1, h2, by omega⟩]
  · rw [parse_cons, if_neg hb, if_neg]
    rintro ⟨c1, c2, c3, c4⟩
    have he := small c4
    rw [← he] at c2 c3
    exact h ⟨c2, c3⟩

/-- What reading a number says of the state. -/
def ReadSaid (st : St) (n : Nat) (ok : Bool) (st' : St) : Prop :=
  n < 18446744073709551616 ∧ Small st' ∧ (match st.bind parse with | some (m, r) => n = m ∧ ok = true ∧ st' = some r | none => ok = false)

def takeFn (p : Option Nat) : Value := .func (.func 204) #[rptr p] #[]

set_option maxRecDepth 100000 in
theorem readNumber_none (p : Option Nat) (st : St) (hs : Small st) (he : st.getD [] = []) (W : World) (h : RAt W p st) :
    Calls Tryz.prog 203 #[takeFn p] W fun e w' => e = .returned (.tuple #[.int .u64 0, .bool false]) ∧ RAt w' p st ∧ Keeps W.heap.size p W w' := by
  have ht := wire_take p st 1 (by omega) hs W h
  have h0 : takeB st 1 = (([], false), st) := by
    cases st with
    | none => rfl
    | some l => obtain rfl : l = [] := he
                rfl
  rw [h0] at ht
  have HH : Hid _ := h
  clear h h0
  go_enter Tryz.func203, Tryz.ntmps203
  simp only [takeFn]
  go_wp2_with (go_at_call 204; refine ht.mono ?_; rintro e w1 ⟨rfl, h1, hk1⟩)
  go_ret2
  exact ⟨rfl, h1, hk1⟩

end Go.Proofs.YtcioomlhdaihkaaGreatDoor

/-
  Contracts of package wire: what is read.
-/
namespace Go.Proofs.YtcioomlhdaihkaaGreatDoor
open Go Go.RowKit Wire

set_option maxRecDepth 100000
set_option linter.unusedVariables false
set_option linter.unusedSimpArgs false
theorem small_drop {l : List UInt8} (h : Small (some l)) (n : Nat) : Small (some (l.drop n)) := by
  have h' : l.length ≤ 1000000 := h
  show (l.drop n).length ≤ 1000000
  rw [List.length_drop]; omega
theorem small_none : Small none := Nat.zero_le _

set_option maxRecDepth 100000 in
theorem readNumber_small (p : Option Nat) (b : UInt8) (r : List UInt8) (hs : Small (some (b :: r))) (hb : b.toNat < 128) (W : World) (h : RAt W p (some (b :: r))) :
    Calls Tryz.prog 203 #[takeFn p] W fun e w' => e = .returned (.tuple #[.int .u64 (b.toNat : Nat), .bool true]) ∧ RAt w' p (some r) ∧ Keeps W.heap.size p W w' := by
  have ht := wire_take p _ 1 (by omega) hs W h
  have h0 : takeB (some (b :: r)) 1 = (([b], true), some r) := by simp [takeB]
  rw [h0] at ht
  simp only at ht
  have hz : (ba [b]).size = 1 := rfl
  have hat : ∀ hh : 0 < (ba [b]).size, (ba [b])[0].toNat = b.toNat := fun _ => rfl
  generalize ba [b] = s1 at ht hz hat
  have hpos : 0 < s1.size := by omega
  have hat' := hat hpos
  generalize b.toNat = c at hat' hb
  clear hat h h0
  have hcv : IntKind.u64.wrap (c : Int) = c := by rw [wrap_u64]; omega
  go_enter Tryz.func203, Tryz.ntmps203
  simp only [takeFn]
  go_wp2_with (go_at_call 204; refine ht.mono ?_; rintro e w1 ⟨rfl, h1, hk1⟩)
  go_ret2
  exact ⟨rfl, h1, hk1⟩

set_option maxHeartbeats 4000000 in
set_option maxRecDepth 100000 in
theorem readNumber_great (p : Option Nat) (b : UInt8) (r : List UInt8) (hs : Small (some (b :: r))) (hb : ¬ b.toNat < 128) (W : World) (h : RAt W p (some (b :: r))) :
    ∃ n ok st', ReadSaid (some (b :: r)) n ok st' ∧ Calls Tryz.prog 203 #[takeFn p] W fun e w' => e = .returned (.tuple #[.int .u64 (n : Nat), .bool ok]) ∧ RAt w' p st' ∧ Keeps W.heap.size p W w' := by
  have ht := wire_take p _ 1 (by omega) hs W h
  have h0 : takeB (some (b :: r)) 1 = (([b], true), some r) := by simp [takeB]
  rw [h0] at ht
  simp only at ht
  have hsr : Small (some r) := small_drop hs 1
  have hb256 := Wire.u8_lt b
  have hz : (ba [b]).size = 1 := rfl
  have hat : ∀ hh : 0 < (ba [b]).size, (ba [b])[0].toNat = b.toNat := fun _ => rfl
  generalize ba [b] = s1 at ht hz hat
  have hpos : 0 < s1.size := by omega
  have hat' := hat hpos
  have hp2 := parse_case b r hb
  have hp3 : b.toNat - 128 > r.length → parse (b :: r) = none := fun hk => by
    rw [parse_cons, if_neg hb, if_neg]; rintro ⟨c1, _⟩; omega
  clear hat h h0
  obtain ⟨k, hk⟩ : ∃ k : Nat, k = b.toNat - 128 := ⟨_, rfl⟩
  rw [← hk] at hp2 hp3
  have hkc : b.toNat = 128 + k := by omega
  have hk128 : k < 128 := by omega
  generalize b.toNat = c at hat' hb hkc
  have hcv1 : IntKind.i64.wrap (c : Int) = c := by simp [IntKind.wrap, IntKind.bits, IntKind.signed]; omega
  have hcv2 : IntKind.i64.wrap ((c : Int) - 128) = k := by simp [IntKind.wrap, IntKind.bits, IntKind.signed]; omega
  have hcv2' : (c : Int) - 128 = k := by omega
  have hcv3 : IntKind.u64.wrap (k : Int) = k := by rw [wrap_u64]; omega
  have ht2 := fun w1 (h1 : RAt w1 p (some r)) => wire_take p _ k (by omega) hsr w1 h1
  have hlt : ¬ c < 128 := by omega
  clear hk hkc hb256
  by_cases hkr : k ≤ r.length
  · have htk : takeB (some r) k = ((r.take k, true), some (r.drop k)) := by simp [takeB, hkr]
    rw [htk] at ht2
    simp only at ht2
    have hp := hp2 hkr _ rfl
    have hbe := fun w => wire_bigEndian (ba (r.take k)) (by rw [ba_size, List.length_take]; omega) w
    rw [ba_list] at hbe
    obtain ⟨m, hm⟩ : ∃ m : Nat, m = big (r.take k) % 18446744073709551616 := ⟨_, rfl⟩
    rw [← hm] at hbe hp
    have hmlt : m < 18446744073709551616 := by omega
    have hbc := wire_byteCount m hmlt
    have hsd : Small (some (r.drop k)) := small_drop hsr k
    generalize ba (r.take k) = s2 at ht2 hbe
    have HP : Hid _ := hp
    clear hp hp2 hp3 hm htk
    by_cases c1 : 128 ≤ m
    · obtain ⟨q, hq⟩ : ∃ q : Nat, q = (dig m).length := ⟨_, rfl⟩
      rw [← hq] at hbc
      by_cases c2 : q = k
      · refine ⟨m, true, some (r.drop k), ⟨hmlt, hsd, ?_⟩, ?_⟩
        · rw [Option.bind_some, HP.out.1 ⟨c1, by rw [← hq, c2]⟩]
          exact ⟨rfl, rfl, rfl⟩
        · clear hq
          subst c2
          have hee : ((q : Int) == (q : Int)) = true := by simp
          go_enter Tryz.func203, Tryz.ntmps203
          simp only [takeFn]
          go_wp2_with (first
            | (go_at_call 204; refine ht.mono ?_; rintro e w1 ⟨rfl, h1, hk1⟩; clear ht; have ht3 := ht2 w1 h1; clear ht2 h1)
            | (go_at_call 204; refine ht3.mono ?_; rintro e w2 ⟨rfl, h2, hk2⟩; clear ht3)
            | (go_at_call 207; refine (hbe _).mono ?_; rintro e w3 ⟨rfl, rfl⟩)
            | (go_at_call 125; refine (hbc _).mono ?_; rintro e w4 ⟨rfl, rfl⟩))
          go_ret2
          exact ⟨rfl, h2, hk1.trans (hk2.mono hk1.size)⟩
      · refine ⟨m, false, some (r.drop k), ⟨hmlt, hsd, ?_⟩, ?_⟩
        · rw [Option.bind_some, HP.out.2 (fun x => c2 (by rw [hq, x.2]))]
        · clear hq
          have hee : ((q : Int) == (k : Int)) = false := by simp; omega
          go_enter Tryz.func203, Tryz.ntmps203
          simp only [takeFn]
          go_wp2_with (first
            | (go_at_call 204; refine ht.mono ?_; rintro e w1 ⟨rfl, h1, hk1⟩; clear ht; have ht3 := ht2 w1 h1; clear ht2 h1)
            | (go_at_call 204; refine ht3.mono ?_; rintro e w2 ⟨rfl, h2, hk2⟩; clear ht3)
            | (go_at_call 207; refine (hbe _).mono ?_; rintro e w3 ⟨rfl, rfl⟩)
            | (go_at_call 125; refine (hbc _).mono ?_; rintro e w4 ⟨rfl, rfl⟩))
          go_ret2
          exact ⟨rfl, h2, hk1.trans (hk2.mono hk1.size)⟩
    · refine ⟨m, false, some (r.drop k), ⟨hmlt, hsd, ?_⟩, ?_⟩
      · rw [Option.bind_some, HP.out.2 (fun x => c1 x.1)]
      · go_enter Tryz.func203, Tryz.ntmps203
        simp only [takeFn]
        go_wp2_with (first
          | (go_at_call 204; refine ht.mono ?_; rintro e w1 ⟨rfl, h1, hk1⟩; clear ht; have ht3 := ht2 w1 h1; clear ht2 h1)
          | (go_at_call 204; refine ht3.mono ?_; rintro e w2 ⟨rfl, h2, hk2⟩; clear ht3)
          | (go_at_call 207; refine (hbe _).mono ?_; rintro e w3 ⟨rfl, rfl⟩))
        go_ret2
        exact ⟨rfl, h2, hk1.trans (hk2.mono hk1.size)⟩
  · have htk : takeB (some r) k = (([], false), some r) := by simp [takeB, hkr]
    rw [htk] at ht2
    simp only at ht2
    have hp := hp3 (by omega)
    have hbe := fun w => wire_bigEndian (ba []) (by decide) w
    rw [ba_list] at hbe
    clear hp2 hp3 htk
    refine ⟨0, false, some r, ⟨by omega, hsr, ?_⟩, ?_⟩
    · rw [Option.bind_some, hp]
    · clear hp
      go_enter Tryz.func203, Tryz.ntmps203
      simp only [takeFn]
      go_wp2_with (first
        | (go_at_call 204; refine ht.mono ?_; rintro e w1 ⟨rfl, h1, hk1⟩; clear ht; have ht3 := ht2 w1 h1; clear ht2 h1)
        | (go_at_call 204; refine ht3.mono ?_; rintro e w2 ⟨rfl, h2, hk2⟩; clear ht3)
        | (go_at_call 207; refine (hbe _).mono ?_; rintro e w3 ⟨rfl, rfl⟩))
      go_ret2
      exact ⟨rfl, h2, hk1.trans (hk2.mono hk1.size)⟩

theorem wire_readNumber (p : Option Nat) (st : St) (hs : Small st) (W : World) (h : RAt W p st) :
    ∃ n ok st', ReadSaid st n ok st' ∧ Calls Tryz.prog 203 #[takeFn p] W fun e w' => e = .returned (.tuple #[.int .u64 (n : Nat), .bool ok]) ∧ RAt w' p st' ∧ Keeps W.heap.size p W w' := by
  match st, hs, h with
  | none, hs, h => exact ⟨0, false, none, ⟨by omega, small_none, rfl⟩, readNumber_none p none hs rfl W h⟩
  | some [], hs, h => exact ⟨0, false, some [], ⟨by omega, hs, rfl⟩, readNumber_none p (some []) hs rfl W h⟩
  | some (b :: r), hs, h =>
    by_cases hb : b.toNat < 128
    · refine ⟨b.toNat, true, some r, ⟨by have := Wire.u8_lt b; omega, small_drop hs 1, ?_⟩, readNumber_small p b r hs hb W h⟩
      rw [Option.bind_some, parse_cons, if_pos hb]
      exact ⟨rfl, rfl, rfl⟩
    · exact readNumber_great p b r hs hb W h

end Go.Proofs.YtcioomlhdaihkaaGreatDoor

/-
  Contracts of package wire: the readers' methods.
-/
namespace Go.Proofs.YtcioomlhdaihkaaGreatDoor
open Go Go.RowKit Wire

set_option maxRecDepth 100000
set_option linter.unusedVariables false
set_option linter.unusedSimpArgs false
theorem small_takeNum {st : St} (hs : Small st) (most : Nat) : Small (takeNum st most).2 := by
  cases h : (takeNum st most).2 with
  | none => exact small_none
  | some r =>
    obtain ⟨l, rfl, hl⟩ := takeNum_st h
    have h' : l.length ≤ 1000000 := hs
    show r.length ≤ 1000000
    omega

set_option maxHeartbeats 1000000 in
set_option maxRecDepth 100000 in
theorem wire_Num (p : Option Nat) (st : St) (most : Nat) (hs : Small st) (W : World) (h : RAt W p st) :
    Calls Tryz.prog 193 #[rptr p, .int .u64 most] W fun e w' => e = .returned (.int .u64 ((takeNum st most).1 : Nat)) ∧ RAt w' p (takeNum st most).2 ∧ Keeps W.heap.size p W w' := by
  obtain ⟨n, ok, st', ⟨hn, hs', hsaid⟩, hcall⟩ := wire_readNumber p st hs W h
  have hres := fun b w1 (h1 : RAt w1 p st') => result_num p st' n b w1 h1
  have goal1 : ok = true → n ≤ most → takeNum st most = (n, st') := fun e1 e2 => by
    subst e1
    unfold takeNum
    split at hsaid
    · rename_i m r he
      obtain ⟨rfl, _, rfl⟩ := hsaid
      rw [he]; simp [e2]
    · cases hsaid
  have goal2 : ¬ (ok = true ∧ n ≤ most) → takeNum st most = (0, none) := fun e => by
    unfold takeNum
    split at hsaid
    · rename_i m r he
      obtain ⟨rfl, rfl, rfl⟩ := hsaid
      rw [he]; simp only [if_neg (fun x => e ⟨rfl, x⟩)]
    · rename_i he
      rw [he]
  clear hsaid h
  unfold takeFn at hcall
  cases ok with
  | true =>
    by_cases hle : n ≤ most
    · rw [goal1 rfl hle]
      have hr1 := hres true
      clear hres goal1 goal2
      go_enter Tryz.func193, Tryz.ntmps193
      go_wp2_with (first
        | (go_at_call 203; refine hcall.mono ?_; rintro e w1 ⟨rfl, h1, hk1⟩; clear hcall; have hr2 := hr1 w1 h1; clear hr1 h1)
        | (go_at_call 205; refine hr2.mono ?_; rintro e w2 ⟨rfl, h2, hk2⟩))
      go_ret
      exact ⟨rfl, h2, hk1.trans (hk2.mono hk1.size)⟩
    · rw [goal2 (fun x => hle x.2)]
      have hr1 := hres false
      clear hres goal1 goal2
      go_enter Tryz.func193, Tryz.ntmps193
      go_wp2_with (first
        | (go_at_call 203; refine hcall.mono ?_; rintro e w1 ⟨rfl, h1, hk1⟩; clear hcall; have hr2 := hr1 w1 h1; clear hr1 h1)
        | (go_at_call 205; refine hr2.mono ?_; rintro e w2 ⟨rfl, h2, hk2⟩))
      go_ret
      exact ⟨rfl, h2, hk1.trans (hk2.mono hk1.size)⟩
  | false =>
    rw [goal2 (fun x => by cases x.1)]
    have hr1 := hres false
    clear hres goal1 goal2
    go_enter Tryz.func193, Tryz.ntmps193
    go_wp2_with (first
      | (go_at_call 203; refine hcall.mono ?_; rintro e w1 ⟨rfl, h1, hk1⟩; clear hcall; have hr2 := hr1 w1 h1; clear hr1 h1)
      | (go_at_call 205; refine hr2.mono ?_; rintro e w2 ⟨rfl, h2, hk2⟩))
    go_ret
    exact ⟨rfl, h2, hk1.trans (hk2.mono hk1.size)⟩

theorem takeText_is (st : St) (most : Int) : takeText st most = ((if (takeB (takeNum st most.toNat).2 (takeNum st most.toNat).1).1.2 then (takeB (takeNum st most.toNat).2 (takeNum st most.toNat).1).1.1 else []), (if (takeB (takeNum st most.toNat).2 (takeNum st most.toNat).1).1.2 then (takeB (takeNum st most.toNat).2 (takeNum st most.toNat).1).2 else none)) := by
  unfold takeText takeB
  cases h : (takeNum st most.toNat).2 with
  | none => simp
  | some r =>
    by_cases hl : (takeNum st most.toNat).1 ≤ r.length
    · simp [hl]
    · simp [hl]
theorem takeB_len {st : St} (hs : Small st) (n : Nat) : (takeB st n).1.1.length ≤ 1000000 := by
  cases st with
  | none => simp [takeB]
  | some l =>
    have h' : l.length ≤ 1000000 := hs
    by_cases hn : n ≤ l.length
    · have e : takeB (some l) n = ((l.take n, true), some (l.drop n)) := by simp [takeB, hn]
      rw [e]
      show (l.take n).length ≤ 1000000
      rw [List.length_take]; omega
    · have e : takeB (some l) n = (([], false), some l) := by simp [takeB, hn]
      rw [e]; exact Nat.zero_le _

theorem last_two (W : World) (a b : Obj) : ((W.alloc a).alloc b).heap[W.heap.size + 1]? = some b := by
  have := heap_alloc_last (W.alloc a) b
  rw [World.size_alloc] at this
  exact this
theorem mid_three (W : World) (a b c : Obj) : (((W.alloc a).alloc b).alloc c).heap[W.heap.size + 1]? = some b := by
  rw [Below.heap_alloc _ _ _ (by simp)]; exact last_two W a b
theorem below_three (W : World) (a b c : Obj) : Below W.heap.size W (((W.alloc a).alloc b).alloc c) := (((Below.refl _ W).alloc (Nat.le_refl _) a).alloc (by simp) b).alloc (by simp; omega) c
/-- The reader behind a failure. -/
def fallen (W : World) (g : Nat) : World := (W.setCell ⟨g, 0, none⟩ (.string ⟨#[]⟩)).setCell ⟨g, 1, none⟩ (.bool false)
theorem fallen_size (W : World) (g : Nat) : (fallen W g).heap.size = W.heap.size := by simp [fallen, World.setCell]
theorem mid_fallen (W : World) (g : Nat) (a b c : Obj) : ((((fallen W g).alloc a).alloc b).alloc c).heap[W.heap.size + 1]? = some b := by
  have := mid_three (fallen W g) a b c
  rw [fallen_size] at this; exact this
theorem below_fallen (W : World) (g : Nat) (a b c : Obj) {st : St} (h : RAt W (some g) st) : RAt ((((fallen W g).alloc a).alloc b).alloc c) (some g) none ∧ Keeps W.heap.size (some g) W ((((fallen W g).alloc a).alloc b).alloc c) :=
  ⟨RAt.keep (p := some g) h.failed.1 (below_three _ _ _ _), h.failed.2.trans ((below_three (fallen W g) a b c).keeps _ _ (by rw [fallen_size]; exact Nat.le_refl _))⟩
theorem row_two (W : World) (a : Obj) (z c : Array Value) (t : TypeId) : ((W.alloc a).alloc (.cells z t)).setRow (W.heap.size + 1) c = (W.alloc a).alloc (.cells c t) := by
  have := World.setRow_alloc_new (W.alloc a) z c t
  rw [World.size_alloc] at this
  exact this
theorem below_two (W : World) (a b : Obj) : Below W.heap.size W ((W.alloc a).alloc b) := ((Below.refl _ W).alloc (Nat.le_refl _) a).alloc (by simp) b

end Go.Proofs.YtcioomlhdaihkaaGreatDoor

/-
  Contracts of package wire: dots and vectors read; a reader made.
-/
namespace Go.Proofs.YtcioomlhdaihkaaGreatDoor
open Go Go.RowKit Wire

set_option maxRecDepth 100000
set_option linter.unusedVariables false
set_option linter.unusedSimpArgs false
theorem RAt.lt {W : World} {p : Option Nat} {st : St} (h : RAt W p st) : some W.heap.size ≠ p ∧ some (W.heap.size + 1) ≠ p := by
  cases p with
  | none => simp
  | some g =>
    have := lt_of_some h
    constructor <;> simp <;> omega
theorem RAt.drew {W : World} {p : Option Nat} {st : St} (h : RAt W p st) : RAt W.drew p st := by
  cases p with
  | none => exact h
  | some g => exact h
theorem Keeps.setRow {W w : World} {p : Option Nat} (h : Keeps W.heap.size p W w) (g : Nat) (hg : W.heap.size ≤ g) (cs : Array Value) : Keeps W.heap.size p W (w.setRow g cs) :=
  ⟨h.os, h.tape, h.output, by simpa using h.size, fun k hk hp => (setRow_other w g k cs (by omega)).trans (h.block k hk hp),
    fun k c t fr hk ht hp => (setRow_other w g k cs (by have := lt_of_some hk; omega)).trans (h.other k c t fr hk ht hp)⟩
theorem RAt.setRow {w : World} {p : Option Nat} {st : St} (h : RAt w p st) {g : Nat} (hg : some g ≠ p) (cs : Array Value) : RAt (w.setRow g cs) p st := by
  cases p with
  | none => exact h
  | some q => exact (setRow_other w g q cs (fun e => hg (by rw [e]))).trans h

theorem takeDot_is (st : St) : takeDot st = ((if (takeNum (takeNum st m8).2 m32).2.isSome then ((takeNum st m8).1, (takeNum (takeNum st m8).2 m32).1) else (0, 0)), (takeNum (takeNum st m8).2 m32).2) := by
  unfold takeDot
  cases h : (takeNum (takeNum st m8).2 m32).2 with
  | none => rfl
  | some r => rfl
def dcells (d : Nat × Nat) : Array Value := #[.int .u8 (d.1 : Int), .int .u32 (d.2 : Int)]

theorem wire_Open (s : ByteArray) (hs : s.size ≤ 1000000) (W : World) :
    Calls Tryz.prog 192 #[.string s] W fun e w' => ∃ g, e = .returned (.pointer (some ⟨g, 0, none⟩)) ∧ W.heap.size ≤ g ∧ RAt w' (some g) (some s.data.toList) ∧ Below W.heap.size W w' := by
  go_enter Tryz.func192, Tryz.ntmps192
  go_wp2_with (go_at_call 31; refine (strings_Clone s _ hs).mono ?_; rintro e w1 ⟨rfl, hb1⟩)
  go_ret
  refine ⟨w1.heap.size, rfl, hb1.size, ?_, hb1.alloc hb1.size _⟩
  show (w1.alloc _).heap[w1.heap.size]? = _
  rw [heap_alloc_last]
  show _ = some (Obj.cells #[.string (ba s.data.toList), .bool true] _ _)
  rw [ba_of]

/-- The vector's cells behind k numbers. -/
def vrow (k : Nat) (st : St) : Array Value := vcells ((vecGo k st).1 ++ List.replicate (8 - k) 0)
theorem vrow_zero (st : St) : vrow 0 st = #[.int .u32 0, .int .u32 0, .int .u32 0, .int .u32 0, .int .u32 0, .int .u32 0, .int .u32 0, .int .u32 0] := rfl
theorem vrow_size (k : Nat) (hk : k ≤ 8) (st : St) : (vrow k st).size = 8 := by
  unfold vrow; rw [vcells_size, List.length_append, vecGo_len, List.length_replicate]; omega
theorem vcells_set (l : List Nat) (m n : Nat) : (vcells (l ++ List.replicate (m + 1) 0)).setIfInBounds l.length (.int .u32 (n : Int)) = vcells ((l ++ [n]) ++ List.replicate m 0) := by
  unfold vcells
  simp [List.replicate_succ]
theorem vrow_set (k : Nat) (hk : k < 8) (st : St) : (vrow k st).setIfInBounds k (.int .u32 ((takeNum (vecGo k st).2 m32).1 : Int)) = vrow (k + 1) st := by
  have h := vcells_set (vecGo k st).1 (8 - (k + 1)) (takeNum (vecGo k st).2 m32).1
  rw [vecGo_len, show 8 - (k + 1) + 1 = 8 - k by omega] at h
  exact h
theorem vrow_at (k : Nat) (hk : k < 8) (st : St) : ∃ x, (vrow k st)[k]? = some x :=
  ⟨_, Array.getElem?_eq_getElem (by rw [vrow_size k (by omega) st]; exact hk)⟩
theorem vrow_end (st : St) : vrow 8 st = vcells (vecGo 8 st).1 := by unfold vrow; rw [Nat.sub_self]; simp
theorem small_vecGo {st : St} (hs : Small st) : ∀ k, Small (vecGo k st).2
  | 0 => hs
  | k + 1 => small_takeNum (small_vecGo hs k) _
theorem takeVec_is (st : St) : takeVec st = ((if (vecGo 8 st).2.isSome then (vecGo 8 st).1 else zeros8), (vecGo 8 st).2) := by
  unfold takeVec
  cases h : (vecGo 8 st).2 with
  | none => rfl
  | some r => rfl
theorem Keeps.setOwn {W w : World} {p : Option Nat} (h : Keeps W.heap.size p W w) (a : Addr) (hg : W.heap.size ≤ a.block) (x : Value) : Keeps W.heap.size p W (w.setCell a x) :=
  ⟨h.os, h.tape, h.output, by simpa [World.setCell] using h.size, fun k hk hp => (Below.heap_setCell _ _ _ _ (by omega)).trans (h.block k hk hp),
    fun k c t fr hk ht hp => (Below.heap_setCell _ _ _ _ (by have := lt_of_some hk; omega)).trans (h.other k c t fr hk ht hp)⟩
theorem RAt.setOwn {w : World} {p : Option Nat} {st : St} (h : RAt w p st) {a : Addr} (hg : some a.block ≠ p) (x : Value) : RAt (w.setCell a x) p st := by
  cases p with
  | none => exact h
  | some q => exact (Below.heap_setCell _ _ _ _ (fun e => hg (by rw [e]))).trans h

theorem cells8 {w : World} {g : Nat} {cs : Array Value} {t : TypeId} (h : w.heap[g]? = some (.cells cs t (0, 0))) (a0 a1 a2 a3 a4 a5 a6 a7 : Value) (hc : cs = #[a0, a1, a2, a3, a4, a5, a6, a7]) :
    w.cell? ⟨g, 0, none⟩ = some a0 ∧ w.cell? ⟨g, 1, none⟩ = some a1 ∧ w.cell? ⟨g, 2, none⟩ = some a2 ∧ w.cell? ⟨g, 3, none⟩ = some a3 ∧ w.cell? ⟨g, 4, none⟩ = some a4 ∧ w.cell? ⟨g, 5, none⟩ = some a5 ∧ w.cell? ⟨g, 6, none⟩ = some a6 ∧ w.cell? ⟨g, 7, none⟩ = some a7 := by
  subst hc
  exact ⟨(cell_of_heap h).trans rfl, (cell_of_heap h).trans rfl, (cell_of_heap h).trans rfl, (cell_of_heap h).trans rfl, (cell_of_heap h).trans rfl, (cell_of_heap h).trans rfl, (cell_of_heap h).trans rfl, (cell_of_heap h).trans rfl⟩
theorem set8_heap {w : World} {g : Nat} {cs : Array Value} {t : TypeId} {z0 z1 z2 z3 z4 z5 z6 z7 : Value} (h : w.heap[g]? = some (.cells cs t (0, 0))) (hc : cs = #[z0, z1, z2, z3, z4, z5, z6, z7]) (a0 a1 a2 a3 a4 a5 a6 a7 : Value) :
    ((((((((w.setCell ⟨g, 0, none⟩ a0).setCell ⟨g, 1, none⟩ a1).setCell ⟨g, 2, none⟩ a2).setCell ⟨g, 3, none⟩ a3).setCell ⟨g, 4, none⟩ a4).setCell ⟨g, 5, none⟩ a5).setCell ⟨g, 6, none⟩ a6).setCell ⟨g, 7, none⟩ a7).heap[g]? = some (.cells #[a0, a1, a2, a3, a4, a5, a6, a7] t (0, 0)) := by
  subst hc
  have h0 : (w.setCell ⟨g, 0, none⟩ a0).heap[g]? = some (.cells #[a0, z1, z2, z3, z4, z5, z6, z7] t (0, 0)) := by rw [heap_setCell_same w g 0 _ _ a0 h]; simp
  have h1 : ((w.setCell ⟨g, 0, none⟩ a0).setCell ⟨g, 1, none⟩ a1).heap[g]? = some (.cells #[a0, a1, z2, z3, z4, z5, z6, z7] t (0, 0)) := by rw [heap_setCell_same (w.setCell ⟨g, 0, none⟩ a0) g 1 _ _ a1 h0]; simp
  have h2 : (((w.setCell ⟨g, 0, none⟩ a0).setCell ⟨g, 1, none⟩ a1).setCell ⟨g, 2, none⟩ a2).heap[g]? = some (.cells #[a0, a1, a2, z3, z4, z5, z6, z7] t (0, 0)) := by rw [heap_setCell_same ((w.setCell ⟨g, 0, none⟩ a0).setCell ⟨g, 1, none⟩ a1) g 2 _ _ a2 h1]; simp
  have h3 : ((((w.setCell ⟨g, 0, none⟩ a0).setCell ⟨g, 1, none⟩ a1).setCell ⟨g, 2, none⟩ a2).setCell ⟨g, 3, none⟩ a3).heap[g]? = some (.cells #[a0, a1, a2, a3, z4, z5, z6, z7] t (0, 0)) := by rw [heap_setCell_same (((w.setCell ⟨g, 0, none⟩ a0).setCell ⟨g, 1, none⟩ a1).setCell ⟨g, 2, none⟩ a2) g 3 _ _ a3 h2]; simp
  have h4 : (((((w.setCell ⟨g, 0, none⟩ a0).setCell ⟨g, 1, none⟩ a1).setCell ⟨g, 2, none⟩ a2).setCell ⟨g, 3, none⟩ a3).setCell ⟨g, 4, none⟩ a4).heap[g]? = some (.cells #[a0, a1, a2, a3, a4, z5, z6, z7] t (0, 0)) := by rw [heap_setCell_same ((((w.setCell ⟨g, 0, none⟩ a0).setCell ⟨g, 1, none⟩ a1).setCell ⟨g, 2, none⟩ a2).setCell ⟨g, 3, none⟩ a3) g 4 _ _ a4 h3]; simp
  have h5 : ((((((w.setCell ⟨g, 0, none⟩ a0).setCell ⟨g, 1, none⟩ a1).setCell ⟨g, 2, none⟩ a2).setCell ⟨g, 3, none⟩ a3).setCell ⟨g, 4, none⟩ a4).setCell ⟨g, 5, none⟩ a5).heap[g]? = some (.cells #[a0, a1, a2, a3, a4, a5, z6, z7] t (0, 0)) := by rw [heap_setCell_same (((((w.setCell ⟨g, 0, none⟩ a0).setCell ⟨g, 1, none⟩ a1).setCell ⟨g, 2, none⟩ a2).setCell ⟨g, 3, none⟩ a3).setCell ⟨g, 4, none⟩ a4) g 5 _ _ a5 h4]; simp
  have h6 : (((((((w.setCell ⟨g, 0, none⟩ a0).setCell ⟨g, 1, none⟩ a1).setCell ⟨g, 2, none⟩ a2).setCell ⟨g, 3, none⟩ a3).setCell ⟨g, 4, none⟩ a4).setCell ⟨g, 5, none⟩ a5).setCell ⟨g, 6, none⟩ a6).heap[g]? = some (.cells #[a0, a1, a2, a3, a4, a5, a6, z7] t (0, 0)) := by rw [heap_setCell_same ((((((w.setCell ⟨g, 0, none⟩ a0).setCell ⟨g, 1, none⟩ a1).setCell ⟨g, 2, none⟩ a2).setCell ⟨g, 3, none⟩ a3).setCell ⟨g, 4, none⟩ a4).setCell ⟨g, 5, none⟩ a5) g 6 _ _ a6 h5]; simp
  have h7 : ((((((((w.setCell ⟨g, 0, none⟩ a0).setCell ⟨g, 1, none⟩ a1).setCell ⟨g, 2, none⟩ a2).setCell ⟨g, 3, none⟩ a3).setCell ⟨g, 4, none⟩ a4).setCell ⟨g, 5, none⟩ a5).setCell ⟨g, 6, none⟩ a6).setCell ⟨g, 7, none⟩ a7).heap[g]? = some (.cells #[a0, a1, a2, a3, a4, a5, a6, a7] t (0, 0)) := by rw [heap_setCell_same (((((((w.setCell ⟨g, 0, none⟩ a0).setCell ⟨g, 1, none⟩ a1).setCell ⟨g, 2, none⟩ a2).setCell ⟨g, 3, none⟩ a3).setCell ⟨g, 4, none⟩ a4).setCell ⟨g, 5, none⟩ a5).setCell ⟨g, 6, none⟩ a6) g 7 _ _ a7 h6]; simp
  exact h7
theorem list8 (v : List Nat) (h : v.length = 8) : ∃ a0 a1 a2 a3 a4 a5 a6 a7, v = [a0, a1, a2, a3, a4, a5, a6, a7] := by
  match v, h with
  | [a0, a1, a2, a3, a4, a5, a6, a7], _ => exact ⟨_, _, _, _, _, _, _, _, rfl⟩

end Go.Proofs.YtcioomlhdaihkaaGreatDoor

/-
  Contracts of the document's answer for package wire: what is read.
-/
namespace Go.Proofs.YtcioomlhdaihkaaGreatDoor
open Go Go.RowKit Wire

set_option maxRecDepth 100000
set_option linter.unusedVariables false
set_option linter.unusedSimpArgs false
theorem results_tmp_row {P : Program} {fn : Func} {u p : Tmp} {ty : TypeId} (h : fn.results = #[.tmp u, .cell p ty]) (tmps : Array Value) (w : World) (g : Nat) (t : TypeId) (cs : Array Value) (fr : Nat × Nat) (d : TypeDesc) (v : Value)
    (hv : tmps.getD u undef = v) (hp : tmps.getD p undef = .pointer (some ⟨g, 0, none⟩)) (hg : w.heap[g]? = some (.cells cs t fr))
    (hu : P.underlying ty = some d) (hd : (match d with | .struct _ | .array _ _ => true | _ => false) = true) (hi : (P.info? ty).map (·.size) = some cs.size) :
    (results fn tmps).run P w = .ok (.tuple #[v, .agg cs]) w := by
  have hp' : tmps[p]?.getD undef = .pointer (some ⟨g, 0, none⟩) := by simpa using hp
  have hv' : tmps[u]?.getD undef = v := by simpa using hv
  simp [results, h, hp', hv', asAddr, run_loadVar_row w g t ty cs fr d hg hu hd hi]
theorem results_row_tmp {P : Program} {fn : Func} {u p : Tmp} {ty : TypeId} (h : fn.results = #[.cell p ty, .tmp u]) (tmps : Array Value) (w : World) (g : Nat) (t : TypeId) (cs : Array Value) (fr : Nat × Nat) (d : TypeDesc) (v : Value)
    (hv : tmps.getD u undef = v) (hp : tmps.getD p undef = .pointer (some ⟨g, 0, none⟩)) (hg : w.heap[g]? = some (.cells cs t fr))
    (hu : P.underlying ty = some d) (hd : (match d with | .struct _ | .array _ _ => true | _ => false) = true) (hi : (P.info? ty).map (·.size) = some cs.size) :
    (results fn tmps).run P w = .ok (.tuple #[.agg cs, v]) w := by
  have hp' : tmps[p]?.getD undef = .pointer (some ⟨g, 0, none⟩) := by simpa using hp
  have hv' : tmps[u]?.getD undef = v := by simpa using hv
  simp [results, h, hp', hv', asAddr, run_loadVar_row w g t ty cs fr d hg hu hd hi]
theorem results_two_rows {P : Program} {fn : Func} {p q : Tmp} {ty ty' : TypeId} (h : fn.results = #[.cell p ty, .cell q ty']) (tmps : Array Value) (w : World) (g g' : Nat) (t t' : TypeId) (cs cs' : Array Value) (fr fr' : Nat × Nat) (d d' : TypeDesc)
    (hp : tmps.getD p undef = .pointer (some ⟨g, 0, none⟩)) (hg : w.heap[g]? = some (.cells cs t fr))
    (hu : P.underlying ty = some d) (hd : (match d with | .struct _ | .array _ _ => true | _ => false) = true) (hi : (P.info? ty).map (·.size) = some cs.size)
    (hp2 : tmps.getD q undef = .pointer (some ⟨g', 0, none⟩)) (hg2 : w.heap[g']? = some (.cells cs' t' fr'))
    (hu2 : P.underlying ty' = some d') (hd2 : (match d' with | .struct _ | .array _ _ => true | _ => false) = true) (hi2 : (P.info? ty').map (·.size) = some cs'.size) :
    (results fn tmps).run P w = .ok (.tuple #[.agg cs, .agg cs']) w := by
  have hp' : tmps[p]?.getD undef = .pointer (some ⟨g, 0, none⟩) := by simpa using hp
  have hq' : tmps[q]?.getD undef = .pointer (some ⟨g', 0, none⟩) := by simpa using hp2
  simp [results, h, hp', hq', asAddr, run_loadVar_row w g t ty cs fr d hg hu hd hi, run_loadVar_row w g' t' ty' cs' fr' d' hg2 hu2 hd2 hi2]

theorem first_two (W : World) (a b : Obj) : ((W.alloc a).alloc b).heap[W.heap.size]? = some a := (Below.heap_alloc _ _ _ (by simp)).trans (heap_alloc_last W a)
theorem set2_heap {w : World} {g : Nat} {z0 z1 : Value} {t : TypeId} (h : w.heap[g]? = some (.cells #[z0, z1] t (0, 0))) (a0 a1 : Value) :
    ((w.setCell ⟨g, 0, none⟩ a0).setCell ⟨g, 1, none⟩ a1).heap[g]? = some (.cells #[a0, a1] t (0, 0)) := by
  have h0 : (w.setCell ⟨g, 0, none⟩ a0).heap[g]? = some (.cells #[a0, z1] t (0, 0)) := by rw [heap_setCell_same w g 0 _ _ a0 h]; simp
  rw [heap_setCell_same _ g 1 _ _ a1 h0]; simp

end Go.Proofs.YtcioomlhdaihkaaGreatDoor

/-
  'none' and 'head' of stage 2: what the document fixes.
-/
namespace Go.Proofs.YtcioomlhdaihkaaGreatDoor
open Go Go.RowKit Wire

set_option maxRecDepth 100000
set_option linter.unusedVariables false
set_option linter.unusedSimpArgs false
theorem enc_vals : enc 5 = [5] ∧ enc 127 = [127] ∧ enc 128 = [129, 128] ∧ enc 256 = [130, 1, 0] ∧ enc 18446744073709551615 = [136, 255, 255, 255, 255, 255, 255, 255, 255] ∧ enc 2 = [2] ∧ enc 3 = [3] ∧ enc 300 = [130, 1, 44] := by
  refine ⟨?_, ?_, ?_, ?_, ?_, ?_, ?_, ?_⟩ <;> simp [enc, dig] <;> decide

theorem none_vals : (takeNum (some [129, 5]) 18446744073709551615).2 = none ∧ (takeNum (some [130, 0, 255]) 18446744073709551615).2 = none ∧ (takeNum (some [137]) 18446744073709551615).2 = none ∧ (takeNum (some [128]) 18446744073709551615).2 = none ∧ (takeNum (some [129]) 18446744073709551615).2 = none ∧ (takeNum (some [5]) 4).2 = none := by
  refine ⟨?_, ?_, ?_, ?_, ?_, ?_⟩ <;> simp [takeNum, parse, big, dig]

/-- A writer beside a reader's doing. -/
theorem WAt.beside {w w' : World} {B g : Nat} {l : List UInt8} {p : Option Nat} {st : St} (h : WAt w B g l) (hr : RAt w p st) (hk : Keeps w.heap.size p w w') : WAt w' B g l := by
  obtain ⟨v, hg, ho⟩ := h
  have key : ∀ (k : Nat) (cs : Array Value) (t : TypeId), w.heap[k]? = some (Obj.cells cs t (0, 0)) → t ≠ 235 → w'.heap[k]? = some (Obj.cells cs t (0, 0)) := fun k cs t hkk ht => by
    refine (hk.block k (lt_of_some hkk) (fun e => ?_)).trans hkk
    subst e
    have hr' : w.heap[k]? = some (.cells (rcells st) 235 (0, 0)) := hr
    rw [hr'] at hkk
    cases hkk
    exact ht rfl
  refine ⟨v, key g _ _ hg (by decide), ho.1, ?_⟩
  rcases ho.2 with hn | ⟨g', cap, cur, rfl, hB, hgg, rest⟩
  · exact .inl hn
  · exact .inr ⟨g', cap, cur, rfl, hB, key g' _ _ hgg (by decide), rest⟩
/-- A reader beside a writer's doing. -/
theorem RAt.beside {w w' : World} {B g : Nat} {l : List UInt8} {p : Option Nat} {st : St} (h : RAt w p st) (hw : WAt w B g l) (hk : Keeps B (some g) w w') : RAt w' p st := by
  cases p with
  | none => exact h
  | some q =>
    refine hk.other q _ _ _ h (by decide) (fun e => ?_)
    obtain ⟨v, hg, _⟩ := hw
    have e' : q = g := Option.some.inj e
    have h' : w.heap[q]? = some (Obj.cells (rcells st) 235 (0, 0)) := h
    rw [e', hg] at h'
    have ht := (Obj.cells.inj (Option.some.inj h')).2.1
    exact absurd ht (by decide)

theorem head_text : takeText (some [2, 97, 98, 3, 130, 1, 44]) 2 = ([97, 98], some [3, 130, 1, 44]) := by
  have := takeText_enc (s := [97, 98]) (most := 2) (by decide) (by decide) [3, 130, 1, 44]
  rw [show ([97, 98] : List UInt8).length = 2 by rfl, enc_vals.2.2.2.2.2.1] at this
  exact this
theorem head_dot : takeDot (some [3, 130, 1, 44]) = ((3, 300), some []) := by
  have := takeDot_enc (a := 3) (b := 300) (by decide) (by decide) []
  rw [enc_vals.2.2.2.2.2.2.1, enc_vals.2.2.2.2.2.2.2] at this
  exact this
theorem head_bytes : ([] ++ encT [97, 98]) ++ encD 3 300 = [2, 97, 98, 3, 130, 1, 44] := by
  unfold encT encD
  rw [show ([97, 98] : List UInt8).length = 2 by rfl, enc_vals.2.2.2.2.2.1, enc_vals.2.2.2.2.2.2.1, enc_vals.2.2.2.2.2.2.2]
  rfl

theorem bytes_head (B g : Nat) (W : World) (h : WAt W B g (([] ++ encT [97, 98]) ++ encD 3 300)) :
    Calls Tryz.prog 76 #[.pointer (some ⟨g, 0, none⟩)] W fun e w' => e = .returned (.string ⟨#[2, 97, 98, 3, 130, 1, 44]⟩) ∧ W = w' := by
  have := wire_Bytes W B g _ h
  rw [head_bytes] at this
  exact this

end Go.Proofs.YtcioomlhdaihkaaGreatDoor

/-
  Two vectors compared.
-/
namespace Go.Proofs.YtcioomlhdaihkaaGreatDoor
open Go Go.RowKit Wire

set_option maxRecDepth 100000
set_option linter.unusedVariables false
set_option linter.unusedSimpArgs false
theorem vec_info : (Tryz.prog.info? 133).map (fun i => (i.zero, i.size)) = some (some (.int .u32 0), 1) := by kernel_rfl
theorem list8' (v : List Nat) (h : v.length = 8) : ∃ a0 a1 a2 a3 a4 a5 a6 a7, v = [a0, a1, a2, a3, a4, a5, a6, a7] := by
  match v, h with
  | [a0, a1, a2, a3, a4, a5, a6, a7], _ => exact ⟨_, _, _, _, _, _, _, _, rfl⟩

end Go.Proofs.YtcioomlhdaihkaaGreatDoor

/-
  The walk of the law 'WireOrder'.
-/
namespace Go.Proofs.YtcioomlhdaihkaaGreatDoor
open Go Go.RowKit Wire

set_option maxRecDepth 100000
set_option linter.unusedVariables false
set_option linter.unusedSimpArgs false
theorem u64_nat {a : Int} (h : (Lit.int .u64 a).wf = true) : ∃ n : Nat, a = (n : Int) ∧ n < 18446744073709551616 := by
  have hx : 0 ≤ a ∧ a ≤ 18446744073709551615 := by simpa [Lit.wf, IntKind.min, IntKind.max, IntKind.signed, IntKind.bits] using h
  exact ⟨a.toNat, by omega, by omega⟩

theorem Keeps.nobody {B : Nat} {a b : World} (h : Keeps B none a b) : Below B a b := h.below (fun _ e => by cases e)
theorem none_Num (m : Nat) (W : World) : Calls Tryz.prog 193 #[.pointer none, .int .u64 m] W fun e w' => e = .returned (.int .u64 0) ∧ Below W.heap.size W w' :=
  (wire_Num none none m small_none W rfl).mono fun _ _ ⟨h1, _, h3⟩ => ⟨h1, h3.nobody⟩
theorem none_Left (W : World) : Calls Tryz.prog 194 #[.pointer none] W fun e w' => e = .returned (.int .i64 0) ∧ W = w' := wire_Left none none W rfl
theorem none_Fine (W : World) : Calls Tryz.prog 195 #[.pointer none] W fun e w' => e = .returned (.bool false) ∧ W = w' := wire_Fine none none W rfl
theorem beq_lists (a b : ByteArray) : (a.toList == b.toList) = decide (a.data.toList = b.data.toList) := by
  rw [Lib.toList_data, Lib.toList_data, Bool.eq_iff_iff]; simp
theorem ne_lists {a b : List UInt8} (h : a ≠ b) : ((ba a).toList == (ba b).toList) = false := by
  rw [beq_lists, ba_list, ba_list]; simpa using h
theorem eq_lists (a : ByteArray) : (a.toList == a.toList) = true := by simp

end Go.Proofs.YtcioomlhdaihkaaGreatDoor
