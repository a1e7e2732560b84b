/-
  Contracts of package wire: the readers.
-/
import Derived.Test.YtdhdfngaldfdjaaDoorWireR
import Derived.Test.YtdhdfngaldfdjaaDoorClone
namespace Go.Proofs.YtdhdfngaldfdjaaDoor
open Go Go.RowKit Wire

set_option maxRecDepth 100000
set_option linter.unusedVariables false
set_option linter.unusedSimpArgs false
def rcells : St → Array Value
  | some l => #[.string (ba l), .bool true]
  | none => #[.string ⟨#[]⟩, .bool false]
/-- The reader (none: the nil pointer) has the bytes that are left, or failed. -/
def RAt (w : World) : Option Nat → St → Prop
  | some g, st => w.heap[g]? = some (.cells (rcells st) 101 (0, 0))
  | none, st => st = none
def rptr (p : Option Nat) : Value := .pointer (p.map fun g => ⟨g, 0, none⟩)
/-- Few enough bytes. -/
def Small (st : St) : Prop := (st.getD []).length ≤ 1000000

theorem RAt.keep {w w' : World} {p : Option Nat} {st : St} (h : RAt w p st) (hb : Below w.heap.size w w') : RAt w' p st := by
  cases p with
  | none => exact h
  | some g => exact (hb.block g (lt_of_some h)).trans h

theorem wire_Fine (p : Option Nat) (st : St) (W : World) (h : RAt W p st) :
    Calls Tryd.prog 57 #[rptr p] W fun e w' => e = .returned (.bool st.isSome) ∧ W = w' := by
  cases p with
  | none =>
    obtain rfl : st = none := h
    go_enter Tryd.func57, Tryd.ntmps57
    simp only [rptr, Option.map]
    go_wp2
    go_ret
    exact ⟨rfl, rfl⟩
  | some g =>
    have hc : W.cell? ⟨g, 1, none⟩ = some (.bool st.isSome) := (cell_of_heap h).trans (by cases st <;> rfl)
    go_enter Tryd.func57, Tryd.ntmps57
    simp only [rptr, Option.map]
    go_wp2
    go_ret
    exact ⟨rfl, rfl⟩

theorem wire_Left (p : Option Nat) (st : St) (W : World) (h : RAt W p st) :
    Calls Tryd.prog 62 #[rptr p] W fun e w' => e = .returned (.int .i64 ((st.getD []).length : Nat)) ∧ W = w' := by
  have hf := wire_Fine p st W h
  cases st with
  | none =>
    go_enter Tryd.func62, Tryd.ntmps62
    go_wp2_with (go_at_call 57; refine hf.mono ?_; rintro e w1 ⟨rfl, rfl⟩)
    go_ret
    exact ⟨rfl, rfl⟩
  | some l =>
    cases p with
    | none => cases h
    | some g =>
      have hc : W.cell? ⟨g, 0, none⟩ = some (.string (ba l)) := (cell_of_heap h).trans rfl
      have hs := ba_size l
      go_enter Tryd.func62, Tryd.ntmps62
      simp only [rptr, Option.map] at hf ⊢
      go_wp2_with (go_at_call 57; refine hf.mono ?_; rintro e w1 ⟨rfl, rfl⟩)
      go_ret
      exact ⟨rfl, rfl⟩

/-- Is the reader at its end? -/
def endOf (st : St) : Int := if st = some [] then 0 else 5
theorem wire_End (p : Option Nat) (st : St) (W : World) (h : RAt W p st) :
    Calls Tryd.prog 45 #[rptr p] W fun e w' => e = .returned (.int .i64 (endOf st)) ∧ W = w' := by
  have hf := wire_Fine p st W h
  have hl := wire_Left p st W h
  cases st with
  | none =>
    go_enter Tryd.func45, Tryd.ntmps45
    go_wp2_with (go_at_call 57; refine hf.mono ?_; rintro e w1 ⟨rfl, rfl⟩)
    go_ret
    exact ⟨rfl, rfl⟩
  | some l =>
    by_cases h0 : l.length = 0
    · obtain rfl := List.eq_nil_of_length_eq_zero h0
      go_enter Tryd.func45, Tryd.ntmps45
      go_wp2_with (first | (go_at_call 57; refine hf.mono ?_; rintro e w1 ⟨rfl, rfl⟩) | (go_at_call 62; refine hl.mono ?_; rintro e w1 ⟨rfl, rfl⟩))
      go_ret
      exact ⟨rfl, rfl⟩
    · have he : endOf (some l) = 5 := by
        unfold endOf
        rw [if_neg (by intro e; cases e; exact h0 rfl)]
      rw [he]
      have hpos : 0 < ((some l).getD []).length := by simp only [Option.getD_some]; omega
      generalize ((some l).getD []).length = q at hl hpos
      clear he h0
      go_enter Tryd.func45, Tryd.ntmps45
      go_wp2_with (first | (go_at_call 57; refine hf.mono ?_; rintro e w1 ⟨rfl, rfl⟩) | (go_at_call 62; refine hl.mono ?_; rintro e w1 ⟨rfl, rfl⟩))
      go_ret
      exact ⟨rfl, rfl⟩

/-- Bytes are taken. -/
def takeB (st : St) (n : Nat) : (List UInt8 × Bool) × St :=
  match st with
  | some l => if n ≤ l.length then ((l.take n, true), some (l.drop n)) else (([], false), some l)
  | none => (([], false), none)

theorem ba_extract_to (l : List UInt8) (n : Nat) : (ba l).extract 0 n = ba (l.take n) := toList_inj (by rw [Lib.extract_data]; simp [ba_list])
theorem ba_extract_from (l : List UInt8) (n : Nat) : (ba l).extract n l.length = ba (l.drop n) := toList_inj (by rw [Lib.extract_data, ba_list, ba_list]; exact List.take_of_length_le (by simp))

set_option maxRecDepth 100000 in
theorem wire_take (p : Option Nat) (st : St) (n : Nat) (hn : n < 18446744073709551616) (hs : Small st) (W : World) (h : RAt W p st) :
    Calls Tryd.prog 60 #[rptr p, .int .u64 n] W fun e w' => e = .returned (.tuple #[.string (ba (takeB st n).1.1), .bool (takeB st n).1.2]) ∧ RAt w' p (takeB st n).2 ∧ Keeps W.heap.size p W w' := by
  have hf := wire_Fine p st W h
  cases st with
  | none =>
    go_enter Tryd.func60, Tryd.ntmps60
    go_wp2_with (go_at_call 57; refine hf.mono ?_; rintro e w1 ⟨rfl, rfl⟩)
    go_ret2
    exact ⟨rfl, h, Keeps.refl _ _ _⟩
  | some l =>
    cases p with
    | none => cases h
    | some g =>
      have hc : W.cell? ⟨g, 0, none⟩ = some (.string (ba l)) := (cell_of_heap h).trans rfl
      have hfr : W.frozen? ⟨g, 0, none⟩ = false := free_of_heap h
      have hsz := ba_size l
      have hl : l.length ≤ 1000000 := hs
      have hcv : IntKind.u64.wrap (l.length : Int) = l.length := by rw [wrap_u64]; omega
      by_cases hle : n ≤ l.length
      · have he1 := ba_extract_to l n
        have he2 := ba_extract_from l n
        have hw : IntKind.i64.wrap (n : Int) = n := by simp [IntKind.wrap, IntKind.bits, IntKind.signed]; omega
        have ht : takeB (some l) n = ((l.take n, true), some (l.drop n)) := by simp [takeB, hle]
        rw [ht]
        have HH : Hid _ := h
        clear h ht
        go_enter Tryd.func60, Tryd.ntmps60
        simp only [rptr, Option.map] at hf ⊢
        go_wp2_with (go_at_call 57; refine hf.mono ?_; rintro e w1 ⟨rfl, rfl⟩)
        go_ret2
        refine ⟨rfl, ?_, Keeps.setCell _ _ ⟨g, 0, none⟩ _⟩
        show (W.setCell ⟨g, 0, none⟩ (.string (ba (l.drop n)))).heap[g]? = _
        rw [heap_setCell_same _ _ _ _ _ _ HH.out]; rfl
      · have ht : takeB (some l) n = (([], false), some l) := by simp [takeB, hle]
        rw [ht]
        have HH : Hid _ := h
        clear h ht
        go_enter Tryd.func60, Tryd.ntmps60
        simp only [rptr, Option.map] at hf ⊢
        go_wp2_with (go_at_call 57; refine hf.mono ?_; rintro e w1 ⟨rfl, rfl⟩)
        go_ret2
        exact ⟨rfl, HH.out, Keeps.refl _ _ _⟩

theorem RAt.failed {W : World} {g : Nat} {st : St} (h : RAt W (some g) st) :
    RAt ((W.setCell ⟨g, 0, none⟩ (.string ⟨#[]⟩)).setCell ⟨g, 1, none⟩ (.bool false)) (some g) none ∧ Keeps W.heap.size (some g) W ((W.setCell ⟨g, 0, none⟩ (.string ⟨#[]⟩)).setCell ⟨g, 1, none⟩ (.bool false)) := by
  have h' : W.heap[g]? = some (.cells (rcells st) 101 (0, 0)) := h
  refine ⟨?_, (Keeps.setCell _ _ ⟨g, 0, none⟩ _).trans (Keeps.setCell _ _ ⟨g, 1, none⟩ _)⟩
  show ((W.setCell ⟨g, 0, none⟩ (.string ⟨#[]⟩)).setCell ⟨g, 1, none⟩ (.bool false)).heap[g]? = _
  rw [heap_setCell_same _ _ _ _ _ _ (heap_setCell_same _ _ _ _ _ _ h')]
  cases st <;> rfl

theorem result_num (p : Option Nat) (st : St) (n : Nat) (b : Bool) (W : World) (h : RAt W p st) :
    Calls Tryd.prog 61 #[rptr p, .int .u64 n, .bool b] W fun e w' => e = .returned (.int .u64 ((if b then n else 0 : Nat) : Int)) ∧ RAt w' p (if b then st else none) ∧ Keeps W.heap.size p W w' := by
  cases b with
  | true =>
    have HH : Hid _ := h
    clear h
    go_enter Tryd.func61, Tryd.ntmps61
    go_wp2
    go_ret
    exact ⟨rfl, HH.out, Keeps.refl _ _ _⟩
  | false =>
    cases p with
    | none =>
      obtain rfl : st = none := h
      go_enter Tryd.func61, Tryd.ntmps61
      simp only [rptr, Option.map]
      go_wp2
      go_ret
      exact ⟨rfl, rfl, Keeps.refl _ _ _⟩
    | some g =>
      have hr := h.failed
      have h' : W.heap[g]? = some (.cells (rcells st) 101 (0, 0)) := h
      obtain ⟨x, y, hxy⟩ : ∃ x y, rcells st = #[x, y] := by cases st <;> exact ⟨_, _, rfl⟩
      rw [hxy] at h'
      have hc0 : W.cell? ⟨g, 0, none⟩ = some x := (cell_of_heap h').trans rfl
      have hc1 : W.cell? ⟨g, 1, none⟩ = some y := (cell_of_heap h').trans rfl
      have hf0 : W.frozen? ⟨g, 0, none⟩ = false := free_of_heap h'
      have hf1 : W.frozen? ⟨g, 1, none⟩ = false := free_of_heap h'
      have HR : Hid _ := hr
      clear hr h h' hxy
      go_enter Tryd.func61, Tryd.ntmps61
      simp only [rptr, Option.map]
      go_wp2
      go_ret
      exact ⟨rfl, HR.out.1, HR.out.2⟩

theorem parse_case (b : UInt8) (r : List UInt8) (hb : ¬ b.toNat < 128) (hk : b.toNat - 128 ≤ r.length) (m : Nat) (hm : m = big (r.take (b.toNat - 128)) % 18446744073709551616) :
    (128 ≤ m ∧ (dig m).length = b.toNat - 128 → parse (b :: r) = some (m, r.drop (b.toNat - 128))) ∧ (¬ (128 ≤ m ∧ (dig m).length = b.toNat - 128) → parse (b :: r) = none) := by
  have hlt : m < 18446744073709551616 := by omega
  have hlen : (r.take (b.toNat - 128)).length = b.toNat - 128 := by simp; omega
  have small : b.toNat - 128 ≤ 8 → m = big (r.take (b.toNat - 128)) := fun h8 => by
    have h1 := big_lt (r.take (b.toNat - 128))
    rw [hlen] at h1
    have h2 := Nat.pow_le_pow_right (show 0 < 256 by omega) h8
    rw [hm]
    exact Nat.mod_eq_of_lt (Nat.lt_of_lt_of_le h1 (by simpa using h2))
  refine ⟨fun ⟨h1, h2⟩ => ?_, fun h => ?_⟩
  · have h8 := dig_len8 hlt
    have he := small (by omega)
    rw [parse_cons, if_neg hb, ← he, if_pos ⟨hk, h1, h2, by omega⟩]
  · rw [parse_cons, if_neg hb, if_neg]
    rintro ⟨c1, c2, c3, c4⟩
    have he := small c4
    rw [← he] at c2 c3
    exact h ⟨c2, c3⟩

/-- What reading a number says of the state. -/
def ReadSaid (st : St) (n : Nat) (ok : Bool) (st' : St) : Prop :=
  n < 18446744073709551616 ∧ Small st' ∧ (match st.bind parse with | some (m, r) => n = m ∧ ok = true ∧ st' = some r | none => ok = false)

def takeFn (p : Option Nat) : Value := .func (.func 60) #[rptr p] #[]

set_option maxRecDepth 100000 in
theorem readNumber_none (p : Option Nat) (st : St) (hs : Small st) (he : st.getD [] = []) (W : World) (h : RAt W p st) :
    Calls Tryd.prog 59 #[takeFn p] W fun e w' => e = .returned (.tuple #[.int .u64 0, .bool false]) ∧ RAt w' p st ∧ Keeps W.heap.size p W w' := by
  have ht := wire_take p st 1 (by omega) hs W h
  have h0 : takeB st 1 = (([], false), st) := by
    cases st with
    | none => rfl
    | some l => obtain rfl : l = [] := he
                rfl
  rw [h0] at ht
  have HH : Hid _ := h
  clear h h0
  go_enter Tryd.func59, Tryd.ntmps59
  simp only [takeFn]
  go_wp2_with (go_at_call 60; refine ht.mono ?_; rintro e w1 ⟨rfl, h1, hk1⟩)
  go_ret2
  exact ⟨rfl, h1, hk1⟩

end Go.Proofs.YtdhdfngaldfdjaaDoor
