/-
  slices.IndexFunc, ContainsFunc, DeleteFunc at vectors, with Tops's two function values.
-/
import Derived.Test.YtckfdjfcikljaaaVG
import Derived.LoopTactic
namespace Go.Proofs.Ytckfdjfcikljaaa
set_option linter.unusedVariables false
set_option linter.unusedSimpArgs false
open Go Go.RowKit Go.Maps

set_option maxHeartbeats 1000000 in
/-- The function value: it reads the vector in its box. -/
theorem fn_A (b : Nat) (x : Vec) (W : World) (u : Vec) (hX : W.heap[b]? = some (.cells (vc x) 24 (0, 0))) :
    Calls Try.prog 40 #[.agg #[.int .u32 (u 0 : Int), .int .u32 (u 1 : Int), .int .u32 (u 2 : Int), .int .u32 (u 3 : Int), .int .u32 (u 4 : Int), .int .u32 (u 5 : Int), .int .u32 (u 6 : Int), .int .u32 (u 7 : Int)], .pointer (some ⟨b, 0, none⟩)] W fun e w' => e = .returned (.bool (aboveB u x)) ∧ Below W.heap.size W w' := by
  have hab := fun W' => vec_Above u x W'
  obtain ⟨c0, c1, c2, c3, c4, c5, c6, c7⟩ := cells8 hX
  have hlt := lt_of_heap hX
  clear hX
  go_enter Try.func40, Try.ntmps40
  go_wp2_with (go_at_call 14; (with_reducible refine (hab _).mono ?_); rintro e w' ⟨rfl, hB⟩)
  go_ret
  exact ⟨rfl, st1 hB⟩

set_option maxHeartbeats 2000000 in
set_option maxRecDepth 100000 in
theorem index_A (b : Nat) (x : Vec) (v : Value) (l : List Vec) (w : World) (hv : VecsV w v l) (hl : l.length ≤ 1000000) (hctx : w.heap[b]? = some (.cells (vc x) 24 (0, 0))) :
    Calls Try.prog 43 #[v, .func (.func 40) #[] #[.pointer (some ⟨b, 0, none⟩)]] w (IdxPost w l fun u => aboveB u x) := by
  obtain ⟨ad, len, cap, rfl, hI⟩ := hv
  have hcap : len ≤ 9223372036854775807 := by have := hI.1; omega
  have hlen := hI.1
  have HR := hid hI
  clear hI
  have HC := hid (fun W u (h : W.heap[b]? = some (.cells (vc x) 24 (0, 0))) => fn_A b x W u h)
  go_enter Try.func43, Try.ntmps43
  go_wp2
  go_loopw [8] (fun i wr => ∃ k : Nat, k ≤ len ∧ i = .int .i64 k ∧ Below w.heap.size w wr ∧ NoneB (fun u => aboveB u x) (l.take k)) (fun i _ => len - (intOf i).toNat)
  case atStart => exact ⟨0, by omega, rfl, Below.refl _ _, by simp [NoneB]⟩
  case round =>
    obtain ⟨k, hk, rfl, hB, hno⟩ := hrel
    by_cases hlt : k < len
    · cases ad with
      | none => have := HR.out.none_len; omega
      | some ad =>
        obtain ⟨u, B, O, sp, hx, hok, hA, -, c0, c1, c2, c3, c4, c5, c6, c7⟩ := (HR.out.keep hB).at k hlt
        have hcon := HC.out wr u (heap_keep hctx hB)
        have HX := hid hx
        have HN := hid hno
        clear hx hno hok
        cases hq : aboveB u x
        · rw [hq] at hcon
          have HQ := hid hq
          clear hq
          go_wp2_with (go_at_call 40; (with_reducible refine hcon.mono ?_); rintro e w1 ⟨rfl, hB1⟩)
          have hB2 := hB.trans (hB1.mono hB.size)
          go_roundw
          case rel => exact ⟨k + 1, by omega, by go_num, hB2, HN.out.snoc HX.out HQ.out⟩
          case measure => simp [intOf]; omega
        · rw [hq] at hcon
          have HQ := hid hq
          clear hq
          go_wp2_with (go_at_call 40; (with_reducible refine hcon.mono ?_); rintro e w1 ⟨rfl, hB1⟩)
          have hB2 := hB.trans (hB1.mono hB.size)
          go_ret
          exact ⟨hB2, _, rfl, .inr ⟨k, rfl, by omega, ⟨_, HX.out, HQ.out⟩, HN.out⟩⟩
    · obtain rfl : k = len := by omega
      rw [show l.take k = l from List.take_of_length_le (by omega)] at hno
      have HN := hid hno
      clear hno
      go_wp2
      go_ret
      exact ⟨hB, _, rfl, .inl ⟨rfl, HN.out⟩⟩

set_option maxHeartbeats 1000000 in
/-- The function value: it reads the vector in its box. -/
theorem fn_B (b : Nat) (x : Vec) (W : World) (u : Vec) (hX : W.heap[b]? = some (.cells (vc x) 24 (0, 0))) :
    Calls Try.prog 42 #[.agg #[.int .u32 (u 0 : Int), .int .u32 (u 1 : Int), .int .u32 (u 2 : Int), .int .u32 (u 3 : Int), .int .u32 (u 4 : Int), .int .u32 (u 5 : Int), .int .u32 (u 6 : Int), .int .u32 (u 7 : Int)], .pointer (some ⟨b, 0, none⟩)] W fun e w' => e = .returned (.bool (aboveB x u)) ∧ Below W.heap.size W w' := by
  have hab := fun W' => vec_Above x u W'
  obtain ⟨c0, c1, c2, c3, c4, c5, c6, c7⟩ := cells8 hX
  have hlt := lt_of_heap hX
  clear hX
  go_enter Try.func42, Try.ntmps42
  go_wp2_with (go_at_call 14; (with_reducible refine (hab _).mono ?_); rintro e w' ⟨rfl, hB⟩)
  go_ret
  exact ⟨rfl, st1 hB⟩

set_option maxHeartbeats 2000000 in
set_option maxRecDepth 100000 in
theorem index_B (b : Nat) (x : Vec) (v : Value) (l : List Vec) (w : World) (hv : VecsV w v l) (hl : l.length ≤ 1000000) (hctx : w.heap[b]? = some (.cells (vc x) 24 (0, 0))) :
    Calls Try.prog 43 #[v, .func (.func 42) #[] #[.pointer (some ⟨b, 0, none⟩)]] w (IdxPost w l fun u => aboveB x u) := by
  obtain ⟨ad, len, cap, rfl, hI⟩ := hv
  have hcap : len ≤ 9223372036854775807 := by have := hI.1; omega
  have hlen := hI.1
  have HR := hid hI
  clear hI
  have HC := hid (fun W u (h : W.heap[b]? = some (.cells (vc x) 24 (0, 0))) => fn_B b x W u h)
  go_enter Try.func43, Try.ntmps43
  go_wp2
  go_loopw [8] (fun i wr => ∃ k : Nat, k ≤ len ∧ i = .int .i64 k ∧ Below w.heap.size w wr ∧ NoneB (fun u => aboveB x u) (l.take k)) (fun i _ => len - (intOf i).toNat)
  case atStart => exact ⟨0, by omega, rfl, Below.refl _ _, by simp [NoneB]⟩
  case round =>
    obtain ⟨k, hk, rfl, hB, hno⟩ := hrel
    by_cases hlt : k < len
    · cases ad with
      | none => have := HR.out.none_len; omega
      | some ad =>
        obtain ⟨u, B, O, sp, hx, hok, hA, -, c0, c1, c2, c3, c4, c5, c6, c7⟩ := (HR.out.keep hB).at k hlt
        have hcon := HC.out wr u (heap_keep hctx hB)
        have HX := hid hx
        have HN := hid hno
        clear hx hno hok
        cases hq : aboveB x u
        · rw [hq] at hcon
          have HQ := hid hq
          clear hq
          go_wp2_with (go_at_call 42; (with_reducible refine hcon.mono ?_); rintro e w1 ⟨rfl, hB1⟩)
          have hB2 := hB.trans (hB1.mono hB.size)
          go_roundw
          case rel => exact ⟨k + 1, by omega, by go_num, hB2, HN.out.snoc HX.out HQ.out⟩
          case measure => simp [intOf]; omega
        · rw [hq] at hcon
          have HQ := hid hq
          clear hq
          go_wp2_with (go_at_call 42; (with_reducible refine hcon.mono ?_); rintro e w1 ⟨rfl, hB1⟩)
          have hB2 := hB.trans (hB1.mono hB.size)
          go_ret
          exact ⟨hB2, _, rfl, .inr ⟨k, rfl, by omega, ⟨_, HX.out, HQ.out⟩, HN.out⟩⟩
    · obtain rfl : k = len := by omega
      rw [show l.take k = l from List.take_of_length_le (by omega)] at hno
      have HN := hid hno
      clear hno
      go_wp2
      go_ret
      exact ⟨hB, _, rfl, .inl ⟨rfl, HN.out⟩⟩

set_option maxHeartbeats 1000000 in
theorem contains_A (b : Nat) (x : Vec) (v : Value) (l : List Vec) (w : World) (hv : VecsV w v l) (hl : l.length ≤ 1000000) (hctx : w.heap[b]? = some (.cells (vc x) 24 (0, 0))) :
    Calls Try.prog 39 #[v, .func (.func 40) #[] #[.pointer (some ⟨b, 0, none⟩)]] w fun e w' => e = .returned (.bool (l.any fun u => aboveB u x)) ∧ Below w.heap.size w w' := by
  have hidx := index_A b x v l w hv hl hctx
  clear hv
  by_cases hno : NoneB (fun u => aboveB u x) l
  · have hcon := Calls.mono hidx (fun e w' h => h.none hno)
    have e1 : (l.any fun u => aboveB u x) = false := by rw [List.any_eq_false]; intro u hu; rw [show (aboveB u x) = false from hno u hu]; decide
    rw [e1]
    clear hidx hno e1
    go_enter Try.func39, Try.ntmps39
    go_wp2_with (go_at_call 43; (with_reducible refine hcon.mono ?_); rintro e w1 ⟨rfl, hB1⟩)
    go_ret
    exact ⟨rfl, hB1⟩
  · obtain ⟨k0, x0, hx0, hq0, hn0⟩ := first_hit l hno
    have hcon := Calls.mono hidx (fun e w' h => h.hit hx0 hq0 hn0)
    have e1 : (l.any fun u => aboveB u x) = true := List.any_eq_true.2 ⟨x0, List.mem_of_getElem? hx0, hq0⟩
    rw [e1]
    clear hidx hno hx0 hq0 hn0 e1
    go_enter Try.func39, Try.ntmps39
    go_wp2_with (go_at_call 43; (with_reducible refine hcon.mono ?_); rintro e w1 ⟨rfl, hB1⟩)
    go_ret
    exact ⟨rfl, hB1⟩

end Go.Proofs.Ytckfdjfcikljaaa
