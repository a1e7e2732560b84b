/-
  The walk of the law 'WireWrites'.
-/
import Derived.Test.YtimemfkhmfhffaaWireP
namespace Go.Proofs.Ytimemfkhmfhffaa
open Go Go.RowKit Wire

theorem IsThings.some_of {w : World} {a : Option Addr} {len cap : Nat} {xs : List Thing} (h : IsThings w a len cap xs) (hl : 0 < len) : ∃ ad, a = some ad := by
  cases a with
  | none => have : len = 0 := h.2.2.2.2
            omega
  | some ad => exact ⟨ad, rfl⟩

set_option maxHeartbeats 4000000 in
set_option maxRecDepth 100000 in
theorem law_WireWrites (a : Option Addr) (len cap : Nat) (xs : List Thing) (W : World) (h : IsThings W a len cap xs) :
    Calls Try.prog 3 #[.slice a len cap] W fun e w' => e = .returned (.bool true) ∧ Below W.heap.size W w' := by
  have hgr := law_great a len cap xs W h
  have hcap : len ≤ 9223372036854775807 := by have := h.2.1; have := h.2.2.1; unfold maxLen at this; omega
  by_cases hg : isGreat xs = true
  · rw [hg] at hgr
    clear h
    go_enter Try.func3, Try.ntmps3
    go_wp2_with (first
      | (go_at_call 8; refine hgr.mono ?_; rintro e w1 ⟨rfl, rfl⟩)
      | (go_at_call 9; refine (law_head _).mono ?_; rintro e w2 ⟨rfl, hb2⟩))
    go_ret
    exact ⟨rfl, hb2⟩
  · have hg : isGreat xs = false := by simpa using hg
    rw [hg] at hgr
    have hb0 : Below W.heap.size W (W.alloc (.cells #[.slice none 0 0, .bool true] 58)) := (Below.refl _ W).alloc (Nat.le_refl _) _
    have hw0 : WAt (W.alloc (.cells #[.slice none 0 0, .bool true] 58)) W.heap.size W.heap.size [] := WAt.at_nil _ _ _ (heap_alloc_last _ _)
    have HH : Hid (IsThings W a len cap xs) := h
    have HW0 : Hid _ := hw0
    clear h hw0
    go_enter Try.func3, Try.ntmps3
    go_wp2_with (first
      | (go_at_call 8; refine hgr.mono ?_; rintro e w1 ⟨rfl, rfl⟩)
      | (go_at_call 10; refine (wire_New _).mono ?_; rintro e w2 ⟨rfl, rfl⟩))
    go_loopw [4, 5] (fun t i wr => ∃ k : Nat, k ≤ len ∧ i = .int .i64 k ∧ t = .string (ba (encAll (xs.take k))) ∧ WAt wr W.heap.size W.heap.size (encAll (xs.take k)) ∧ Below W.heap.size W wr) (fun _ i _ => len - (intOf i).toNat)
    case atStart => exact ⟨0, by omega, rfl, rfl, HW0.out, hb0⟩
    case round =>
      obtain ⟨k, hk, rfl, rfl, hwr, hbr⟩ := hrel
      have hsm := encAll_small xs HH.out.2.2.2.1 hg k
      have hsz1 : (ba (encAll (xs.take k))).size ≤ 11000 := by rw [ba_size]; exact hsm
      by_cases hlt : k < len
      · obtain ⟨ad, rfl⟩ := HH.out.some_of (by omega)
        obtain ⟨x, Bx, O, sp, hx, hok, hA, c0, c1, c2, c3, c4, c5, c6, c7, c8, c9, c10, c11, c12, c13⟩ := (HH.out.below hbr).at k hlt
        have hxs : x.s.size ≤ 2000 := by
          have h1 := textSum_mem xs x (List.mem_of_getElem? hx)
          unfold isGreat at hg; simp at hg; omega
        have hil : (ba (encI x)).size ≤ 2081 := by rw [ba_size]; have := encI_len x hok; omega
        have hput := law_put wr W.heap.size W.heap.size x hok hxs _ hwr hbr.size (by omega)
        have hnx := encAll_take xs k x hx
        have HN : Hid _ := hnx
        have HB : Hid (Below W.heap.size W wr) := hbr
        clear hnx hbr hwr hok hx hsm
        go_wp2_with (first
          | (go_at_call 11; refine hput.mono ?_; rintro e w3 ⟨rfl, hw3, hk3⟩))
        go_roundw
        case rel => exact ⟨k + 1, by omega, by go_num, by rw [HN.out, ba_append], by rw [HN.out]; exact hw3, HB.out.trans (hk3.below (fun q hq => by cases hq; exact Nat.le_refl _))⟩
        case measure => simp [intOf]; omega
      · have : k = len := by omega
        subst this
        have hby := wire_Bytes wr _ _ _ hwr
        have heq := eq_lists (ba (encAll (xs.take k)))
        generalize ba (encAll (xs.take k)) = S at hby heq hsz1
        clear hwr hsm
        go_wp2_with (first
          | (go_at_call 12; refine hby.mono ?_; rintro e w4 ⟨rfl, rfl⟩)
          | (go_at_call 9; refine (law_head _).mono ?_; rintro e w5 ⟨rfl, hb5⟩))
        go_ret
        exact ⟨rfl, below_next hbr hb5⟩

end Go.Proofs.Ytimemfkhmfhffaa
