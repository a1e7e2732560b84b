/-
  dot.set's inOrder, dot.Sort, dot.Union.
-/
import Derived.Test.YtmjmgjdklhdcdaaDotU
import Derived.Maps.AppendAt
namespace Go.Proofs.Ytmjmgjdklhdcdaa
set_option linter.unusedVariables false
set_option linter.unusedSimpArgs false
open Go Go.RowKit Go.Maps Go.Sort Go.Shelf

set_option maxHeartbeats 1000000 in
theorem in_order (b : Nat) (l : List Dot) (w : World) (hS : SetAt w b l) (hl : l.length ≤ 1000000) :
    Calls Try.prog 34 #[.map (some b)] w (RowPost w (can l)) := by
  obtain ⟨n, D, hown, hn, hK⟩ := hS
  have hsz : Maps.size D ≤ 1000000 := by have := hown.size_le; omega
  have hb1 : Below w.heap.size w (w.alloc (.cells #[.map (some b)] 56)) := (Below.refl _ _).alloc (Nat.le_refl _) _
  have hcon := sorted_func w.heap.size b n D (w.alloc (.cells #[.map (some b)] 56)) (by simp) (by simp) (hown.alloc _) hsz l hl hK
  have hcon' := Calls.mono hcon (fun e w' h => h.after hb1)
  clear hown hK hcon
  go_enter Try.func34, Try.ntmps34
  go_wp2_with (first
    | (go_at_call 43; refine (keys_call (some b) w).mono ?_; rintro e w1 ⟨rfl, rfl⟩)
    | (go_at_call 42; refine hcon'.mono ?_; rintro e w2 ⟨v, rfl, hr, hB⟩; have HR := hid hr; clear hr))
  go_ret
  exact ⟨v, rfl, HR.out, hB⟩

set_option maxHeartbeats 1000000 in
theorem dot_Sort (v : Value) (l : List Dot) (w : World) (hv : DotsV w v l) (hl : l.length ≤ 1000000) :
    Calls Try.prog 20 #[v] w (RowPost w (can l)) := by
  obtain ⟨a, len, cap, rfl, hI⟩ := hv
  have hb1 : Below w.heap.size w (w.alloc (.cells #[.slice a len cap] 39)) := (Below.refl _ _).alloc (Nat.le_refl _) _
  have hset := dot_setOf w.heap.size [(.slice a len cap, l)] (w.alloc (.cells #[.slice a len cap] 39)) (fun i v l' h => by
    match i, h with
    | 0, h => simp at h; obtain ⟨rfl, rfl⟩ := h; exact ⟨by simp, a, len, cap, rfl, hI.keep hb1⟩
    | i + 1, h => simp at h) (by simp) (by simpa using hl)
  simp only [List.length_singleton, List.flatMap_cons, List.flatMap_nil, List.append_nil] at hset
  have HI := hid hI
  clear hI
  go_enter Try.func20, Try.ntmps20
  go_wp2_with (first
    | (go_at_call 33; refine hset.mono ?_; rintro e w1 ⟨b, rfl, hbb, hS, hB⟩; have hB1 := hb1.trans (hB.mono hb1.size); have HS := hid hS; clear hS)
    | (go_at_call 34; refine (in_order b l _ HS.out hl).mono ?_; intro e w2 hP; obtain ⟨v2, rfl, hr, hB2⟩ := hP.after hB1; have HR := hid hr; clear hr hP))
  go_ret
  exact ⟨v2, rfl, HR.out, hB2⟩

set_option maxHeartbeats 1000000 in
theorem dot_Union (v1 v2 : Value) (l1 l2 : List Dot) (w : World) (hv1 : DotsV w v1 l1) (hv2 : DotsV w v2 l2) (hl : l1.length + l2.length ≤ 1000000) :
    Calls Try.prog 22 #[v1, v2] w (RowPost w (can (l1 ++ l2))) := by
  obtain ⟨a, len, cap, rfl, hI⟩ := hv1
  obtain ⟨a', len', cap', rfl, hI'⟩ := hv2
  have hb1 : Below w.heap.size w (w.alloc (.cells #[.slice a len cap, .slice a' len' cap'] 39)) := (Below.refl _ _).alloc (Nat.le_refl _) _
  have hset := dot_setOf w.heap.size [(.slice a len cap, l1), (.slice a' len' cap', l2)] (w.alloc (.cells #[.slice a len cap, .slice a' len' cap'] 39)) (fun i v l' h => by
    match i, h with
    | 0, h => simp at h; obtain ⟨rfl, rfl⟩ := h; exact ⟨by simp, a, len, cap, rfl, hI.keep hb1⟩
    | 1, h => simp at h; obtain ⟨rfl, rfl⟩ := h; exact ⟨by simp, a', len', cap', rfl, hI'.keep hb1⟩
    | i + 2, h => simp at h) (by simp) (by simpa using hl)
  simp only [List.length_cons, List.length_nil, List.flatMap_cons, List.flatMap_nil, List.append_nil, Nat.zero_add, Nat.reduceAdd] at hset
  have HI := hid (And.intro hI hI')
  clear hI hI'
  have hll : (l1 ++ l2).length ≤ 1000000 := by simpa using hl
  go_enter Try.func22, Try.ntmps22
  go_wp2_with (first
    | (go_at_call 33; refine hset.mono ?_; rintro e w1 ⟨b, rfl, hbb, hS, hB⟩; have hB1 := hb1.trans (hB.mono hb1.size); have HS := hid hS; clear hS)
    | (go_at_call 34; refine (in_order b (l1 ++ l2) _ HS.out hll).mono ?_; intro e w2 hP; obtain ⟨v2, rfl, hr, hB2⟩ := hP.after hB1; have HR := hid hr; clear hr hP))
  go_ret
  exact ⟨v2, rfl, HR.out, hB2⟩

end Go.Proofs.Ytmjmgjdklhdcdaa
