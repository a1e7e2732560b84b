/-
  dot.Both, dot.Minus.
-/
import Derived.Test.YtmjmgjdklhdcdaaDelA
import Derived.Test.YtmjmgjdklhdcdaaDelB
import Derived.Test.YtmjmgjdklhdcdaaDotB
import Derived.Maps.AppendAt
namespace Go.Proofs.Ytmjmgjdklhdcdaa
set_option linter.unusedVariables false
set_option linter.unusedSimpArgs false
open Go Go.RowKit Go.Maps Go.Sort Go.Shelf

theorem SetAt.block {w : World} {b : Nat} {l : List Dot} (h : SetAt w b l) : ∃ es clock, w.heap[b]? = some (.map es clock) := by
  obtain ⟨n, D, ⟨es, clock, h1, _⟩, _⟩ := h
  exact ⟨es, clock, h1⟩
theorem SetAt.setCell {w : World} {b : Nat} {l : List Dot} (h : SetAt w b l) {a : Addr} (ha : b ≠ a.block) (u : Value) : SetAt (w.setCell a u) b l := by
  obtain ⟨n, D, h, r⟩ := h
  exact ⟨n, D, h.setCell ha u, r⟩

theorem delete_minus (v : Value) (b B0 : Nat) (l bl : List Dot) (w : World) (h : w.ownsRow B0 24 2 v l.length (flat l)) (hl : l.length ≤ 1000000) (hok : ∀ d ∈ l, d.ok) (hB0 : B0 ≤ w.heap.size) (hS : SetAt w b bl) :
    Calls Try.prog 36 #[v, .func (.func 38) #[.map (some b)] #[]] w (DelPost w B0 (l.filter fun d => !inB bl d)) := by
  rcases h.2 with ⟨rfl, h0⟩ | ⟨g, cap, cur, rfl, hgb, hg, hcap, hm, hsz, ht⟩
  · obtain rfl : l = [] := List.length_eq_zero_iff.1 h0
    refine (delete_none_A b w).mono ?_
    rintro e w' ⟨rfl, rfl⟩
    exact ⟨_, rfl, h, Below.refl _ _⟩
  · have hbg : b ≠ g := fun e => by
      obtain ⟨es, clock, hb⟩ := hS.block
      rw [e, hg] at hb; cases hb
    exact delete_A b g cur.size cap B0 l w (inB bl) (fun W => SetAt W b bl) (fun W r n hr hn hX => set_has b bl (r, n) ⟨hr, hn⟩ W hX) (fun W W' hX hB => hX.keep hB hX.lt)
      (fun W j u hX => hX.setCell hbg u) hgb ⟨cur, hg, rfl, by omega, ht⟩ hl hsz hcap hm hB0 hok hS

theorem delete_both (v : Value) (b bx B0 : Nat) (l bl : List Dot) (w : World) (h : w.ownsRow B0 24 2 v l.length (flat l)) (hl : l.length ≤ 1000000) (hok : ∀ d ∈ l, d.ok) (hB0 : B0 ≤ w.heap.size) (hS : SetAt w b bl)
    (hbx : w.heap[bx]? = some (.cells #[.map (some b)] 56 (0, 0))) :
    Calls Try.prog 36 #[v, .func (.func 37) #[] #[.pointer (some ⟨bx, 0, none⟩)]] w (DelPost w B0 (l.filter fun d => inB bl d)) := by
  rcases h.2 with ⟨rfl, h0⟩ | ⟨g, cap, cur, rfl, hgb, hg, hcap, hm, hsz, ht⟩
  · obtain rfl : l = [] := List.length_eq_zero_iff.1 h0
    refine (delete_none_B bx w).mono ?_
    rintro e w' ⟨rfl, rfl⟩
    exact ⟨_, rfl, h, Below.refl _ _⟩
  · have hbg : b ≠ g := fun e => by
      obtain ⟨es, clock, hb⟩ := hS.block
      rw [e, hg] at hb; cases hb
    have hxg : bx ≠ g := fun e => by
      rw [e, hg] at hbx; cases hbx
    have hcell : ∀ W : World, W.heap[bx]? = some (.cells #[.map (some b)] 56 (0, 0)) → W.cell? ⟨bx, 0, none⟩ = some (.map (some b)) := fun W hW => by simp [World.cell?, hW]
    have hcon := delete_B bx g cur.size cap B0 l w (fun d => !inB bl d) (fun W => SetAt W b bl ∧ W.heap[bx]? = some (.cells #[.map (some b)] 56 (0, 0)))
      (fun W r n hr hn hX => both_not b bx bl (r, n) ⟨hr, hn⟩ W hX.1 (hcell W hX.2)) (fun W W' hX hB => ⟨hX.1.keep hB hX.1.lt, (hB.block bx (Array.getElem?_eq_some_iff.1 hX.2).1).trans hX.2⟩)
      (fun W j u hX => ⟨hX.1.setCell hbg u, (heap_setCell_other W ⟨g, j, none⟩ bx u hxg).trans hX.2⟩) hgb ⟨cur, hg, rfl, by omega, ht⟩ hl hsz hcap hm hB0 hok ⟨hS, hbx⟩
    simpa using hcon

set_option maxHeartbeats 1000000 in
theorem dot_Minus (v1 v2 : Value) (l1 l2 : List Dot) (w : World) (hv1 : DotsV w v1 l1) (hv2 : DotsV w v2 l2) (hl1 : l1.length ≤ 1000000) (hl2 : l2.length ≤ 1000000) :
    Calls Try.prog 26 #[v1, v2] w (RowPost w (can (l1.filter fun d => !inB l2 d))) := by
  have hok : ∀ d ∈ can l1, d.ok := by obtain ⟨a, len, cap, _, h⟩ := hv1; exact can_ok h.2.2.2.1
  have hlc : (can l1).length ≤ 1000000 := Nat.le_trans (length_can l1) hl1
  have hsort := dot_Sort v1 l1 w hv1 hl1
  obtain ⟨a, len, cap, rfl, hI⟩ := hv2
  have hset := fun (w1 : World) (hB : Below w.heap.size w w1) => dot_setOf w1.heap.size [(.slice a len cap, l2)] (w1.alloc (.cells #[.slice a len cap] 39)) (fun i v l' h => by
    match i, h with
    | 0, h => simp at h; obtain ⟨rfl, rfl⟩ := h; exact ⟨by simp, a, len, cap, rfl, (hI.keep hB).keep ((Below.refl _ _).alloc (Nat.le_refl _) _)⟩
    | i + 1, h => simp at h) (by simp) (by simpa using hl2)
  simp only [List.length_singleton, List.flatMap_cons, List.flatMap_nil, List.append_nil] at hset
  have HI := hid hI
  have HOK := hid hok
  clear hI hok
  rw [← can_filter]
  go_enter Try.func26, Try.ntmps26
  go_wp2_with (first
    | (go_at_call 20; refine hsort.mono ?_; rintro e w1 ⟨v, rfl, hr, hB1⟩; have HR := hid hr; have hset1 := hset w1 hB1; clear hr hset)
    | (go_at_call 33; refine hset1.mono ?_; rintro e w2 ⟨b, rfl, hbb, hS, hB2⟩; have HS := hid hS; have HB2 := hid (((Below.refl w1.heap.size w1).alloc (Nat.le_refl _) (.cells #[.slice a len cap] 39)).trans (hB2.mono (by simp))); clear hS hB2 hset1)
    | (go_at_call 36; refine (delete_minus v b w.heap.size (can l1) l2 _ (owns_below HR.out HB2.out) hlc HOK.out (Nat.le_trans hB1.size HB2.out.size) HS.out).mono ?_; rintro e w3 ⟨v3, rfl, hr3, hB3⟩; have HR3 := hid hr3; clear hr3))
  go_ret
  exact ⟨v3, rfl, HR3.out, (hB1.trans (HB2.out.mono hB1.size)).trans hB3⟩

set_option maxHeartbeats 1000000 in
theorem dot_Both (v1 v2 : Value) (l1 l2 : List Dot) (w : World) (hv1 : DotsV w v1 l1) (hv2 : DotsV w v2 l2) (hl1 : l1.length ≤ 1000000) (hl2 : l2.length ≤ 1000000) :
    Calls Try.prog 24 #[v1, v2] w (RowPost w (can (l1.filter fun d => inB l2 d))) := by
  have hok : ∀ d ∈ can l1, d.ok := by obtain ⟨a, len, cap, _, h⟩ := hv1; exact can_ok h.2.2.2.1
  have hlc : (can l1).length ≤ 1000000 := Nat.le_trans (length_can l1) hl1
  have hsort := fun (w1 : World) (hB : Below w.heap.size w w1) => dot_Sort v1 l1 w1 (hv1.keep hB) hl1
  obtain ⟨a, len, cap, rfl, hI⟩ := hv2
  obtain ⟨a', len', cap', rfl, hI'⟩ := hv1
  have hb1 : Below w.heap.size w (w.alloc (.cells #[.slice a len cap] 39)) := (Below.refl _ _).alloc (Nat.le_refl _) _
  have hset := dot_setOf w.heap.size [(.slice a len cap, l2)] (w.alloc (.cells #[.slice a len cap] 39)) (fun i v l' h => by
    match i, h with
    | 0, h => simp at h; obtain ⟨rfl, rfl⟩ := h; exact ⟨by simp, a, len, cap, rfl, hI.keep hb1⟩
    | i + 1, h => simp at h) (by simp) (by simpa using hl2)
  simp only [List.length_singleton, List.flatMap_cons, List.flatMap_nil, List.append_nil] at hset
  have HOK := hid hok
  clear hI hok hI'
  rw [← can_filter]
  go_enter Try.func24, Try.ntmps24
  go_wp2_with (first
    | (go_at_call 33; refine hset.mono ?_; rintro e w1 ⟨b, rfl, hbb, hS, hB2⟩; have HB1 := hid (hb1.trans (hB2.mono hb1.size)); have HS := hid hS; clear hS hB2 hset)
    | (go_at_call 20; refine (hsort _ (HB1.out.alloc HB1.out.size _)).mono ?_; rintro e w2 ⟨v, rfl, hr, hB2⟩; have HR := hid hr; have HB2 := hid hB2; clear hr hsort hB2)
    | (go_at_call 36; refine (delete_both v b w1.heap.size _ (can l1) l2 _ HR.out hlc HOK.out HB2.out.size (HS.out.keep (Below.trans (((Below.refl w1.heap.size w1).alloc (Nat.le_refl _) (.cells #[.map (some b)] 56))) (HB2.out.mono (by simp))) HS.out.lt) ((HB2.out.block w1.heap.size (by simp)).trans (heap_alloc_last' _ _))).mono ?_; rintro e w3 ⟨v3, rfl, hr3, hB3⟩; have HR3 := hid hr3; have HB3 := hid hB3; clear hr3 hB3))
  go_ret
  have hA : Below w.heap.size w (w1.alloc (.cells #[.map (some b)] 56)) := HB1.out.alloc HB1.out.size _
  exact ⟨v3, rfl, ownsRow_base HR3.out hA.size, (hA.trans (HB2.out.mono hA.size)).trans (HB3.out.mono hA.size)⟩

end Go.Proofs.Ytmjmgjdklhdcdaa
