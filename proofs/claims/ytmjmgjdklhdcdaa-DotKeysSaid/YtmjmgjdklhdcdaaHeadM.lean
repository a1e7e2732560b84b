/-
  What the laws' walks share: worlds behind blocks, a dot made, a slice of dots made.
-/
import Derived.Test.YtmjmgjdklhdcdaaRng2
namespace Go.Proofs.Ytmjmgjdklhdcdaa
set_option linter.unusedVariables false
set_option linter.unusedSimpArgs false
open Go Go.RowKit Go.Maps

theorem st0 {W w' : World} (h : Below W.heap.size W w') : Below W.heap.size W w' := h
theorem st1 {W w' : World} {a : Obj} (h : Below (W.alloc a).heap.size (W.alloc a) w') : Below W.heap.size W w' := ((Below.refl _ W).alloc (Nat.le_refl _) a).trans (h.mono (by simp))
theorem st2 {W w' : World} {a b : Obj} (h : Below ((W.alloc a).alloc b).heap.size ((W.alloc a).alloc b) w') : Below W.heap.size W w' := st1 (st1 h)
theorem st3 {W w' : World} {a b c : Obj} (h : Below (((W.alloc a).alloc b).alloc c).heap.size (((W.alloc a).alloc b).alloc c) w') : Below W.heap.size W w' := st1 (st2 h)
theorem st4 {W w' : World} {a b c d : Obj} (h : Below ((((W.alloc a).alloc b).alloc c).alloc d).heap.size ((((W.alloc a).alloc b).alloc c).alloc d) w') : Below W.heap.size W w' := st1 (st3 h)
theorem st5 {W w' : World} {a b c d e : Obj} (h : Below (((((W.alloc a).alloc b).alloc c).alloc d).alloc e).heap.size (((((W.alloc a).alloc b).alloc c).alloc d).alloc e) w') : Below W.heap.size W w' := st1 (st4 h)

theorem made_d (r n : Int) (w : World) : Calls Try.prog 32 #[.int .u8 r, .int .u32 n] w
      fun e w' => e = .returned (.agg #[.int .u8 r, .int .u32 n]) ∧ w' = w.alloc (.cells #[.int .u8 r, .int .u32 n] 24) := by
  go_enter Try.func32, Try.ntmps32
  go_wp2
  exact bodyPost_ret (results_cell_row rfl _ _ _ _ _ _ _ rfl (heap_alloc_last' _ _) Try.underlying24 rfl (by kernel_rfl)) rfl ⟨rfl, rfl⟩

theorem new_dots (W : World) (l : List Dot) (cs : Array Value) (hcs : cs = (flat l).toArray) (hok : ∀ d ∈ l, d.ok) (hl : l.length ≤ 1000000) :
    IsDots (W.alloc (.cells cs 24)) (some ⟨W.heap.size, 0, none⟩) l.length l.length l := by
  have ho : (W.alloc (.cells cs 24)).ownsRow W.heap.size 24 2 (.slice (some ⟨W.heap.size, 0, none⟩) l.length l.length) l.length (flat l) :=
    ⟨flat_length l, .inr ⟨W.heap.size, l.length, cs, rfl, Nat.le_refl _, heap_alloc_last' _ _, Nat.le_refl _, by unfold maxLen; omega, by rw [hcs]; simp [flat_length], by rw [hcs]; exact List.take_of_length_le (by simp [flat_length])⟩⟩
  obtain ⟨a, cap, hv, hI⟩ := owns_isDots ho hok
  cases hv
  exact hI
theorem new_dotsV (W : World) (l : List Dot) (cs : Array Value) (n : Nat) (hn : n = l.length) (hcs : cs = (flat l).toArray) (hok : ∀ d ∈ l, d.ok) (hl : l.length ≤ 1000000) :
    DotsV (W.alloc (.cells cs 24)) (.slice (some ⟨W.heap.size, 0, none⟩) n n) l := by
  subst hn
  exact ⟨_, _, _, rfl, new_dots W l cs hcs hok hl⟩

theorem ref_SameV (v v' : Value) (xs ys : List Dot) (w : World) (h : DotsV w v xs) (h' : DotsV w v' ys) :
    Calls Try.prog 19 #[v, v'] w fun e w' => e = .returned (.bool (sameB xs ys)) ∧ Below w.heap.size w w' := by
  obtain ⟨a, len, cap, rfl, hI⟩ := h
  obtain ⟨a', len', cap', rfl, hI'⟩ := h'
  exact ref_Same a a' len cap len' cap' xs ys w hI hI'

theorem DotsV.al {w : World} {v : Value} {l : List Dot} (h : DotsV w v l) (o : Obj) : DotsV (w.alloc o) v l := h.keep ((Below.refl _ _).alloc (Nat.le_refl _) o)

/-- What a function that makes a row leaves, its slice as it reads. -/
def VPost (w : World) (c : List Dot) (e : Ending) (w' : World) : Prop := ∃ u, e = .returned u ∧ DotsV w' u c ∧ Below w.heap.size w w'
theorem VPost.of {w w' : World} {c : List Dot} {e : Ending} (h : RowPost w c e w') (hok : ∀ d ∈ c, d.ok) : VPost w c e w' := by
  obtain ⟨v, he, hr, hB⟩ := h
  exact ⟨v, he, owns_dotsV hr hok, hB⟩
theorem DotsV.ok {w : World} {v : Value} {l : List Dot} (h : DotsV w v l) : ∀ d ∈ l, d.ok := by obtain ⟨a, len, cap, _, hI⟩ := h; exact hI.2.2.2.1
theorem filter_ok {l : List Dot} (h : ∀ d ∈ l, d.ok) (p : Dot → Bool) : ∀ d ∈ l.filter p, d.ok := fun d hd => h d (List.mem_filter.1 hd).1
theorem append_ok {l l' : List Dot} (h : ∀ d ∈ l, d.ok) (h' : ∀ d ∈ l', d.ok) : ∀ d ∈ l ++ l', d.ok := fun d hd => by
  rcases List.mem_append.1 hd with hd | hd
  · exact h d hd
  · exact h' d hd

def uniD (l l' : List Dot) : List Dot := can (l ++ l')
def bothD (l l' : List Dot) : List Dot := can (l.filter fun d => inB l' d)
def lessD (l l' : List Dot) : List Dot := can (l.filter fun d => !inB l' d)

theorem p_Sort (v : Value) (l : List Dot) (w : World) (h : DotsV w v l) (hl : l.length ≤ 400000) : Calls Try.prog 20 #[v] w (VPost w (can l)) :=
  Calls.mono (dot_Sort v l w h (by omega)) fun _ _ hp => VPost.of hp (can_ok h.ok)
theorem p_Union (v v' : Value) (l l' : List Dot) (w : World) (h : DotsV w v l) (h' : DotsV w v' l') (hl : l.length ≤ 400000) (hl' : l'.length ≤ 400000) : Calls Try.prog 22 #[v, v'] w (VPost w (uniD l l')) :=
  Calls.mono (dot_Union v v' l l' w h h' (by omega)) fun _ _ hp => VPost.of hp (can_ok (append_ok h.ok h'.ok))
theorem p_Both (v v' : Value) (l l' : List Dot) (w : World) (h : DotsV w v l) (h' : DotsV w v' l') (hl : l.length ≤ 400000) (hl' : l'.length ≤ 400000) : Calls Try.prog 24 #[v, v'] w (VPost w (bothD l l')) :=
  Calls.mono (dot_Both v v' l l' w h h' (by omega) (by omega)) fun _ _ hp => VPost.of hp (can_ok (filter_ok h.ok _))
theorem p_Minus (v v' : Value) (l l' : List Dot) (w : World) (h : DotsV w v l) (h' : DotsV w v' l') (hl : l.length ≤ 400000) (hl' : l'.length ≤ 400000) : Calls Try.prog 26 #[v, v'] w (VPost w (lessD l l')) :=
  Calls.mono (dot_Minus v v' l l' w h h' (by omega) (by omega)) fun _ _ hp => VPost.of hp (can_ok (filter_ok h.ok _))
theorem q_Sort (v : Value) (l : List Dot) (w : World) (h : DotsV w v l) (hl : l.length ≤ 400000) : Calls Try.prog 21 #[v] w (VPost w (can l)) :=
  Calls.mono (ref_SortV v l w h (by omega)) fun _ _ hp => VPost.of hp (can_ok h.ok)
theorem q_Union (v v' : Value) (l l' : List Dot) (w : World) (h : DotsV w v l) (h' : DotsV w v' l') (hl : l.length ≤ 400000) (hl' : l'.length ≤ 400000) : Calls Try.prog 23 #[v, v'] w (VPost w (uniD l l')) := by
  have k := append_ok h.ok h'.ok
  obtain ⟨a, len, cap, rfl, hI⟩ := h
  obtain ⟨a', len', cap', rfl, hI'⟩ := h'
  have e1 := hI.1
  have e2 := hI'.1
  exact Calls.mono (ref_Union a a' len cap len' cap' l l' w hI hI' (by omega)) fun _ _ hp => VPost.of hp (can_ok k)
theorem q_Both (v v' : Value) (l l' : List Dot) (w : World) (h : DotsV w v l) (h' : DotsV w v' l') (hl : l.length ≤ 400000) (hl' : l'.length ≤ 400000) : Calls Try.prog 25 #[v, v'] w (VPost w (bothD l l')) := by
  have k := filter_ok h.ok (fun d => inB l' d)
  obtain ⟨a, len, cap, rfl, hI⟩ := h
  obtain ⟨a', len', cap', rfl, hI'⟩ := h'
  have e1 := hI.1
  have e2 := hI'.1
  exact Calls.mono (ref_Both a a' len cap len' cap' l l' w hI hI' (by omega) (by omega)) fun _ _ hp => VPost.of hp (can_ok k)
theorem q_Minus (v v' : Value) (l l' : List Dot) (w : World) (h : DotsV w v l) (h' : DotsV w v' l') (hl : l.length ≤ 400000) (hl' : l'.length ≤ 400000) : Calls Try.prog 27 #[v, v'] w (VPost w (lessD l l')) := by
  have k := filter_ok h.ok (fun d => !inB l' d)
  obtain ⟨a, len, cap, rfl, hI⟩ := h
  obtain ⟨a', len', cap', rfl, hI'⟩ := h'
  have e1 := hI.1
  have e2 := hI'.1
  exact Calls.mono (ref_Minus a a' len cap len' cap' l l' w hI hI' (by omega) (by omega)) fun _ _ hp => VPost.of hp (can_ok k)
theorem same_true (v v' : Value) (l : List Dot) (w : World) (h : DotsV w v l) (h' : DotsV w v' l) :
    Calls Try.prog 19 #[v, v'] w fun e w' => e = .returned (.bool true) ∧ Below w.heap.size w w' := by
  have k := ref_SameV v v' l l w h h'
  rw [show sameB l l = true by simp [sameB]] at k
  exact k

end Go.Proofs.Ytmjmgjdklhdcdaa
