/-
  What the law DotSums says of rows, in lists.
-/
import Derived.Test.YtmjmgjdklhdcdaaHead
import Derived.Test.YtmjmgjdklhdcdaaArg
namespace Go.Proofs.Ytmjmgjdklhdcdaa
set_option linter.unusedVariables false
set_option linter.unusedSimpArgs false
open Go Go.RowKit

theorem inB_iff (l : List Dot) (d : Dot) : inB l d = true ↔ d ∈ l := by simp [inB]
theorem mem_uniD (l l' : List Dot) (d : Dot) : d ∈ uniD l l' ↔ d ∈ l ∨ d ∈ l' := by unfold uniD; rw [mem_can, List.mem_append]
theorem mem_bothD (l l' : List Dot) (d : Dot) : d ∈ bothD l l' ↔ d ∈ l ∧ d ∈ l' := by unfold bothD; rw [mem_can, List.mem_filter, inB_iff]
theorem mem_lessD (l l' : List Dot) (d : Dot) : d ∈ lessD l l' ↔ d ∈ l ∧ ¬ d ∈ l' := by
  unfold lessD; rw [mem_can, List.mem_filter]
  constructor
  · rintro ⟨h, k⟩
    exact ⟨h, fun e => by rw [(inB_iff l' d).2 e] at k; cases k⟩
  · rintro ⟨h, k⟩
    refine ⟨h, ?_⟩
    cases e : inB l' d with
    | false => rfl
    | true => exact absurd ((inB_iff l' d).1 e) k

theorem sum_len (z0 z1 : List Dot) : (bothD z0 z1).length + (lessD z0 z1).length = (can z0).length := by
  unfold bothD lessD
  rw [← can_filter, ← can_filter]
  generalize can z0 = l
  induction l with
  | nil => rfl
  | cons d t ih =>
    cases h : inB z1 d <;> simp [List.filter_cons, h] <;> omega
theorem sum_uni (z0 z1 : List Dot) : uniD (bothD z0 z1) (lessD z0 z1) = can z0 :=
  inc_unique (can_inc _) (can_inc _) fun d => by
    show d ∈ uniD _ _ ↔ _
    rw [mem_uniD, mem_bothD, mem_lessD, mem_can]
    constructor
    · rintro (h | h) <;> exact h.1
    · intro h
      by_cases k : d ∈ z1
      · exact .inl ⟨h, k⟩
      · exact .inr ⟨h, k⟩
theorem less_uni (z0 z1 : List Dot) : uniD (lessD z0 z1) z1 = uniD z0 z1 :=
  inc_unique (can_inc _) (can_inc _) fun d => by
    show d ∈ uniD _ _ ↔ d ∈ uniD _ _
    rw [mem_uniD, mem_uniD, mem_lessD]
    constructor
    · rintro (h | h)
      · exact .inl h.1
      · exact .inr h
    · intro h
      by_cases k : d ∈ z1
      · exact .inr k
      · exact .inl ⟨h.resolve_right k, k⟩
theorem uni_swap (z0 z1 : List Dot) : uniD z1 z0 = uniD z0 z1 :=
  inc_unique (can_inc _) (can_inc _) fun d => by
    show d ∈ uniD _ _ ↔ d ∈ uniD _ _
    rw [mem_uniD, mem_uniD]; exact Or.comm
theorem both_swap (z0 z1 : List Dot) : bothD z1 z0 = bothD z0 z1 :=
  inc_unique (can_inc _) (can_inc _) fun d => by
    show d ∈ bothD _ _ ↔ d ∈ bothD _ _
    rw [mem_bothD, mem_bothD]; exact And.comm
theorem can_can (z0 z1 : List Dot) : can (uniD z0 z1) = uniD z0 z1 :=
  inc_unique (can_inc _) (can_inc _) fun d => by rw [mem_can]
theorem less_both (z0 z1 : List Dot) : bothD (lessD z0 z1) z1 = [] :=
  List.eq_nil_iff_forall_not_mem.2 fun d h => by
    rw [mem_bothD, mem_lessD] at h
    exact h.1.2 h.2
theorem inc_uni (z0 z1 : List Dot) : Inc (uniD z0 z1) := can_inc _
theorem len_uni (z0 z1 : List Dot) : (uniD z0 z1).length ≤ z0.length + z1.length := by
  have := length_can (z0 ++ z1)
  rw [List.length_append] at this
  exact this
theorem len_both (z0 z1 : List Dot) : (bothD z0 z1).length ≤ z0.length := Nat.le_trans (length_can _) (List.length_filter_le _ _)
theorem len_less (z0 z1 : List Dot) : (lessD z0 z1).length ≤ z0.length := Nat.le_trans (length_can _) (List.length_filter_le _ _)

/-- What a call leaves that makes a row: its slice, its length in sight. -/
def SPost (w : World) (l : List Dot) (e : Ending) (w' : World) : Prop := ∃ a cap, e = .returned (.slice a l.length cap) ∧ IsDots w' a l.length cap l ∧ Below w.heap.size w w'
theorem SPost.of {w : World} {l : List Dot} {e : Ending} {w' : World} (h : VPost w l e w') : SPost w l e w' := by
  obtain ⟨u, rfl, ⟨a, len, cap, rfl, hI⟩, hB⟩ := h
  obtain rfl : l.length = len := hI.1
  exact ⟨a, cap, rfl, hI, hB⟩
theorem IsDots.toV {w : World} {a : Option Addr} {len cap : Nat} {z : List Dot} (h : IsDots w a len cap z) : DotsV w (.slice a len cap) z := ⟨_, _, _, rfl, h⟩
theorem inc_at {l : List Dot} (h : Inc l) {j : Nat} {x y : Dot} (hx : l[j]? = some x) (hy : l[j + 1]? = some y) : cmpD x y = -1 := by
  obtain ⟨h1, rfl⟩ := List.getElem?_eq_some_iff.1 hx
  obtain ⟨h2, rfl⟩ := List.getElem?_eq_some_iff.1 hy
  have := List.pairwise_iff_getElem.1 h j (j + 1) h1 h2 (Nat.lt_succ_self j)
  rw [cmpD_eq, if_pos this]

end Go.Proofs.Ytmjmgjdklhdcdaa
