/-
  The law DotRange: a replica's dots from one number up to another one.
-/
import Derived.Test.YtmjmgjdklhdcdaaHead
import Derived.Test.YtmjmgjdklhdcdaaArg
namespace Go.Proofs.Ytmjmgjdklhdcdaa
set_option linter.unusedVariables false
set_option linter.unusedSimpArgs false
open Go Go.RowKit

/-- What a call leaves that makes a row and a status. -/
def REPost (w : World) (l : List Dot) (x : Int) (e : Ending) (w' : World) : Prop := ∃ v, e = .returned (.tuple #[v, .int .i64 x]) ∧ DotsV w' v l ∧ Below w.heap.size w w'
theorem rng_ok {r f t : Nat} (hr : r < 256) (hf : f < 4294967296) (ht : t < 4294967296) : ∀ d ∈ rngD r f t, d.ok := by
  intro d hd
  unfold rngD at hd
  split at hd
  · simp only [dotsFrom, List.mem_map, List.mem_range] at hd
    obtain ⟨i, hi, rfl⟩ := hd
    exact ⟨hr, by show f + i < _; omega⟩
  · cases hd
theorem REPost.of {w w' : World} {r f t : Nat} {e : Ending} (hok : ∀ d ∈ rngD r f t, d.ok) (h : RngPost w r f t e w') : REPost w (rngD r f t) (rngE r f t) e w' := by
  obtain ⟨v, he, hr, hB⟩ := h
  exact ⟨v, he, owns_dotsV hr hok, hB⟩

set_option maxHeartbeats 2000000 in
theorem law_DotRange (a0 a1 a2 : Int) (w0 : (Lit.int .u8 a0).wf = true) (w1 : (Lit.int .u32 a1).wf = true) (w2 : (Lit.int .u32 a2).wf = true) (w : World) :
    Calls Try.prog 4 #[.int .u8 a0, .int .u32 a1, .int .u32 a2] w fun e w' => e = .returned (.bool true) ∧ Below w.heap.size w w' := by
  obtain ⟨r, rfl, hr⟩ := arg8 w0
  obtain ⟨f, rfl, hf⟩ := arg32 w1
  obtain ⟨t, rfl, ht⟩ := arg32 w2
  have hP : ∀ W, Calls Try.prog 17 #[.int .u8 (r : Int), .int .u32 (f : Int), .int .u32 (t : Int)] W (REPost W (rngD r f t) (rngE r f t)) :=
    fun W => Calls.mono (dot_Range r f t hr hf ht W) fun _ _ h => REPost.of (rng_ok hr hf ht) h
  have hQ : ∀ W, Calls Try.prog 18 #[.int .u8 (r : Int), .int .u32 (f : Int), .int .u32 (t : Int)] W (REPost W (rngD r f t) (rngE r f t)) :=
    fun W => Calls.mono (ref_Range r f t hr hf ht W) fun _ _ h => REPost.of (rng_ok hr hf ht) h
  generalize rngD r f t = L at hP hQ
  generalize rngE r f t = E at hP hQ
  go_enter Try.func4, Try.ntmps4
  go_wp2_with fail
  refine (hP _).mono ?_
  rintro e w1 ⟨v, rfl, hv, hB1⟩
  go_wp2_with fail
  refine (hQ _).mono ?_
  rintro e w2 ⟨v', rfl, hv', hB2⟩
  go_wp2_with fail
  refine (same_true _ _ L _ (hv.keep hB2) hv').mono ?_
  rintro e w3 ⟨rfl, hB3⟩
  go_wp2_with fail
  refine (law_head _).mono ?_
  rintro e w4 ⟨rfl, hB4⟩
  go_wp2
  go_ret
  have H1 := hB1.trans (hB2.mono hB1.size)
  have H2 := H1.trans (hB3.mono H1.size)
  exact ⟨rfl, H2.trans (hB4.mono H2.size)⟩

end Go.Proofs.Ytmjmgjdklhdcdaa
