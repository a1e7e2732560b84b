/-
  The laws' head: what its calls answer.
-/
import Derived.Test.YtmjmgjdklhdcdaaHeadM
import Derived.Deep.RegionHeld3
import Derived.Deep.DrawnRows
namespace Go.Proofs.Ytmjmgjdklhdcdaa
set_option linter.unusedVariables false
set_option linter.unusedSimpArgs false
open Go Go.RowKit Go.Maps

/-- What the head's last statement holds on to. -/
structure HeadS (w6 : World) (v : Value) (W : World) : Prop where
  v : DotsV W v [(1, 3), (1, 4), (1, 5)]
  below : Below w6.heap.size w6 W
theorem HeadS.keep {w6 : World} {v : Value} {W W' : World} (h : HeadS w6 v W) (hB : Below W.heap.size W W') : HeadS w6 v W' := ⟨h.v.keep hB, h.below.trans (hB.mono h.below.size)⟩
theorem below_al (W : World) (o : Obj) : Below W.heap.size W (W.alloc o) := (Below.refl _ _).alloc (Nat.le_refl _) o
theorem below_dr (W : World) : Below W.heap.size W W.drew := (Below.refl _ _).drew
theorem new_dotsG (W : World) (g : Nat) (l : List Dot) (cs : Array Value) (n : Nat) (hg : g = W.heap.size) (hn : n = l.length) (hcs : cs = (flat l).toArray) (hok : ∀ d ∈ l, d.ok) (hl : l.length ≤ 1000000) :
    DotsV (W.alloc (.cells cs 24)) (.slice (some ⟨g, 0, none⟩) n n) l := hg ▸ new_dotsV W l cs n hn hcs hok hl

theorem key35 (W : World) : Calls Try.prog 8 #[.agg #[.int .u8 3, .int .u32 5]] W fun e w' => e = .returned (.tuple #[.int .u64 43, .int .i64 0]) ∧ Below W.heap.size W w' := dot_Key (3, 5) ⟨by decide, by decide⟩ W
theorem key81 (W : World) : Calls Try.prog 8 #[.agg #[.int .u8 8, .int .u32 1]] W fun e w' => e = .returned (.tuple #[.int .u64 0, .int .i64 2]) ∧ Below W.heap.size W w' := dot_Key (8, 1) ⟨by decide, by decide⟩ W
theorem key10 (W : World) : Calls Try.prog 8 #[.agg #[.int .u8 1, .int .u32 0]] W fun e w' => e = .returned (.tuple #[.int .u64 0, .int .i64 2]) ∧ Below W.heap.size W w' := dot_Key (1, 0) ⟨by decide, by decide⟩ W
theorem of43 (W : World) : Calls Try.prog 10 #[.int .u64 43] W fun e w' => e = .returned (.tuple #[.agg #[.int .u8 3, .int .u32 5], .int .i64 0]) ∧ Below W.heap.size W w' := dot_Of 43 (by decide) W
theorem of7 (W : World) : Calls Try.prog 10 #[.int .u64 7] W fun e w' => e = .returned (.tuple #[.agg #[.int .u8 0, .int .u32 0], .int .i64 5]) ∧ Below W.heap.size W w' := dot_Of 7 (by decide) W
theorem cmp1 (W : World) : Calls Try.prog 14 #[.agg #[.int .u8 1, .int .u32 9], .agg #[.int .u8 2, .int .u32 1]] W fun e w' => e = .returned (.int .i64 (-1)) ∧ Below W.heap.size W w' := compare_below (1, 9) (2, 1) W
theorem cmp2 (W : World) : Calls Try.prog 14 #[.agg #[.int .u8 2, .int .u32 1], .agg #[.int .u8 2, .int .u32 1]] W fun e w' => e = .returned (.int .i64 0) ∧ Below W.heap.size W w' := compare_below (2, 1) (2, 1) W
def rg135 : List Dot := [(1, 3), (1, 4), (1, 5)]
def rows3 : List Dot := [(2, 1), (1, 2), (2, 1)]
def rows3s : List Dot := [(1, 2), (2, 1)]
def rows2 : List Dot := [(1, 1), (1, 2)]
def rows1 : List Dot := [(1, 2)]
def rows0 : List Dot := [(1, 1)]
theorem okd {l : List Dot} (h : (l.all fun d => decide (d.1 < 256) && decide (d.2 < 4294967296)) = true) : ∀ d ∈ l, d.ok := fun d hd => by
  have := List.all_eq_true.1 h d hd
  simp at this
  exact this
theorem range135 (W : World) : Calls Try.prog 17 #[.int .u8 1, .int .u32 3, .int .u32 5] W fun e w' => ∃ v, e = .returned (.tuple #[v, .int .i64 0]) ∧ DotsV w' v rg135 ∧ Below W.heap.size W w' :=
  Calls.mono (dot_Range 1 3 5 (by decide) (by decide) (by decide) W) fun e w' hp => by
    obtain ⟨v, he, hr, hB⟩ := hp
    have h1 : rngD 1 3 5 = rg135 := by decide
    have h2 : rngE 1 3 5 = 0 := by decide
    rw [h1] at hr
    rw [h2] at he
    exact ⟨v, he, owns_dotsV hr (okd (by decide)), hB⟩
theorem sort3 (v : Value) (W : World) (h : DotsV W v rows3) : Calls Try.prog 20 #[v] W (VPost W rows3s) := by
  have k := p_Sort v rows3 W h (by decide)
  rw [show can rows3 = rows3s by decide] at k
  exact k
theorem minus2 (v v' : Value) (W : World) (h : DotsV W v rows2) (h' : DotsV W v' rows1) : Calls Try.prog 26 #[v, v'] W (VPost W rows0) := by
  have k := p_Minus v v' rows2 rows1 W h h' (by decide) (by decide)
  rw [show lessD rows2 rows1 = rows0 by decide] at k
  exact k
theorem eq35 (W : World) : (binOp .eql 24 (.agg #[.int .u8 3, .int .u32 5]) (.agg #[.int .u8 3, .int .u32 5])).run Try.prog W = .ok (.bool true) W := run_eql 3 5 3 5 W

theorem DotsV.dr {w : World} {v : Value} {l : List Dot} (h : DotsV w v l) : DotsV w.drew v l := h.keep (below_dr w)

end Go.Proofs.Ytmjmgjdklhdcdaa
