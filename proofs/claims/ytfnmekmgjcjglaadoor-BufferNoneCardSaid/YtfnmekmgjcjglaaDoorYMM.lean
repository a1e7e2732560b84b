/-
  Rows that read alike but for where their lines lie: what is the same of both; what a cut row knows and finds.
-/
import Derived.Test.YtfnmekmgjcjglaaDoorYMH
import Derived.Test.YtfnmekmgjcjglaaDoorYML
namespace Go.Proofs.YtfnmekmgjcjglaaDoor.V
set_option linter.unusedVariables false
set_option linter.unusedSimpArgs false
set_option maxRecDepth 100000
open Go Go.RowKit Go.Maps Wire
set_option maxRecDepth 100000
set_option linter.unusedVariables false
set_option linter.unusedSimpArgs false
theorem dt_core (x : OC) : dt (core x) = dt x := rfl
theorem known_map (l : List OC) : knownM (l.map core) = knownM l := by
  funext r
  unfold knownM
  rw [List.foldl_map]
  rfl
theorem find_map (l : List OC) (d : Dot) : findM (l.map core) d = (findM l d).map core := by
  unfold findM
  rw [List.find?_map]
  rfl
/-! ### histories -/
theorem hist_map (n : Int) (l : List OC) : histM n (l.map core) = histM n l := by
  have h1 : okAll n (l.map core) ↔ okAll n l := by
    unfold okAll
    simp only [List.forall_mem_map]
    exact Iff.rfl
  have h2 : IsHist (l.map core) ↔ IsHist l := by
    unfold IsHist Follows
    rw [List.map_map]
    refine and_congr Iff.rfl ?_
    simp only [List.forall_mem_map]
    refine forall_congr' fun x => forall_congr' fun _ => forall_congr' fun r => forall_congr' fun _ => forall_congr' fun _ => ?_
    constructor
    · rintro ⟨y, hy, h⟩
      obtain ⟨z, hz, rfl⟩ := List.mem_map.1 hy
      exact ⟨z, hz, h⟩
    · rintro ⟨y, hy, h⟩
      exact ⟨core y, List.mem_map_of_mem hy, h⟩
  unfold histM
  by_cases h : n < 1 ∨ 8 < n
  · rw [if_pos h, if_pos h]
  · rw [if_neg h, if_neg h]
    by_cases h3 : okAll n l
    · rw [if_pos h3, if_pos (h1.2 h3)]
      by_cases h4 : IsHist l
      · rw [if_pos h4, if_pos (h2.2 h4)]
      · rw [if_neg h4, if_neg (fun h5 => h4 (h2.1 h5))]
    · rw [if_neg h3, if_neg (fun h5 => h3 (h1.1 h5))]
theorem SortOf.map {l s : List OC} (h : SortOf l s) : SortOf (l.map core) (s.map core) := by
  refine ⟨?_, fun x => ?_⟩
  · rw [List.pairwise_map]
    exact h.inc
  · rw [show (l.map core).find? (fun y => dt y == dt x) = (l.find? fun y => dt y == dt x).map core from find_map l (dt x)]
    constructor
    · intro hx
      obtain ⟨y, hy, rfl⟩ := List.mem_map.1 hx
      rw [dt_core, (h.mem y).1 hy]
      rfl
    · intro hf
      obtain ⟨y, hy, rfl⟩ := Option.map_eq_some_iff.1 hf
      rw [dt_core] at hy
      exact List.mem_map_of_mem ((h.mem y).2 hy)
end Go.Proofs.YtfnmekmgjcjglaaDoor.V
namespace Go.Proofs.YtfnmekmgjcjglaaDoor.V
set_option linter.unusedVariables false
set_option linter.unusedSimpArgs false
set_option maxRecDepth 100000
open Go Go.RowKit Go.Maps Wire
set_option maxRecDepth 100000
set_option linter.unusedVariables false
set_option linter.unusedSimpArgs false
def two (x y : Vec) : Array Value := vc x ++ vc y
def mixV (x y : Vec) (r : Nat) : Vec := fun i => if i < r then min (x i) (y i) else x i
end Go.Proofs.YtfnmekmgjcjglaaDoor.V
namespace Go.Proofs.YtfnmekmgjcjglaaDoor.V
set_option linter.unusedVariables false
set_option linter.unusedSimpArgs false
set_option maxRecDepth 100000
open Go Go.RowKit Go.Maps Wire
set_option maxRecDepth 100000
set_option linter.unusedVariables false
set_option linter.unusedSimpArgs false
/-- A row that reads as another one. -/
def RowAs (m : List OC) (v : Value) (w : World) : Prop := ∃ l, OpsV w v l ∧ l.map core = m.map core
theorem RowAs.keep {m : List OC} {v : Value} {w w' : World} (h : RowAs m v w) (hb : Below w.heap.size w w') : RowAs m v w' := by
  obtain ⟨l, h1, h2⟩ := h
  exact ⟨l, h1.keep hb, h2⟩
end Go.Proofs.YtfnmekmgjcjglaaDoor.V
