/-
  Contracts of the document's answer for package wire: numbers and texts read.
-/
import Derived.Test.YtagdapmnghnphaaDoorZJD
import Derived.WalkLawsBesides
namespace Go.Proofs.YtagdapmnghnphaaDoor
open Go Go.RowKit Wire

set_option maxRecDepth 100000
set_option linter.unusedVariables false
set_option linter.unusedSimpArgs false
set_option maxRecDepth 100000
set_option linter.unusedVariables false
set_option linter.unusedSimpArgs false
theorem takeNum_of_none {l : List UInt8} (h : parse l = none) (most : Nat) : takeNum (some l) most = (0, none) := by
  unfold takeNum; rw [Option.bind_some, h]
theorem takeNum_of_some {l r : List UInt8} {n : Nat} (h : parse l = some (n, r)) (most : Nat) : takeNum (some l) most = if n ≤ most then (n, some r) else (0, none) := by
  unfold takeNum; rw [Option.bind_some, h]

theorem rcells_form (st : St) : ∃ X f, rcells st = #[.string X, .bool f] := by
  cases st <;> exact ⟨_, _, rfl⟩

def textRes : St → Nat → Array Value
  | some r, n => if n ≤ r.length then #[.string (ba (r.take n)), .agg #[.string (ba (r.drop n)), .bool true]] else #[.string ⟨#[]⟩, .agg #[.string ⟨#[]⟩, .bool false]]
  | none, _ => #[.string ⟨#[]⟩, .agg #[.string ⟨#[]⟩, .bool false]]

end Go.Proofs.YtagdapmnghnphaaDoor

/-
  Contracts of the document's answer for package wire: dots read.
-/
namespace Go.Proofs.YtagdapmnghnphaaDoor
open Go Go.RowKit Wire

set_option maxRecDepth 100000
set_option linter.unusedVariables false
set_option linter.unusedSimpArgs false
theorem last_three (W : World) (a b c : Obj) : (((W.alloc a).alloc b).alloc c).heap[W.heap.size + 2]? = some c := by
  have := heap_alloc_last ((W.alloc a).alloc b) c
  rw [World.size_alloc, World.size_alloc] at this
  exact this
theorem first_three (W : World) (a b c : Obj) : (((W.alloc a).alloc b).alloc c).heap[W.heap.size]? = some a := (Below.heap_alloc _ _ _ (by simp; omega)).trans (first_two W a b)
theorem kept_block {w w' : World} {g : Nat} {o : Obj} (h : w.heap[g]? = some o) (hb : Below w.heap.size w w') : w'.heap[g]? = some o := (hb.block _ (lt_of_some h)).trans h
theorem kept_alloc {w : World} {g : Nat} {o : Obj} (h : w.heap[g]? = some o) (o' : Obj) : (w.alloc o').heap[g]? = some o := (Below.heap_alloc _ _ _ (lt_of_some h)).trans h

theorem set22 {w : World} {b1 b2 : Nat} {t1 t2 : TypeId} {z0 z1 y0 y1 : Value} (hne : b1 ≠ b2) (h1 : w.heap[b1]? = some (.cells #[z0, z1] t1 (0, 0))) (h2 : w.heap[b2]? = some (.cells #[y0, y1] t2 (0, 0))) (a0 a1 c0 c1 : Value) :
    ((((w.setCell ⟨b1, 0, none⟩ a0).setCell ⟨b1, 1, none⟩ a1).setCell ⟨b2, 0, none⟩ c0).setCell ⟨b2, 1, none⟩ c1).heap[b1]? = some (.cells #[a0, a1] t1 (0, 0)) ∧
      ((((w.setCell ⟨b1, 0, none⟩ a0).setCell ⟨b1, 1, none⟩ a1).setCell ⟨b2, 0, none⟩ c0).setCell ⟨b2, 1, none⟩ c1).heap[b2]? = some (.cells #[c0, c1] t2 (0, 0)) := by
  constructor
  · rw [Below.heap_setCell _ _ _ _ hne, Below.heap_setCell _ _ _ _ hne]
    exact set2_heap h1 a0 a1
  · exact set2_heap ((Below.heap_setCell _ _ _ _ (Ne.symm hne)).trans ((Below.heap_setCell _ _ _ _ (Ne.symm hne)).trans h2)) c0 c1

end Go.Proofs.YtagdapmnghnphaaDoor

/-
  Contracts of the document's answer for package wire: vectors read.
-/
namespace Go.Proofs.YtagdapmnghnphaaDoor
open Go Go.RowKit Wire

set_option maxRecDepth 100000
set_option linter.unusedVariables false
set_option linter.unusedSimpArgs false
theorem last_four (W : World) (a b c d : Obj) : ((((W.alloc a).alloc b).alloc c).alloc d).heap[W.heap.size + 3]? = some d := by
  have := heap_alloc_last (((W.alloc a).alloc b).alloc c) d
  rw [World.size_alloc, World.size_alloc, World.size_alloc] at this
  exact this

theorem drew_heap (w : World) : w.drew.heap = w.heap := rfl
theorem set82a {w : World} {b1 b2 : Nat} {t1 t2 : TypeId} {z0 z1 z2 z3 z4 z5 z6 z7 y0 y1 : Value} (hne : b1 ≠ b2) (h1 : w.heap[b1]? = some (.cells #[z0, z1, z2, z3, z4, z5, z6, z7] t1 (0, 0))) (h2 : w.heap[b2]? = some (.cells #[y0, y1] t2 (0, 0))) (a0 a1 a2 a3 a4 a5 a6 a7 c0 c1 : Value) :
    ((((((((((w.setCell ⟨b1, 0, none⟩ a0).setCell ⟨b1, 1, none⟩ a1).setCell ⟨b1, 2, none⟩ a2).setCell ⟨b1, 3, none⟩ a3).setCell ⟨b1, 4, none⟩ a4).setCell ⟨b1, 5, none⟩ a5).setCell ⟨b1, 6, none⟩ a6).setCell ⟨b1, 7, none⟩ a7).setCell ⟨b2, 0, none⟩ c0).setCell ⟨b2, 1, none⟩ c1).heap[b1]? = some (.cells #[a0, a1, a2, a3, a4, a5, a6, a7] t1 (0, 0)) ∧ ((((((((((w.setCell ⟨b1, 0, none⟩ a0).setCell ⟨b1, 1, none⟩ a1).setCell ⟨b1, 2, none⟩ a2).setCell ⟨b1, 3, none⟩ a3).setCell ⟨b1, 4, none⟩ a4).setCell ⟨b1, 5, none⟩ a5).setCell ⟨b1, 6, none⟩ a6).setCell ⟨b1, 7, none⟩ a7).setCell ⟨b2, 0, none⟩ c0).setCell ⟨b2, 1, none⟩ c1).heap[b2]? = some (.cells #[c0, c1] t2 (0, 0)) := by
  constructor
  · rw [Below.heap_setCell _ _ _ _ hne, Below.heap_setCell _ _ _ _ hne]
    exact set8_heap h1 rfl a0 a1 a2 a3 a4 a5 a6 a7
  · refine set2_heap (z0 := y0) (z1 := y1) ?_ c0 c1
    rw [Below.heap_setCell _ _ _ _ (Ne.symm hne), Below.heap_setCell _ _ _ _ (Ne.symm hne), Below.heap_setCell _ _ _ _ (Ne.symm hne), Below.heap_setCell _ _ _ _ (Ne.symm hne), Below.heap_setCell _ _ _ _ (Ne.symm hne), Below.heap_setCell _ _ _ _ (Ne.symm hne), Below.heap_setCell _ _ _ _ (Ne.symm hne), Below.heap_setCell _ _ _ _ (Ne.symm hne)]
    exact h2
theorem set82b {w : World} {b1 b2 : Nat} {t1 t2 : TypeId} {z0 z1 z2 z3 z4 z5 z6 z7 y0 y1 : Value} (hne : b1 ≠ b2) (h1 : w.heap[b1]? = some (.cells #[z0, z1, z2, z3, z4, z5, z6, z7] t1 (0, 0))) (h2 : w.heap[b2]? = some (.cells #[y0, y1] t2 (0, 0))) (a0 a1 a2 a3 a4 a5 a6 a7 c0 c1 : Value) :
    ((((((((((w.setCell ⟨b2, 0, none⟩ c0).setCell ⟨b2, 1, none⟩ c1).setCell ⟨b1, 0, none⟩ a0).setCell ⟨b1, 1, none⟩ a1).setCell ⟨b1, 2, none⟩ a2).setCell ⟨b1, 3, none⟩ a3).setCell ⟨b1, 4, none⟩ a4).setCell ⟨b1, 5, none⟩ a5).setCell ⟨b1, 6, none⟩ a6).setCell ⟨b1, 7, none⟩ a7).heap[b1]? = some (.cells #[a0, a1, a2, a3, a4, a5, a6, a7] t1 (0, 0)) ∧ ((((((((((w.setCell ⟨b2, 0, none⟩ c0).setCell ⟨b2, 1, none⟩ c1).setCell ⟨b1, 0, none⟩ a0).setCell ⟨b1, 1, none⟩ a1).setCell ⟨b1, 2, none⟩ a2).setCell ⟨b1, 3, none⟩ a3).setCell ⟨b1, 4, none⟩ a4).setCell ⟨b1, 5, none⟩ a5).setCell ⟨b1, 6, none⟩ a6).setCell ⟨b1, 7, none⟩ a7).heap[b2]? = some (.cells #[c0, c1] t2 (0, 0)) := by
  constructor
  · exact set8_heap ((Below.heap_setCell _ _ _ _ hne).trans ((Below.heap_setCell _ _ _ _ hne).trans h1)) rfl a0 a1 a2 a3 a4 a5 a6 a7
  · rw [Below.heap_setCell _ _ _ _ (Ne.symm hne), Below.heap_setCell _ _ _ _ (Ne.symm hne), Below.heap_setCell _ _ _ _ (Ne.symm hne), Below.heap_setCell _ _ _ _ (Ne.symm hne), Below.heap_setCell _ _ _ _ (Ne.symm hne), Below.heap_setCell _ _ _ _ (Ne.symm hne), Below.heap_setCell _ _ _ _ (Ne.symm hne), Below.heap_setCell _ _ _ _ (Ne.symm hne)]
    exact set2_heap h2 c0 c1

theorem set82d {w : World} {b1 b2 : Nat} {t1 t2 : TypeId} {z0 z1 z2 z3 z4 z5 z6 z7 y0 y1 : Value} (hne : b1 ≠ b2) (h1 : w.heap[b1]? = some (.cells #[z0, z1, z2, z3, z4, z5, z6, z7] t1 (0, 0))) (h2 : w.heap[b2]? = some (.cells #[y0, y1] t2 (0, 0))) (a0 a1 a2 a3 a4 a5 a6 a7 c0 c1 : Value) :
    ((((((((((w.setCell ⟨b1, 0, none⟩ a0).setCell ⟨b1, 1, none⟩ a1).setCell ⟨b1, 2, none⟩ a2).setCell ⟨b1, 3, none⟩ a3).setCell ⟨b1, 4, none⟩ a4).setCell ⟨b1, 5, none⟩ a5).setCell ⟨b1, 6, none⟩ a6).setCell ⟨b1, 7, none⟩ a7).setCell ⟨b2, 0, none⟩ c0).setCell ⟨b2, 1, none⟩ c1).drew.heap[b1]? = some (.cells #[a0, a1, a2, a3, a4, a5, a6, a7] t1 (0, 0)) ∧ ((((((((((w.setCell ⟨b1, 0, none⟩ a0).setCell ⟨b1, 1, none⟩ a1).setCell ⟨b1, 2, none⟩ a2).setCell ⟨b1, 3, none⟩ a3).setCell ⟨b1, 4, none⟩ a4).setCell ⟨b1, 5, none⟩ a5).setCell ⟨b1, 6, none⟩ a6).setCell ⟨b1, 7, none⟩ a7).setCell ⟨b2, 0, none⟩ c0).setCell ⟨b2, 1, none⟩ c1).drew.heap[b2]? = some (.cells #[c0, c1] t2 (0, 0)) := by
  rw [drew_heap]
  exact set82a hne h1 h2 a0 a1 a2 a3 a4 a5 a6 a7 c0 c1

end Go.Proofs.YtagdapmnghnphaaDoor
