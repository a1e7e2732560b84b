/-
  Plain mathematics of package wire: numbers as bytes to the base 256, and how they are read back.
-/
import Derived.Test.YtfnmekmgjcjglaaDoorYLater
import Derived.Test.YtfnmekmgjcjglaaDoorProg
import Derived.WalkKit
import Derived.LoopTactic
import Derived.WalkMore
import Derived.ScopeJumps
import Derived.Deep.WholeRow
import Derived.Outline
import Derived.Lib.AppendStr
import Derived.Maps.AppendAt
import Derived.Lib.UnsafeStr
import Derived.RegionTactic
import Derived.StillTailTactics
import Derived.Deep.AppendLies
import Derived.Deep.RegionLaw
import Derived.Lib.BufferWrite
import Derived.Lib.Walk
import Derived.Lib.Hide
import Derived.Laws.MakeOwn
import Derived.Lib.SlBytesRow
import Derived.Lib.Strings
import Derived.Deep.RegionWith
namespace Go.Proofs.YtfnmekmgjcjglaaDoor
open Go Go.RowKit
set_option maxRecDepth 100000
set_option linter.unusedVariables false
set_option linter.unusedSimpArgs false
set_option maxRecDepth 100000
set_option linter.unusedVariables false
set_option linter.unusedSimpArgs false
set_option maxRecDepth 100000
set_option linter.unusedVariables false
set_option linter.unusedSimpArgs false
namespace Wire
/-- A number's bytes, the highest first, none ahead that is 0. -/
def dig (n : Nat) : List UInt8 := if n = 0 then [] else dig (n / 256) ++ [UInt8.ofNat (n % 256)]
termination_by n
decreasing_by omega
def big (l : List UInt8) : Nat := l.foldl (fun a b => 256 * a + b.toNat) 0
def enc (n : Nat) : List UInt8 := if n < 128 then [UInt8.ofNat n] else UInt8.ofNat (128 + (dig n).length) :: dig n
/-- The number that stands first, and what is behind it. -/
def parse : List UInt8 → Option (Nat × List UInt8)
  | [] => none
  | b :: r =>
    if b.toNat < 128 then some (b.toNat, r)
    else if b.toNat - 128 ≤ r.length ∧ 128 ≤ big (r.take (b.toNat - 128)) ∧ (dig (big (r.take (b.toNat - 128)))).length = b.toNat - 128 ∧ b.toNat - 128 ≤ 8 then some (big (r.take (b.toNat - 128)), r.drop (b.toNat - 128))
    else none
/-! ### What is read -/
abbrev St := Option (List UInt8)
def takeNum (st : St) (most : Nat) : Nat × St :=
  match st.bind parse with
  | some (n, r) => if n ≤ most then (n, some r) else (0, none)
  | none => (0, none)
def takeText (st : St) (most : Int) : List UInt8 × St :=
  match (takeNum st most.toNat).2 with
  | some r => if (takeNum st most.toNat).1 ≤ r.length then (r.take (takeNum st most.toNat).1, some (r.drop (takeNum st most.toNat).1)) else ([], none)
  | none => ([], none)
def m8 : Nat := 255
def m32 : Nat := 4294967295
def takeDot (st : St) : (Nat × Nat) × St :=
  match (takeNum (takeNum st m8).2 m32).2 with
  | some r => (((takeNum st m8).1, (takeNum (takeNum st m8).2 m32).1), some r)
  | none => ((0, 0), none)
def vecGo : Nat → St → List Nat × St
  | 0, st => ([], st)
  | k + 1, st => ((vecGo k st).1 ++ [(takeNum (vecGo k st).2 m32).1], (takeNum (vecGo k st).2 m32).2)
def zeros8 : List Nat := [0, 0, 0, 0, 0, 0, 0, 0]
def takeVec (st : St) : List Nat × St :=
  match (vecGo 8 st).2 with
  | some r => ((vecGo 8 st).1, some r)
  | none => (zeros8, none)
/-- A vector's bytes. -/
def encV (v : List Nat) : List UInt8 := v.flatMap enc
/-! ### What is left gets less -/
end Wire
end Go.Proofs.YtfnmekmgjcjglaaDoor
/-
  Package wire: the count of a number's bytes, bytes as a number; where writers and readers lie in memory.
-/
namespace Go.Proofs.YtfnmekmgjcjglaaDoor
open Go Go.RowKit Wire
set_option maxRecDepth 100000
set_option linter.unusedVariables false
set_option linter.unusedSimpArgs false
/-- Bytes as a string's. -/
def ba (l : List UInt8) : ByteArray := ⟨l.toArray⟩
/-! ### Memory -/
/-- Below block B all blocks but g are as they were, and wherever they are all but g that hold no row of bytes; the streams too. -/
structure Keeps (B : Nat) (g : Option Nat) (w w' : World) : Prop where
  os : w'.os = w.os
  tape : w'.tape = w.tape
  output : w'.output = w.output
  size : w.heap.size ≤ w'.heap.size
  block : ∀ k, k < B → some k ≠ g → w'.heap[k]? = w.heap[k]?
  other : ∀ k cs t fr, w.heap[k]? = some (.cells cs t fr) → t ≠ 5 → some k ≠ g → w'.heap[k]? = some (.cells cs t fr)
theorem lt_of_some {w : World} {g : Nat} {o : Obj} (h : w.heap[g]? = some o) : g < w.heap.size := (Array.getElem?_eq_some_iff.1 h).1
theorem Keeps.refl (B : Nat) (g : Option Nat) (w : World) : Keeps B g w w := ⟨rfl, rfl, rfl, Nat.le_refl _, fun _ _ _ => rfl, fun _ _ _ _ h _ _ => h⟩
theorem Keeps.trans {B : Nat} {g : Option Nat} {a b c : World} (h : Keeps B g a b) (k : Keeps B g b c) : Keeps B g a c :=
  ⟨k.os.trans h.os, k.tape.trans h.tape, k.output.trans h.output, Nat.le_trans h.size k.size, fun i hi hg => (k.block i hi hg).trans (h.block i hi hg),
    fun i cs t fr hi ht hg => k.other i cs t fr (h.other i cs t fr hi ht hg) ht hg⟩
theorem Keeps.mono {B B' : Nat} {g : Option Nat} {a b : World} (h : Keeps B g a b) (hB : B' ≤ B) : Keeps B' g a b :=
  ⟨h.os, h.tape, h.output, h.size, fun k hk hg => h.block k (by omega) hg, h.other⟩
theorem _root_.Go.RowKit.Below.keeps {a b : World} (h : Below a.heap.size a b) (g : Option Nat) (B : Nat) (hB : B ≤ a.heap.size) : Keeps B g a b :=
  ⟨h.os, h.tape, h.output, h.size, fun k hk _ => h.block k (by omega), fun k _ _ _ hk _ _ => (h.block k (lt_of_some hk)).trans hk⟩
/-- Where the one block is none of the old ones. -/
theorem Keeps.below {B : Nat} {g : Option Nat} {a b : World} (h : Keeps B g a b) (hg : ∀ k, g = some k → B ≤ k) : Below B a b :=
  ⟨h.os, h.tape, h.output, h.size, fun k hk => h.block k hk (fun e => by have := hg k e.symm; omega)⟩
theorem Keeps.setCell (B : Nat) (a : World) (p : Addr) (u : Value) : Keeps B (some p.block) a (a.setCell p u) :=
  ⟨rfl, rfl, rfl, by simp [World.setCell], fun k _ hg => Below.heap_setCell _ _ _ _ (fun e => hg (by rw [e])), fun k _ _ _ hk _ hg => (Below.heap_setCell _ _ _ _ (fun e => hg (by rw [e]))).trans hk⟩
theorem Keeps.drew {B : Nat} {g : Option Nat} {a b : World} (h : Keeps B g a b) : Keeps B g a b.drew := ⟨h.os, h.tape, h.output, h.size, h.block, h.other⟩
end Go.Proofs.YtfnmekmgjcjglaaDoor
/-
  Contracts of package wire: the writers.
-/
namespace Go.Proofs.YtfnmekmgjcjglaaDoor
open Go Go.RowKit Wire
set_option maxRecDepth 100000
set_option linter.unusedVariables false
set_option linter.unusedSimpArgs false
theorem cell_of_heap {w : World} {g j : Nat} {cs : Array Value} {t : TypeId} {fr : Nat × Nat} (h : w.heap[g]? = some (.cells cs t fr)) : w.cell? ⟨g, j, none⟩ = cs[j]? := cell_of_row _ _ _ _ _ _ h
end Go.Proofs.YtfnmekmgjcjglaaDoor
/-
  strings.Clone, and rows of bytes: of no package in particular.
-/
namespace Go.Proofs.YtfnmekmgjcjglaaDoor
open Go Go.RowKit
set_option maxRecDepth 100000
set_option linter.unusedVariables false
set_option linter.unusedSimpArgs false
/-- n bytes as cells, the first k filled. -/
def rowCells (n : Nat) (f : Nat → Nat) (k : Nat) : Array Value := (Array.range n).map fun j => .int .u8 ((if j < k then f j else 0 : Nat) : Int)
end Go.Proofs.YtfnmekmgjcjglaaDoor
/-
  Contracts of package wire: the writers, their other methods.
-/
namespace Go.Proofs.YtfnmekmgjcjglaaDoor
open Go Go.RowKit Wire
set_option maxRecDepth 100000
set_option linter.unusedVariables false
set_option linter.unusedSimpArgs false
/-- A text's bytes. -/
def encT (s : List UInt8) : List UInt8 := enc s.length ++ s
/-- A dot's bytes. -/
def encD (r n : Nat) : List UInt8 := enc r ++ enc n
/-- Eight numbers as an array's cells. -/
def vcells (v : List Nat) : Array Value := (v.map fun n : Nat => Value.int .u32 (n : Int)).toArray
/-! ### Writers that are none -/
end Go.Proofs.YtfnmekmgjcjglaaDoor
/-
  Contracts of the document's answer for package wire: numbers, texts, dots, vectors as bytes.
-/
namespace Go.Proofs.YtfnmekmgjcjglaaDoor
open Go Go.RowKit Wire
set_option maxRecDepth 100000
set_option linter.unusedVariables false
set_option linter.unusedSimpArgs false
theorem below_next {A B C : World} (h : Below A.heap.size A B) (k : Below B.heap.size B C) : Below A.heap.size A C := h.trans (k.mono h.size)
end Go.Proofs.YtfnmekmgjcjglaaDoor
