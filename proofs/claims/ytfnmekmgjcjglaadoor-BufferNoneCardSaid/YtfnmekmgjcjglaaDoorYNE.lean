/-
  The document's buffers: New, Ahead, may, next, there.
-/
import Derived.Test.YtfnmekmgjcjglaaDoorYNB
namespace Go.Proofs.YtfnmekmgjcjglaaDoor.V
set_option linter.unusedVariables false
set_option linter.unusedSimpArgs false
set_option maxRecDepth 100000
open Go Go.RowKit Go.Maps Wire
def rfC (n : Nat) (h : Vec) (v : Value) : Array Value := #[.int .i64 (n : Int), .int .u32 (h 0 : Int), .int .u32 (h 1 : Int), .int .u32 (h 2 : Int), .int .u32 (h 3 : Int), .int .u32 (h 4 : Int), .int .u32 (h 5 : Int), .int .u32 (h 6 : Int), .int .u32 (h 7 : Int), v]
abbrev RefAt (w : World) (g n : Nat) (h : Vec) (v : Value) : Prop := w.heap[g]? = some (.cells (rfC n h v) 32 (0, 0))
theorem ref_set (n : Nat) (h : Vec) (v : Value) {r : Nat} (hr : r < 8) (k : Nat) : (rfC n h v).setIfInBounds (1 + r) (.int .u32 (k : Int)) = rfC n (upd h r k) v := by
  match r, hr with
  | 0, _ => rfl
  | 1, _ => rfl
  | 2, _ => rfl
  | 3, _ => rfl
  | 4, _ => rfl
  | 5, _ => rfl
  | 6, _ => rfl
  | 7, _ => rfl
/-! ### Ahead -/
/-! ### may -/
end Go.Proofs.YtfnmekmgjcjglaaDoor.V
namespace Go.Proofs.YtfnmekmgjcjglaaDoor.V
set_option linter.unusedVariables false
set_option linter.unusedSimpArgs false
set_option maxRecDepth 100000
open Go Go.RowKit Go.Maps Wire
/-- What an operation's name must be for the document to look at it. -/
def Named (c : List OC) : Prop := ∀ x ∈ c, x.1.r < 8 ∧ 1 ≤ x.1.n ∧ x.1.n < 4294967296
theorem BufP.named {n : Nat} {h : Vec} {c : List OC} (b : BufP n h c) (ho : ∀ x ∈ c, okO x.1) : Named c := fun x hx => ⟨(b.name hx).1, by have := (b.name hx).2.1; omega, (ho x hx).n⟩
/-- The place of what is handed on next. -/
def IdxP (h : Vec) (c : List OC) (i : Nat) (z : Int) : Prop := match nextM h (c.take i) with | none => z = -1 | some y => ∃ k : Nat, z = k ∧ k < i ∧ c[k]? = some y
end Go.Proofs.YtfnmekmgjcjglaaDoor.V
namespace Go.Proofs.YtfnmekmgjcjglaaDoor.V
set_option linter.unusedVariables false
set_option linter.unusedSimpArgs false
set_option maxRecDepth 100000
open Go Go.RowKit Go.Maps Wire
abbrev DotB (w : World) (g : Nat) (d : Dot) : Prop := w.heap[g]? = some (.cells #[.int .u8 (d.1 : Int), .int .u32 (d.2 : Int)] 46 (0, 0))
end Go.Proofs.YtfnmekmgjcjglaaDoor.V
