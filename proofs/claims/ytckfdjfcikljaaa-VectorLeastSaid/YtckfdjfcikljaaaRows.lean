/-
  No cell of these rows narrows 'for every input' (looked for: loops, veiled, ifaces, maps, wideKeys, modest, calm, conditions, laid).
  DERIVED. THE GIVEN ROWS OF THIS SEAT. 5 by the template 'for every input the law returns true; each argument reads behind the call as it read before'; 0 by the template 'total and deterministic' (their statements: YtckfdjfcikljaaaTotals.lean).
  GIVEN WITH THE SEED: the statements are not yours to turn. If you find one false, say at which input.
  Laid BY PROGRAM, IN A SANDBOX (cutbox-rows.mjs): the forced cells as the released guide's own fill.sh prints them over the translation 12c339336433b084… (all of the seat's roots in one cut). By AI agents, Wed Nov 11 2026. No macro, syntax, notation, axiom, sorry.
-/
import Derived.Test.YtckfdjfcikljaaaChecked
import GoSem.Claim
import GoSem.ClaimJoined
import GoSem.ClaimMapViews
import Derived.JoinedTies
import Derived.KernelRfl
namespace Go.Proofs.Ytckfdjfcikljaaa
/- THE CELL 'sum', in the pinned program and in every row, IS THE sha256 OF THE DUMP (.gsa) THAT YtckfdjfcikljaaaProg.lean LOADS. Nothing in Lean hashes anything: it is a label: what it is worth is what the hold of that sum in a sandbox is worth. -/
noncomputable def Try.pinned : Pinned := { name := "ytckfdjfcikljaaa", sum := "12c339336433b084cec824f0822917705905b171f186f58c4e3452777311bd12", checked := Try.checked }
namespace Rows
def none {H : Type} : Left H := { results := [], args := [] }

/-- 'tranterlaw04.VectorTells': WHATEVER THE INPUT: true; the input reads as it did. -/
def vectorTellsSpec : ChangeSpec := { name := "vectorTells", fn := fun _ => fun
  | [d1, d2, d3] => { results := [.lit (.bool true)], args := [d1, d2, d3] }
  | _ => none }
def vectorTellsRow : OpenClaim := { program := "ytckfdjfcikljaaa", sum := "12c339336433b084cec824f0822917705905b171f186f58c4e3452777311bd12", func := "tranter/tranterlaw04.VectorTells", spec := "vectorTells", unfollowed := true, recurses := true, plainKeys := false, apart := false }
def VectorTellsSaid : Prop := vectorTellsRow.holds Try.pinned (OpenSpec.ofChange vectorTellsSpec)

/-- ITS FALSE NEIGHBOUR: 'it returns false'. Refute it at one input. -/
def vectorTellsWrong : ChangeSpec := { name := "vectorTells", fn := fun _ => fun
  | [d1, d2, d3] => { results := [.lit (.bool false)], args := [d1, d2, d3] }
  | _ => none }
def VectorTellsWrongFalsely : Prop := vectorTellsRow.holds Try.pinned (OpenSpec.ofChange vectorTellsWrong)

/-- 'tranterlaw04.VectorRows': WHATEVER THE INPUT: true; the input reads as it did. -/
def vectorRowsSpec : ChangeSpec := { name := "vectorRows", fn := fun _ => fun
  | [d] => { results := [.lit (.bool true)], args := [d] }
  | _ => none }
def vectorRowsRow : OpenClaim := { program := "ytckfdjfcikljaaa", sum := "12c339336433b084cec824f0822917705905b171f186f58c4e3452777311bd12", func := "tranter/tranterlaw04.VectorRows", spec := "vectorRows", unfollowed := true, recurses := true, plainKeys := false, apart := false }
def VectorRowsSaid : Prop := vectorRowsRow.holds Try.pinned (OpenSpec.ofChange vectorRowsSpec)

/-- ITS FALSE NEIGHBOUR: 'it returns false'. Refute it at one input. -/
def vectorRowsWrong : ChangeSpec := { name := "vectorRows", fn := fun _ => fun
  | [d] => { results := [.lit (.bool false)], args := [d] }
  | _ => none }
def VectorRowsWrongFalsely : Prop := vectorRowsRow.holds Try.pinned (OpenSpec.ofChange vectorRowsWrong)

/-- 'tranterlaw04.VectorLeast': WHATEVER THE INPUT: true; the input reads as it did. -/
def vectorLeastSpec : ChangeSpec := { name := "vectorLeast", fn := fun _ => fun
  | [d1, d2, d3] => { results := [.lit (.bool true)], args := [d1, d2, d3] }
  | _ => none }
def vectorLeastRow : OpenClaim := { program := "ytckfdjfcikljaaa", sum := "12c339336433b084cec824f0822917705905b171f186f58c4e3452777311bd12", func := "tranter/tranterlaw04.VectorLeast", spec := "vectorLeast", unfollowed := true, recurses := true, plainKeys := false, apart := false }
def VectorLeastSaid : Prop := vectorLeastRow.holds Try.pinned (OpenSpec.ofChange vectorLeastSpec)

/-- ITS FALSE NEIGHBOUR: 'it returns false'. Refute it at one input. -/
def vectorLeastWrong : ChangeSpec := { name := "vectorLeast", fn := fun _ => fun
  | [d1, d2, d3] => { results := [.lit (.bool false)], args := [d1, d2, d3] }
  | _ => none }
def VectorLeastWrongFalsely : Prop := vectorLeastRow.holds Try.pinned (OpenSpec.ofChange vectorLeastWrong)

/-- 'tranterlaw04.VectorCovers': WHATEVER THE INPUT: true; the input reads as it did. -/
def vectorCoversSpec : ChangeSpec := { name := "vectorCovers", fn := fun _ => fun
  | [d1, d2, d3] => { results := [.lit (.bool true)], args := [d1, d2, d3] }
  | _ => none }
def vectorCoversRow : OpenClaim := { program := "ytckfdjfcikljaaa", sum := "12c339336433b084cec824f0822917705905b171f186f58c4e3452777311bd12", func := "tranter/tranterlaw04.VectorCovers", spec := "vectorCovers", unfollowed := true, recurses := true, plainKeys := false, apart := false }
def VectorCoversSaid : Prop := vectorCoversRow.holds Try.pinned (OpenSpec.ofChange vectorCoversSpec)

/-- ITS FALSE NEIGHBOUR: 'it returns false'. Refute it at one input. -/
def vectorCoversWrong : ChangeSpec := { name := "vectorCovers", fn := fun _ => fun
  | [d1, d2, d3] => { results := [.lit (.bool false)], args := [d1, d2, d3] }
  | _ => none }
def VectorCoversWrongFalsely : Prop := vectorCoversRow.holds Try.pinned (OpenSpec.ofChange vectorCoversWrong)

/-- 'tranterlaw04.VectorLacks': WHATEVER THE INPUT: true; the input reads as it did. -/
def vectorLacksSpec : ChangeSpec := { name := "vectorLacks", fn := fun _ => fun
  | [d1, d2] => { results := [.lit (.bool true)], args := [d1, d2] }
  | _ => none }
def vectorLacksRow : OpenClaim := { program := "ytckfdjfcikljaaa", sum := "12c339336433b084cec824f0822917705905b171f186f58c4e3452777311bd12", func := "tranter/tranterlaw04.VectorLacks", spec := "vectorLacks", unfollowed := true, recurses := true, plainKeys := false, apart := false }
def VectorLacksSaid : Prop := vectorLacksRow.holds Try.pinned (OpenSpec.ofChange vectorLacksSpec)

/-- ITS FALSE NEIGHBOUR: 'it returns false'. Refute it at one input. -/
def vectorLacksWrong : ChangeSpec := { name := "vectorLacks", fn := fun _ => fun
  | [d1, d2] => { results := [.lit (.bool false)], args := [d1, d2] }
  | _ => none }
def VectorLacksWrongFalsely : Prop := vectorLacksRow.holds Try.pinned (OpenSpec.ofChange vectorLacksWrong)

/- THE SECOND FORM. 'bulk': how many values and letters a reading holds, each counted each time it is reached (what is shared counts as often as it is met; a slice's spare places count too). A statement '..UptoSaid' is the law's where the arguments, and the package variables that the reading takes, are together of bulk at most 1048576: NARROWER than '..Said'. Prove '..Said' where nothing that the law and all that it calls make is longer than what came in: it says more and counts as full. Else prove '..UptoSaid'. A law counts once. -/
mutual
def uptoBulk {H : Type} : DataW H → Nat
  | .lit (.string bytes) => bytes.length + 1
  | .lit _ => 1
  | .nil => 1
  | .ptr d => uptoBulk d + 1
  | .slice elems spare => uptoBulkAll elems + uptoBulkAll spare + 1
  | .agg parts => uptoBulkAll parts + 1
  | .iface _ d => uptoBulk d + 1
  | .map entries => uptoBulkEntries entries + 1
  | .held _ => 1
def uptoBulkAll {H : Type} : List (DataW H) → Nat
  | [] => 0
  | d :: r => uptoBulk d + uptoBulkAll r
def uptoBulkEntries {H : Type} : List (Lit × DataW H) → Nat
  | [] => 0
  | x :: r => uptoBulkEntry x + uptoBulkEntries r
def uptoBulkEntry {H : Type} : Lit × DataW H → Nat
  | (.string bytes, d) => bytes.length + uptoBulk d + 1
  | (_, d) => uptoBulk d + 1
 end
def uptoSmall : (H : Type) → List (DataW H) → Bool := fun _ ds => decide (uptoBulkAll ds ≤ 1048576)
def OpenSpec.upto (s : _root_.Go.ChangeSpec) : _root_.Go.OpenSpec := { _root_.Go.OpenSpec.ofChange s with cond := some uptoSmall }

/-- 'tranterlaw04.VectorTells', WHERE WHAT IT READS IS OF BULK AT MOST 1048576: true; the input reads as it did. -/
def vectorTellsUptoRow : OpenClaim := { program := "ytckfdjfcikljaaa", sum := "12c339336433b084cec824f0822917705905b171f186f58c4e3452777311bd12", func := "tranter/tranterlaw04.VectorTells", spec := "vectorTells", unfollowed := true, recurses := true, plainKeys := false, apart := false, narrowed := true }
def VectorTellsUptoSaid : Prop := vectorTellsUptoRow.holds Try.pinned (OpenSpec.upto vectorTellsSpec)

/-- 'tranterlaw04.VectorRows', WHERE WHAT IT READS IS OF BULK AT MOST 1048576: true; the input reads as it did. -/
def vectorRowsUptoRow : OpenClaim := { program := "ytckfdjfcikljaaa", sum := "12c339336433b084cec824f0822917705905b171f186f58c4e3452777311bd12", func := "tranter/tranterlaw04.VectorRows", spec := "vectorRows", unfollowed := true, recurses := true, plainKeys := false, apart := false, narrowed := true }
def VectorRowsUptoSaid : Prop := vectorRowsUptoRow.holds Try.pinned (OpenSpec.upto vectorRowsSpec)

/-- 'tranterlaw04.VectorLeast', WHERE WHAT IT READS IS OF BULK AT MOST 1048576: true; the input reads as it did. -/
def vectorLeastUptoRow : OpenClaim := { program := "ytckfdjfcikljaaa", sum := "12c339336433b084cec824f0822917705905b171f186f58c4e3452777311bd12", func := "tranter/tranterlaw04.VectorLeast", spec := "vectorLeast", unfollowed := true, recurses := true, plainKeys := false, apart := false, narrowed := true }
def VectorLeastUptoSaid : Prop := vectorLeastUptoRow.holds Try.pinned (OpenSpec.upto vectorLeastSpec)

/-- 'tranterlaw04.VectorCovers', WHERE WHAT IT READS IS OF BULK AT MOST 1048576: true; the input reads as it did. -/
def vectorCoversUptoRow : OpenClaim := { program := "ytckfdjfcikljaaa", sum := "12c339336433b084cec824f0822917705905b171f186f58c4e3452777311bd12", func := "tranter/tranterlaw04.VectorCovers", spec := "vectorCovers", unfollowed := true, recurses := true, plainKeys := false, apart := false, narrowed := true }
def VectorCoversUptoSaid : Prop := vectorCoversUptoRow.holds Try.pinned (OpenSpec.upto vectorCoversSpec)

/-- 'tranterlaw04.VectorLacks', WHERE WHAT IT READS IS OF BULK AT MOST 1048576: true; the input reads as it did. -/
def vectorLacksUptoRow : OpenClaim := { program := "ytckfdjfcikljaaa", sum := "12c339336433b084cec824f0822917705905b171f186f58c4e3452777311bd12", func := "tranter/tranterlaw04.VectorLacks", spec := "vectorLacks", unfollowed := true, recurses := true, plainKeys := false, apart := false, narrowed := true }
def VectorLacksUptoSaid : Prop := vectorLacksUptoRow.holds Try.pinned (OpenSpec.upto vectorLacksSpec)

end Rows
end Go.Proofs.Ytckfdjfcikljaaa
