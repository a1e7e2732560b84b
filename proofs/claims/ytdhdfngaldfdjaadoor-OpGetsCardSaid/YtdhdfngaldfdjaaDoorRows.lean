/-
  NARROWER THAN 'FOR EVERY INPUT', by the rows' own cells (each row's printed sentence says how): OpChecks: laid · OpPuts: laid · OpGets: laid · OpUnlike: laid.
  DERIVED. THE GIVEN ROWS OF THIS SEAT. 4 by the template 'for every input the law returns true; each argument reads behind the call as it read before'; 0 by the template 'total and deterministic' (their statements: YtdhdfngaldfdjaaDoorTotals.lean).
  GIVEN WITH THE SEED: the statements are not yours to turn. If you find one false, say at which input.
  Laid BY PROGRAM, IN A SANDBOX (cutbox-rows.mjs): the forced cells as the released guide's own fill.sh prints them over the translation 7311f4dbbf53e62a… (all of the seat's roots in one cut). By AI agents, Wed Nov 11 2026. No macro, syntax, notation, axiom, sorry.
-/
import Derived.Test.YtdhdfngaldfdjaaDoorChecked
import GoSem.Claim
import GoSem.ClaimJoined
import GoSem.ClaimMapViews
import Derived.JoinedTies
import Derived.KernelRfl
namespace Go.Proofs.YtdhdfngaldfdjaaDoor
/- THE CELL 'sum', in the pinned program and in every row, IS THE sha256 OF THE DUMP (.gsa) THAT YtdhdfngaldfdjaaDoorProg.lean LOADS. Nothing in Lean hashes anything: it is a label: what it is worth is what the hold of that sum in a sandbox is worth. -/
noncomputable def Tryd.pinned : Pinned := { name := "ytdhdfngaldfdjaadoor", sum := "7311f4dbbf53e62a56760169d76e4fd0a12621e7a4905d06b71c167698a3e6af", checked := Tryd.checked }
namespace Rows
def none {H : Type} : Left H := { results := [], args := [] }

/- WHAT THE LISTED PACKAGE-LEVEL VARIABLES READ AS WHEN THE CALL BEGINS. Each datum BY PROGRAM (the guide's laid-datum.mjs) off the statement by which the dump's own 'gosem.cut.vars' lays the variable. In a bare row this is a premise. The card (YtdhdfngaldfdjaaDoorCards.lean) ties it to the program's text. -/
def laid_tranter_op_partsOf {H : Type} : DataW H := .agg [.lit (.int .u16 0), .lit (.int .u16 31), .lit (.int .u16 33), .lit (.int .u16 897), .lit (.int .u16 289), .lit (.int .u16 33), .lit (.int .u16 97), .lit (.int .u16 97), .lit (.int .u16 1025)]

/-- 'tranterlaw05.OpChecks': WHATEVER THE INPUT: true; the input reads as it did. -/
def opChecksSpec : ChangeSpec := { name := "opChecks", fn := fun _ => fun
  | [d1, d2, d3] => { results := [.lit (.bool true)], args := [d1, d2, d3] }
  | _ => none }
def opChecksRow : OpenClaim := { program := "ytdhdfngaldfdjaadoor", sum := "7311f4dbbf53e62a56760169d76e4fd0a12621e7a4905d06b71c167698a3e6af", func := "tranter/tranterlaw05.OpChecks", spec := "opChecks", named := ["tranter/op.partsOf"], plainKeys := false, apart := false, laid := [("tranter/op.partsOf", laid_tranter_op_partsOf)] }
def OpChecksSaid : Prop := opChecksRow.holds Tryd.pinned (OpenSpec.ofChange opChecksSpec)

/-- ITS FALSE NEIGHBOUR: 'it returns false'. Refute it at one input. -/
def opChecksWrong : ChangeSpec := { name := "opChecks", fn := fun _ => fun
  | [d1, d2, d3] => { results := [.lit (.bool false)], args := [d1, d2, d3] }
  | _ => none }
def OpChecksWrongFalsely : Prop := opChecksRow.holds Tryd.pinned (OpenSpec.ofChange opChecksWrong)

/-- 'tranterlaw05.OpPuts': WHATEVER THE INPUT: true; the input reads as it did. -/
def opPutsSpec : ChangeSpec := { name := "opPuts", fn := fun _ => fun
  | [d] => { results := [.lit (.bool true)], args := [d] }
  | _ => none }
def opPutsRow : OpenClaim := { program := "ytdhdfngaldfdjaadoor", sum := "7311f4dbbf53e62a56760169d76e4fd0a12621e7a4905d06b71c167698a3e6af", func := "tranter/tranterlaw05.OpPuts", spec := "opPuts", unfollowed := true, recurses := true, named := ["tranter/op.partsOf"], plainKeys := false, apart := false, laid := [("tranter/op.partsOf", laid_tranter_op_partsOf)] }
def OpPutsSaid : Prop := opPutsRow.holds Tryd.pinned (OpenSpec.ofChange opPutsSpec)

/-- ITS FALSE NEIGHBOUR: 'it returns false'. Refute it at one input. -/
def opPutsWrong : ChangeSpec := { name := "opPuts", fn := fun _ => fun
  | [d] => { results := [.lit (.bool false)], args := [d] }
  | _ => none }
def OpPutsWrongFalsely : Prop := opPutsRow.holds Tryd.pinned (OpenSpec.ofChange opPutsWrong)

/-- 'tranterlaw05.OpGets': WHATEVER THE INPUT: true; the input reads as it did. -/
def opGetsSpec : ChangeSpec := { name := "opGets", fn := fun _ => fun
  | [d] => { results := [.lit (.bool true)], args := [d] }
  | _ => none }
def opGetsRow : OpenClaim := { program := "ytdhdfngaldfdjaadoor", sum := "7311f4dbbf53e62a56760169d76e4fd0a12621e7a4905d06b71c167698a3e6af", func := "tranter/tranterlaw05.OpGets", spec := "opGets", unfollowed := true, recurses := true, named := ["tranter/op.partsOf"], plainKeys := false, apart := false, laid := [("tranter/op.partsOf", laid_tranter_op_partsOf)] }
def OpGetsSaid : Prop := opGetsRow.holds Tryd.pinned (OpenSpec.ofChange opGetsSpec)

/-- ITS FALSE NEIGHBOUR: 'it returns false'. Refute it at one input. -/
def opGetsWrong : ChangeSpec := { name := "opGets", fn := fun _ => fun
  | [d] => { results := [.lit (.bool false)], args := [d] }
  | _ => none }
def OpGetsWrongFalsely : Prop := opGetsRow.holds Tryd.pinned (OpenSpec.ofChange opGetsWrong)

/-- 'tranterlaw05.OpUnlike': WHATEVER THE INPUT: true; the input reads as it did. -/
def opUnlikeSpec : ChangeSpec := { name := "opUnlike", fn := fun _ => fun
  | [d1, d2, d3] => { results := [.lit (.bool true)], args := [d1, d2, d3] }
  | _ => none }
def opUnlikeRow : OpenClaim := { program := "ytdhdfngaldfdjaadoor", sum := "7311f4dbbf53e62a56760169d76e4fd0a12621e7a4905d06b71c167698a3e6af", func := "tranter/tranterlaw05.OpUnlike", spec := "opUnlike", unfollowed := true, recurses := true, named := ["tranter/op.partsOf"], plainKeys := false, apart := false, laid := [("tranter/op.partsOf", laid_tranter_op_partsOf)] }
def OpUnlikeSaid : Prop := opUnlikeRow.holds Tryd.pinned (OpenSpec.ofChange opUnlikeSpec)

/-- ITS FALSE NEIGHBOUR: 'it returns false'. Refute it at one input. -/
def opUnlikeWrong : ChangeSpec := { name := "opUnlike", fn := fun _ => fun
  | [d1, d2, d3] => { results := [.lit (.bool false)], args := [d1, d2, d3] }
  | _ => none }
def OpUnlikeWrongFalsely : Prop := opUnlikeRow.holds Tryd.pinned (OpenSpec.ofChange opUnlikeWrong)

/- THE SECOND FORM. 'bulk': how many values and letters a reading holds, each counted each time it is reached (what is shared counts as often as it is met; a slice's spare places count too). A statement '..UptoSaid' is the law's where the arguments, and the package variables that the reading takes, are together of bulk at most 1048576: NARROWER than '..Said'. Prove '..Said' where nothing that the law and all that it calls make is longer than what came in: it says more and counts as full. Else prove '..UptoSaid'. A law counts once. -/
mutual
def uptoBulk {H : Type} : DataW H → Nat
  | .lit (.string bytes) => bytes.length + 1
  | .lit _ => 1
  | .nil => 1
  | .ptr d => uptoBulk d + 1
  | .slice elems spare => uptoBulkAll elems + uptoBulkAll spare + 1
  | .agg parts => uptoBulkAll parts + 1
  | .iface _ d => uptoBulk d + 1
  | .map entries => uptoBulkEntries entries + 1
  | .held _ => 1
def uptoBulkAll {H : Type} : List (DataW H) → Nat
  | [] => 0
  | d :: r => uptoBulk d + uptoBulkAll r
def uptoBulkEntries {H : Type} : List (Lit × DataW H) → Nat
  | [] => 0
  | x :: r => uptoBulkEntry x + uptoBulkEntries r
def uptoBulkEntry {H : Type} : Lit × DataW H → Nat
  | (.string bytes, d) => bytes.length + uptoBulk d + 1
  | (_, d) => uptoBulk d + 1
 end
def uptoSmall : (H : Type) → List (DataW H) → Bool := fun _ ds => decide (uptoBulkAll ds ≤ 1048576)
def OpenSpec.upto (s : _root_.Go.ChangeSpec) : _root_.Go.OpenSpec := { _root_.Go.OpenSpec.ofChange s with cond := some uptoSmall }

/-- 'tranterlaw05.OpChecks', WHERE WHAT IT READS IS OF BULK AT MOST 1048576: true; the input reads as it did. -/
def opChecksUptoRow : OpenClaim := { program := "ytdhdfngaldfdjaadoor", sum := "7311f4dbbf53e62a56760169d76e4fd0a12621e7a4905d06b71c167698a3e6af", func := "tranter/tranterlaw05.OpChecks", spec := "opChecks", named := ["tranter/op.partsOf"], plainKeys := false, apart := false, laid := [("tranter/op.partsOf", laid_tranter_op_partsOf)], narrowed := true }
def OpChecksUptoSaid : Prop := opChecksUptoRow.holds Tryd.pinned (OpenSpec.upto opChecksSpec)

/-- 'tranterlaw05.OpPuts', WHERE WHAT IT READS IS OF BULK AT MOST 1048576: true; the input reads as it did. -/
def opPutsUptoRow : OpenClaim := { program := "ytdhdfngaldfdjaadoor", sum := "7311f4dbbf53e62a56760169d76e4fd0a12621e7a4905d06b71c167698a3e6af", func := "tranter/tranterlaw05.OpPuts", spec := "opPuts", unfollowed := true, recurses := true, named := ["tranter/op.partsOf"], plainKeys := false, apart := false, laid := [("tranter/op.partsOf", laid_tranter_op_partsOf)], narrowed := true }
def OpPutsUptoSaid : Prop := opPutsUptoRow.holds Tryd.pinned (OpenSpec.upto opPutsSpec)

/-- 'tranterlaw05.OpGets', WHERE WHAT IT READS IS OF BULK AT MOST 1048576: true; the input reads as it did. -/
def opGetsUptoRow : OpenClaim := { program := "ytdhdfngaldfdjaadoor", sum := "7311f4dbbf53e62a56760169d76e4fd0a12621e7a4905d06b71c167698a3e6af", func := "tranter/tranterlaw05.OpGets", spec := "opGets", unfollowed := true, recurses := true, named := ["tranter/op.partsOf"], plainKeys := false, apart := false, laid := [("tranter/op.partsOf", laid_tranter_op_partsOf)], narrowed := true }
def OpGetsUptoSaid : Prop := opGetsUptoRow.holds Tryd.pinned (OpenSpec.upto opGetsSpec)

/-- 'tranterlaw05.OpUnlike', WHERE WHAT IT READS IS OF BULK AT MOST 1048576: true; the input reads as it did. -/
def opUnlikeUptoRow : OpenClaim := { program := "ytdhdfngaldfdjaadoor", sum := "7311f4dbbf53e62a56760169d76e4fd0a12621e7a4905d06b71c167698a3e6af", func := "tranter/tranterlaw05.OpUnlike", spec := "opUnlike", unfollowed := true, recurses := true, named := ["tranter/op.partsOf"], plainKeys := false, apart := false, laid := [("tranter/op.partsOf", laid_tranter_op_partsOf)], narrowed := true }
def OpUnlikeUptoSaid : Prop := opUnlikeUptoRow.holds Tryd.pinned (OpenSpec.upto opUnlikeSpec)

end Rows
end Go.Proofs.YtdhdfngaldfdjaaDoor
