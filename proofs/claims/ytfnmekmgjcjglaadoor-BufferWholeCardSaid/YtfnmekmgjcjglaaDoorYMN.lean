/-
  The document's letters of a kind; is a letter in a text?
-/
import Derived.Test.YtfnmekmgjcjglaaDoorYOG
import Derived.Test.YtfnmekmgjcjglaaDoorYJU
import Derived.Deep.Cut
namespace Go.Proofs.YtfnmekmgjcjglaaDoor.V
set_option linter.unusedVariables false
set_option linter.unusedSimpArgs false
set_option maxRecDepth 100000
open Go Go.RowKit Go.Maps
set_option maxRecDepth 100000
set_option linter.unusedVariables false
set_option linter.unusedSimpArgs false
set_option maxRecDepth 100000
set_option linter.unusedVariables false
set_option linter.unusedSimpArgs false
def letS (k : Nat) : ByteArray := match k with
  | 0 => ⟨#[]⟩
  | 1 => ⟨#[99, 116, 114, 100, 112]⟩
  | 2 => ⟨#[99, 97]⟩
  | 3 => ⟨#[99, 105, 113, 101]⟩
  | 4 => ⟨#[99, 97, 113]⟩
  | 5 => ⟨#[99, 97]⟩
  | 6 => ⟨#[99, 97, 118]⟩
  | 7 => ⟨#[99, 97, 118]⟩
  | 8 => ⟨#[99, 108]⟩
  | _ => ⟨#[]⟩
def inS (s : ByteArray) (c : Nat) : Bool := s.data.toList.any fun b => decide (b.toNat = c)
end Go.Proofs.YtfnmekmgjcjglaaDoor.V
namespace Go.Proofs.YtfnmekmgjcjglaaDoor.V
set_option linter.unusedVariables false
set_option linter.unusedSimpArgs false
set_option maxRecDepth 100000
open Go Go.RowKit Go.Maps
set_option maxRecDepth 100000
set_option linter.unusedVariables false
set_option linter.unusedSimpArgs false
set_option maxRecDepth 100000
set_option linter.unusedVariables false
set_option linter.unusedSimpArgs false
/-- A walk held still. -/
structure Hold (p : Prop) : Prop where
  out : p
def zeroM (o : OpM) (l : List Claim) : Bool := (inS (letS o.kd) 99 || eqB (o.dr, o.dn) (0, 0)) && (inS (letS o.kd) 116 || ((o.to : Int) == 0)) && (inS (letS o.kd) 114 || ((o.ro : Int) == 0)) && (inS (letS o.kd) 100 || ((o.de : Int) == 0)) && (inS (letS o.kd) 112 || ((o.cap : Int) == 0)) && (inS (letS o.kd) 97 || eqB (o.ar, o.an) (0, 0)) && (inS (letS o.kd) 118 || eqB (o.vr, o.vn) (0, 0)) && (inS (letS o.kd) 105 || ((o.it : Int) == 0)) && (inS (letS o.kd) 113 || ((o.qt : Int) == 0)) && (inS (letS o.kd) 101 || ((o.pr : Int) == 0)) && (inS (letS o.kd) 108 || ((l.length : Int) == 0))
end Go.Proofs.YtfnmekmgjcjglaaDoor.V
namespace Go.Proofs.YtfnmekmgjcjglaaDoor.V
set_option linter.unusedVariables false
set_option linter.unusedSimpArgs false
set_option maxRecDepth 100000
open Go Go.RowKit Go.Maps
set_option maxRecDepth 100000
set_option linter.unusedVariables false
set_option linter.unusedSimpArgs false
set_option maxRecDepth 100000
set_option linter.unusedVariables false
set_option linter.unusedSimpArgs false
end Go.Proofs.YtfnmekmgjcjglaaDoor.V
