/-
  The document's Check.
-/
import Derived.Test.YtfnmekmgjcjglaaDoorYMN
namespace Go.Proofs.YtfnmekmgjcjglaaDoor.V
set_option linter.unusedVariables false
set_option linter.unusedSimpArgs false
set_option maxRecDepth 100000
open Go Go.RowKit Go.Maps
set_option maxRecDepth 100000
set_option linter.unusedVariables false
set_option linter.unusedSimpArgs false
set_option maxRecDepth 100000
set_option linter.unusedVariables false
set_option linter.unusedSimpArgs false
def badA (o : OpM) (l : List Claim) (n : Nat) : Prop := n ≤ o.r ∨ o.n = 0 ∨ o.dep o.r ≠ o.n - 1 ∨ o.tm < 1 ∨ 281474976710656 < o.tm ∨ o.who = 0 ∨ 8 < o.kd ∨ zeroM o l = false
instance (o : OpM) (l : List Claim) (n : Nat) : Decidable (badA o l n) := by unfold badA; infer_instance
def badB (o : OpM) (l : List Claim) (n : Nat) : Bool := decide (badA o l n)
def refB (o : OpM) : Bool := ((((((o.kd : Int) == 0) && !eqB (o.cr, o.cn) (o.r, o.n)) || (!((o.kd : Int) == 0) && !covB o.dep (o.cr, o.cn))) || (inS (letS o.kd) 99 && !covB o.dep (o.dr, o.dn))) || (inS (letS o.kd) 97 && !covB o.dep (o.ar, o.an))) || (inS (letS o.kd) 118 && !covB o.dep (o.vr, o.vn))
def refC (o : OpM) (l : List Claim) : Bool := (((inS (letS o.kd) 116 && (((((((o.to : Int) == 0) || decide ((o.ro : Int) < 1)) || decide (7 < (o.ro : Int))) || decide (7 < (o.de : Int))) || decide (1099511627776 < (o.cap : Int))))) || (inS (letS o.kd) 113 && (decide ((o.qt : Int) < 1) || decide (65535 < (o.qt : Int))))) || decide (16777215 < (o.pr : Int))) || (inS (letS o.kd) 108 && !okLB o.dep l)
def refIn (o : OpM) (l : List Claim) (n : Nat) : Int := if badB o l n = true then 5 else if restB o.dep n = false then 5 else if refB o = true then 5 else if refC o l = true then 5 else 0
def refM (o : OpM) (l : List Claim) (n : Int) : Int := if n < 1 then 2 else if 8 < n then 2 else refIn o l n.toNat
end Go.Proofs.YtfnmekmgjcjglaaDoor.V
