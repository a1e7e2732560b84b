/-
  Are two operations the same? Rows of claims compared; op.Same.
-/
import Derived.Test.YtfnmekmgjcjglaaDoorYOL
namespace Go.Proofs.YtfnmekmgjcjglaaDoor.V
set_option linter.unusedVariables false
set_option linter.unusedSimpArgs false
set_option maxRecDepth 100000
open Go Go.RowKit Go.Maps
set_option maxRecDepth 100000
set_option linter.unusedVariables false
set_option linter.unusedSimpArgs false
set_option maxRecDepth 100000
set_option linter.unusedVariables false
set_option linter.unusedSimpArgs false
theorem eq_claim (r n s m r' n' s' m' : Int) (w : World) : (Op.equalIn 10000 94 (.agg #[.int .u8 r, .int .u32 n, .int .u8 s, .int .u32 m]) (.agg #[.int .u8 r', .int .u32 n', .int .u8 s', .int .u32 m'])).run Tryd.prog w = .ok ((r == r' && n == n') && (s == s' && m == m')) w := by
  have hf : Tryd.prog.underlying 94 = some (.struct (Tryd.prog.fieldsOf 94)) := by simp [Program.fieldsOf, Tryd.underlying94]
  have hp : Tryd.prog.stoodInHeld 94 = false := by kernel_rfl
  rw [show (10000 : Nat) = 9999 + 1 from rfl, run_equalIn_struct w 9999 94 _ _ hf hp]
  simp only [Program.fieldsOf, Tryd.underlying94, Op.eqFields]
  go_simp
  by_cases h0 : r = r'
  · by_cases h1 : n = n'
    · by_cases h2 : s = s'
      · by_cases h3 : m = m' <;> simp [h0, h1, h2, h3]
      · simp [h0, h1, h2]
    · simp [h0, h1]
  · simp [h0]
theorem run_neqC (x y : Claim) (w : World) : (binOp .neq 94 (.agg #[.int .u8 (x.1.1 : Int), .int .u32 (x.1.2 : Int), .int .u8 (x.2.1 : Int), .int .u32 (x.2.2 : Int)]) (.agg #[.int .u8 (y.1.1 : Int), .int .u32 (y.1.2 : Int), .int .u8 (y.2.1 : Int), .int .u32 (y.2.2 : Int)])).run Tryd.prog w = .ok (.bool (!decide (x = y))) w := by
  have h := eq_claim x.1.1 x.1.2 x.2.1 x.2.2 y.1.1 y.1.2 y.2.1 y.2.2 w
  have e : (((x.1.1 : Int) == (y.1.1 : Int) && (x.1.2 : Int) == (y.1.2 : Int)) && ((x.2.1 : Int) == (y.2.1 : Int) && (x.2.2 : Int) == (y.2.2 : Int))) = decide (x = y) := by
    rw [Bool.eq_iff_iff]
    simp only [Bool.and_eq_true, beq_iff_eq, decide_eq_true_eq, Int.natCast_inj]
    exact ⟨fun h => Prod.ext (Prod.ext h.1.1 h.1.2) (Prod.ext h.2.1 h.2.2), fun h => by rw [h]; exact ⟨⟨rfl, rfl⟩, rfl, rfl⟩⟩
  rw [e] at h
  simp only [binOp]
  simp [Op.equal, Op.maxDepth]
  rw [h]; rfl
theorem not_eq_at {l m : List Claim} {k : Nat} {x y : Claim} (hx : l[k]? = some x) (hy : m[k]? = some y) (h : x ≠ y) : l ≠ m := by
  intro e; subst e; rw [hx] at hy; exact h (Option.some.inj hy)
theorem eq_of_at {l m : List Claim} {n : Nat} (h1 : l.length = n) (h2 : m.length = n) (h : ∀ j, j < n → l[j]? = m[j]?) : l = m := by
  apply List.ext_getElem?
  intro j
  by_cases hj : j < n
  · exact h j hj
  · rw [List.getElem?_eq_none (by omega), List.getElem?_eq_none (by omega)]
def simE (a b : OpM) : Bool := decide (a.to = b.to ∧ a.ro = b.ro ∧ a.de = b.de ∧ a.cap = b.cap ∧ a.it = b.it ∧ a.qt = b.qt ∧ a.pr = b.pr)
/-- Are two operations the same? -/
def sameM (a b : OpM) (la lb : List Claim) : Bool := eqB (a.r, a.n) (b.r, b.n) && (eqV a.dep b.dep && (((a.tm : Int) == (b.tm : Int)) && (((a.who : Int) == (b.who : Int)) && (eqB (a.cr, a.cn) (b.cr, b.cn) && (((a.kd : Int) == (b.kd : Int)) && (eqB (a.dr, a.dn) (b.dr, b.dn) && (eqB (a.ar, a.an) (b.ar, b.an) && (eqB (a.vr, a.vn) (b.vr, b.vn) && (simE a b && (decide (la = lb)))))))))))
end Go.Proofs.YtfnmekmgjcjglaaDoor.V
namespace Go.Proofs.YtfnmekmgjcjglaaDoor.V
set_option linter.unusedVariables false
set_option linter.unusedSimpArgs false
open Go Go.RowKit Go.Maps
set_option maxRecDepth 100000
set_option linter.unusedVariables false
set_option linter.unusedSimpArgs false
set_option maxRecDepth 100000
set_option linter.unusedVariables false
set_option linter.unusedSimpArgs false
theorem wpList_of_quiet {P : Program} {ops : Array Oper} {C : World → Prop} {Qa : Act → Prop} {Q : Exit → Act → World → Prop} (hQ : ∀ a w, C w → Qa a → Q .normal a w) :
    ∀ (l : List Oper) (a : Act) (w : World), C w → wpQuiet P ops C Qa l a → wpList P ops Q l a w
  | [], a, w, hw, h => hQ a w hw h
  | o :: rest, a, w, hw, h => by
    unfold wpQuiet at h
    unfold wpList
    split
    · rename_i hwant
      rw [if_pos hwant] at h
      exact Or.inl (Oper.wp_of_quiet hw (fun a' w' hw' h' => wpList_of_quiet hQ rest a' w' hw' h') h)
    · rename_i hwant
      rw [if_neg hwant] at h
      exact wpList_of_quiet hQ rest _ w hw h
theorem wpList_later {P : Program} {ops : Array Oper} {Q : Exit → Act → World → Prop} {l : List Oper} {a : Act} {w : World}
    (h : wpQuiet P ops (fun w' => ∃ p : Later w.heap.size w, w' = p.val) (fun a' => ∀ w', (∃ p : Later w.heap.size w, w' = p.val) → Q .normal a' w') l a) : wpList P ops Q l a w :=
  wpList_of_quiet (fun a' w' hw' h' => h' w' hw') l a w ⟨⟨w, Below.refl _ _⟩, rfl⟩ h
end Go.Proofs.YtfnmekmgjcjglaaDoor.V
