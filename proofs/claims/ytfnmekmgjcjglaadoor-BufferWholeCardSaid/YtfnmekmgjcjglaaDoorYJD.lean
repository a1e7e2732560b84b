/-
  Contracts of package wire: the readers.
-/
import Derived.Test.YtfnmekmgjcjglaaDoorYJW
import Derived.Deep.RegionHeld3
import Derived.WalkLawsBesides
import Derived.Deep.RegionWith
import Derived.Laws.StructEq
import Derived.DeepKeys
namespace Go.Proofs.YtfnmekmgjcjglaaDoor
open Go Go.RowKit Wire
set_option maxRecDepth 100000
set_option linter.unusedVariables false
set_option linter.unusedSimpArgs false
set_option maxRecDepth 100000
set_option linter.unusedVariables false
set_option linter.unusedSimpArgs false
set_option maxRecDepth 100000
set_option linter.unusedVariables false
set_option linter.unusedSimpArgs false
def rcells : St → Array Value
  | some l => #[.string (ba l), .bool true]
  | none => #[.string ⟨#[]⟩, .bool false]
def rptr (p : Option Nat) : Value := .pointer (p.map fun g => ⟨g, 0, none⟩)
/-- Few enough bytes. -/
def Small (st : St) : Prop := (st.getD []).length ≤ 1000000
/-- Is the reader at its end? -/
def endOf (st : St) : Int := if st = some [] then 0 else 5
/-- Bytes are taken. -/
def takeB (st : St) (n : Nat) : (List UInt8 × Bool) × St :=
  match st with
  | some l => if n ≤ l.length then ((l.take n, true), some (l.drop n)) else (([], false), some l)
  | none => (([], false), none)
/-- What reading a number says of the state. -/
def ReadSaid (st : St) (n : Nat) (ok : Bool) (st' : St) : Prop :=
  n < 18446744073709551616 ∧ Small st' ∧ (match st.bind parse with | some (m, r) => n = m ∧ ok = true ∧ st' = some r | none => ok = false)
end Go.Proofs.YtfnmekmgjcjglaaDoor
/-
  Contracts of package wire: what is read.
-/
namespace Go.Proofs.YtfnmekmgjcjglaaDoor
open Go Go.RowKit Wire
set_option maxRecDepth 100000
set_option linter.unusedVariables false
set_option linter.unusedSimpArgs false
end Go.Proofs.YtfnmekmgjcjglaaDoor
/-
  Contracts of package wire: the readers' methods.
-/
namespace Go.Proofs.YtfnmekmgjcjglaaDoor
open Go Go.RowKit Wire
set_option maxRecDepth 100000
set_option linter.unusedVariables false
set_option linter.unusedSimpArgs false
/-- The reader behind a failure. -/
def fallen (W : World) (g : Nat) : World := (W.setCell ⟨g, 0, none⟩ (.string ⟨#[]⟩)).setCell ⟨g, 1, none⟩ (.bool false)
end Go.Proofs.YtfnmekmgjcjglaaDoor
/-
  Contracts of package wire: dots and vectors read; a reader made.
-/
namespace Go.Proofs.YtfnmekmgjcjglaaDoor
open Go Go.RowKit Wire
set_option maxRecDepth 100000
set_option linter.unusedVariables false
set_option linter.unusedSimpArgs false
theorem Keeps.setRow {W w : World} {p : Option Nat} (h : Keeps W.heap.size p W w) (g : Nat) (hg : W.heap.size ≤ g) (cs : Array Value) : Keeps W.heap.size p W (w.setRow g cs) :=
  ⟨h.os, h.tape, h.output, by simpa using h.size, fun k hk hp => (setRow_other w g k cs (by omega)).trans (h.block k hk hp),
    fun k c t fr hk ht hp => (setRow_other w g k cs (by have := lt_of_some hk; omega)).trans (h.other k c t fr hk ht hp)⟩
def dcells (d : Nat × Nat) : Array Value := #[.int .u8 (d.1 : Int), .int .u32 (d.2 : Int)]
/-- The vector's cells behind k numbers. -/
def vrow (k : Nat) (st : St) : Array Value := vcells ((vecGo k st).1 ++ List.replicate (8 - k) 0)
end Go.Proofs.YtfnmekmgjcjglaaDoor
/-
  Contracts of the document's answer for package wire: what is read.
-/
namespace Go.Proofs.YtfnmekmgjcjglaaDoor
open Go Go.RowKit Wire
set_option maxRecDepth 100000
set_option linter.unusedVariables false
set_option linter.unusedSimpArgs false
theorem results_row_tmp {P : Program} {fn : Func} {u p : Tmp} {ty : TypeId} (h : fn.results = #[.cell p ty, .tmp u]) (tmps : Array Value) (w : World) (g : Nat) (t : TypeId) (cs : Array Value) (fr : Nat × Nat) (d : TypeDesc) (v : Value)
    (hv : tmps.getD u undef = v) (hp : tmps.getD p undef = .pointer (some ⟨g, 0, none⟩)) (hg : w.heap[g]? = some (.cells cs t fr))
    (hu : P.underlying ty = some d) (hd : (match d with | .struct _ | .array _ _ => true | _ => false) = true) (hi : (P.info? ty).map (·.size) = some cs.size) :
    (results fn tmps).run P w = .ok (.tuple #[.agg cs, v]) w := by
  have hp' : tmps[p]?.getD undef = .pointer (some ⟨g, 0, none⟩) := by simpa using hp
  have hv' : tmps[u]?.getD undef = v := by simpa using hv
  simp [results, h, hp', hv', asAddr, run_loadVar_row w g t ty cs fr d hg hu hd hi]
end Go.Proofs.YtfnmekmgjcjglaaDoor
/-
  'none' and 'head' of stage 2: what the document fixes.
-/
namespace Go.Proofs.YtfnmekmgjcjglaaDoor
open Go Go.RowKit Wire
set_option maxRecDepth 100000
set_option linter.unusedVariables false
set_option linter.unusedSimpArgs false
end Go.Proofs.YtfnmekmgjcjglaaDoor
/-
  Two vectors compared.
-/
namespace Go.Proofs.YtfnmekmgjcjglaaDoor
open Go Go.RowKit Wire
set_option maxRecDepth 100000
set_option linter.unusedVariables false
set_option linter.unusedSimpArgs false
theorem vec_info : (Tryd.prog.info? 28).map (fun i => (i.zero, i.size)) = some (some (.int .u32 0), 1) := by kernel_rfl
theorem eq_vec8 (a0 a1 a2 a3 a4 a5 a6 a7 b0 b1 b2 b3 b4 b5 b6 b7 : Int) (w : World) : (Op.equalIn 10000 30 (.agg #[.int .u32 a0, .int .u32 a1, .int .u32 a2, .int .u32 a3, .int .u32 a4, .int .u32 a5, .int .u32 a6, .int .u32 a7]) (.agg #[.int .u32 b0, .int .u32 b1, .int .u32 b2, .int .u32 b3, .int .u32 b4, .int .u32 b5, .int .u32 b6, .int .u32 b7])).run Tryd.prog w = .ok (a0 == b0 && a1 == b1 && a2 == b2 && a3 == b3 && a4 == b4 && a5 == b5 && a6 == b6 && a7 == b7) w := by
  obtain ⟨hz, hi⟩ := zero_of_info vec_info
  have u3 := Tryd.underlying28
  rw [show (10000 : Nat) = 9999 + 1 from rfl, Op.equalIn]
  simp only [Sem.run_bind, run_underlying Tryd.underlying30, Result.andThen_ok]
  simp only [Std.Legacy.Range.forIn_eq_forIn_range', Std.Legacy.Range.size, Nat.sub_zero, Nat.add_sub_cancel, Nat.div_one, List.range'_succ, List.range'_zero, List.forIn_cons, List.forIn_nil]
  go_simp
  by_cases h0 : a0 = b0
  · by_cases h1 : a1 = b1
    · by_cases h2 : a2 = b2
      · by_cases h3 : a3 = b3
        · by_cases h4 : a4 = b4
          · by_cases h5 : a5 = b5
            · by_cases h6 : a6 = b6
              · by_cases h7 : a7 = b7
                · simp [h0, h1, h2, h3, h4, h5, h6, h7]
                · simp [h0, h1, h2, h3, h4, h5, h6, h7]
              · simp [h0, h1, h2, h3, h4, h5, h6]
            · simp [h0, h1, h2, h3, h4, h5]
          · simp [h0, h1, h2, h3, h4]
        · simp [h0, h1, h2, h3]
      · simp [h0, h1, h2]
    · simp [h0, h1]
  · simp [h0]
theorem list8' (v : List Nat) (h : v.length = 8) : ∃ a0 a1 a2 a3 a4 a5 a6 a7, v = [a0, a1, a2, a3, a4, a5, a6, a7] := by
  match v, h with
  | [a0, a1, a2, a3, a4, a5, a6, a7], _ => exact ⟨_, _, _, _, _, _, _, _, rfl⟩
theorem eq_vec (v u : List Nat) (hv : v.length = 8) (hu : u.length = 8) (w : World) : (Op.equalIn 10000 30 (.agg (vcells v)) (.agg (vcells u))).run Tryd.prog w = .ok (decide (v = u)) w := by
  obtain ⟨a0, a1, a2, a3, a4, a5, a6, a7, rfl⟩ := list8' v hv
  obtain ⟨b0, b1, b2, b3, b4, b5, b6, b7, rfl⟩ := list8' u hu
  refine (eq_vec8 a0 a1 a2 a3 a4 a5 a6 a7 b0 b1 b2 b3 b4 b5 b6 b7 w).trans ?_
  congr 1
  rw [Bool.eq_iff_iff]
  simp only [Bool.and_eq_true, beq_iff_eq, decide_eq_true_eq, List.cons.injEq, Int.natCast_inj, and_true]
  constructor
  · rintro ⟨⟨⟨⟨⟨⟨⟨h0, h1⟩, h2⟩, h3⟩, h4⟩, h5⟩, h6⟩, h7⟩
    exact ⟨h0, h1, h2, h3, h4, h5, h6, h7⟩
  · rintro ⟨h0, h1, h2, h3, h4, h5, h6, h7⟩
    exact ⟨⟨⟨⟨⟨⟨⟨h0, h1⟩, h2⟩, h3⟩, h4⟩, h5⟩, h6⟩, h7⟩
end Go.Proofs.YtfnmekmgjcjglaaDoor
/-
  The walk of the law 'WireOrder'.
-/
namespace Go.Proofs.YtfnmekmgjcjglaaDoor
open Go Go.RowKit Wire
set_option maxRecDepth 100000
set_option linter.unusedVariables false
set_option linter.unusedSimpArgs false
end Go.Proofs.YtfnmekmgjcjglaaDoor
