/-
  Acts, opened as arguments.
-/
import Derived.Test.YtfmigkmkdhciiaaKM
import Derived.Test.YtfmigkmkdhciiaaProg
import Derived.SizedLaws
import Derived.ProofKit
import Derived.OpenShut
import Derived.ShutString
import Derived.Deep.Slices
import Derived.Test.YtfmigkmkdhciiaaKA
namespace Go.Proofs.Ytfmigkmkdhciiaa.K
set_option linter.unusedVariables false
set_option linter.unusedSimpArgs false
set_option maxRecDepth 100000
open Go Go.RowKit Go.ChangeShapes Go.WideShapes

theorem act_cells : Try.prog.cellsOf 36 = 4 := by kernel_rfl
theorem k_u8 : Try.prog.cellsOf 5 = 1 := by kernel_rfl
theorem k_int : Try.prog.cellsOf 3 = 1 := by kernel_rfl
theorem k_str : Try.prog.cellsOf 9 = 1 := by kernel_rfl
theorem nat8 {n : Int} (h : (Lit.int .u8 n).wf = true) : 0 ≤ n ∧ n ≤ 255 := by
  simpa [Lit.wf, IntKind.min, IntKind.max, IntKind.signed, IntKind.bits] using h
theorem int64 {n : Int} (h : (Lit.int .i64 n).wf = true) : -9223372036854775808 ≤ n ∧ n ≤ 9223372036854775807 := by
  simpa [Lit.wf, IntKind.min, IntKind.max, IntKind.signed, IntKind.bits] using h
/-- What is done: what, a name, bytes, a number. -/
structure ActM where
  a : Int
  b : Str
  c : Str
  k : Int
def ActM.cells (x : ActM) : Array Value := #[.int .u8 x.a, strV x.b, strV x.c, .int .i64 x.k]
structure ActM.ok (x : ActM) : Prop where
  a : 0 ≤ x.a ∧ x.a ≤ 255
  k : -9223372036854775808 ≤ x.k ∧ x.k ≤ 9223372036854775807
theorem str_of (s : ByteArray) : Value.string s = strV s.data.toList := by
  unfold strV
  simp

section
variable {H : Type} {enc : TypeId × Value → H} {w : World} {base : Nat} {spare : Nat → Bool} {held : Bool}
theorem open_act {fuel : Nat} {cs : List Value} {x : DataW H × List MemPlace} (h : DataW.trod enc Try.prog w base spare held fuel 36 cs = some x) :
    ∃ y : ActM, cs = y.cells.toList ∧ y.ok ∧ ((∀ n ∈ DataW.weights Try.prog 36 x.1, n ≤ reachBytes) → y.b.length ≤ reachBytes ∧ y.c.length ≤ reachBytes) := by
  obtain ⟨ys, m, _, rfl, hlen, hl, hf⟩ := DataW.trod_struct Try.underlying36 h
  rw [act_cells] at hlen
  match cs, hlen with
  | [c0, c1, c2, c3], _ =>
    match ys, hl with
    | [y0, y1, y2, y3], _ =>
      have g0 : DataW.trod enc Try.prog w base spare held m 5 (([c0, c1, c2, c3].drop 0).take (Try.prog.cellsOf 5)) = some y0 := hf 0 _ rfl
      rw [k_u8] at g0
      have f0 : DataW.trod enc Try.prog w base spare held m 5 [c0] = some y0 := g0
      have g1 : DataW.trod enc Try.prog w base spare held m 9 (([c0, c1, c2, c3].drop 1).take (Try.prog.cellsOf 9)) = some y1 := hf 1 _ rfl
      rw [k_str] at g1
      have f1 : DataW.trod enc Try.prog w base spare held m 9 [c1] = some y1 := g1
      have g2 : DataW.trod enc Try.prog w base spare held m 9 (([c0, c1, c2, c3].drop 2).take (Try.prog.cellsOf 9)) = some y2 := hf 2 _ rfl
      rw [k_str] at g2
      have f2 : DataW.trod enc Try.prog w base spare held m 9 [c2] = some y2 := g2
      have g3 : DataW.trod enc Try.prog w base spare held m 3 (([c0, c1, c2, c3].drop 3).take (Try.prog.cellsOf 3)) = some y3 := hf 3 _ rfl
      rw [k_int] at g3
      have f3 : DataW.trod enc Try.prog w base spare held m 3 [c3] = some y3 := g3
      obtain ⟨a, e0, _, w0⟩ := DataW.trod_int Try.underlying5 f0
      obtain ⟨s, e1, d1, _⟩ := DataW.trod_string Try.underlying9 f1
      obtain ⟨t, e2, d2, _⟩ := DataW.trod_string Try.underlying9 f2
      obtain ⟨k, e3, _, w3⟩ := DataW.trod_int Try.underlying3 f3
      simp only [List.cons.injEq, and_true] at e0 e1 e2 e3
      rw [str_of] at e1 e2
      subst e0 e1 e2 e3
      refine ⟨⟨a, s.data.toList, t.data.toList, k⟩, rfl, ⟨nat8 w0, int64 w3⟩, fun hsz => ⟨?_, ?_⟩⟩
      · have : s.size ≤ reachBytes := by
          refine hsz s.size ?_
          subst d1
          simp [DataW.weights, DataW.weightsEach, Try.underlying36]
        show _ ≤ _
        rw [Array.length_toList]
        exact this
      · have : t.size ≤ reachBytes := by
          refine hsz t.size ?_
          subst d2
          simp [DataW.weights, DataW.weightsEach, Try.underlying36]
        show _ ≤ _
        rw [Array.length_toList]
        exact this
theorem open_actV {v : Value} {d : DataW H} {ps : List MemPlace} {r : Reach} {b0 : Nat} (hv : Value.okWide Try.prog w r b0 36 v) (h : DataW.Trod enc Try.prog w base spare held 36 v d ps) :
    ∃ y : ActM, v = .agg #[.int .u8 y.a, strV y.b, strV y.c, .int .i64 y.k] ∧ y.ok := by
  obtain ⟨cs, rfl, _⟩ := okWide_struct Try.underlying36 hv
  obtain ⟨fuel, hf⟩ := h
  obtain ⟨x, hx, hok, _⟩ := open_act hf
  refine ⟨x, ?_, hok⟩
  congr 1
  exact Array.ext' hx
end
end Go.Proofs.Ytfmigkmkdhciiaa.K
