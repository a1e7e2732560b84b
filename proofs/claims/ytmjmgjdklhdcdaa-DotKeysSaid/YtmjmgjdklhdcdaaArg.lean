/-
  Dots and slices of dots, opened as arguments.
-/
import Derived.Test.YtmjmgjdklhdcdaaHeadM
import Derived.SizedLaws
import Derived.ProofKit
import Derived.OpenShut
import Derived.ShutString
import Derived.Deep.Slices
namespace Go.Proofs.Ytmjmgjdklhdcdaa
set_option linter.unusedVariables false
set_option linter.unusedSimpArgs false
open Go Go.RowKit Go.ChangeShapes Go.WideShapes

theorem a_u8 : Try.prog.cellsOf 5 = 1 := by kernel_rfl
theorem a_u32 : Try.prog.cellsOf 22 = 1 := by kernel_rfl
theorem a_dot : Try.prog.cellsOf 24 = 2 := by kernel_rfl

theorem arg8 {n : Int} (h : (Lit.int .u8 n).wf = true) : ∃ m : Nat, n = m ∧ m < 256 := by
  have hx : 0 ≤ n ∧ n ≤ 255 := by simpa [Lit.wf, IntKind.min, IntKind.max, IntKind.signed, IntKind.bits] using h
  exact ⟨n.toNat, by omega, by omega⟩
theorem arg32 {n : Int} (h : (Lit.int .u32 n).wf = true) : ∃ m : Nat, n = m ∧ m < 4294967296 := by
  have hx : 0 ≤ n ∧ n ≤ 4294967295 := by simpa [Lit.wf, IntKind.min, IntKind.max, IntKind.signed, IntKind.bits] using h
  exact ⟨n.toNat, by omega, by omega⟩
theorem arg64 {n : Int} (h : (Lit.int .u64 n).wf = true) : ∃ m : Nat, n = m ∧ m < 18446744073709551616 := by
  have hx : 0 ≤ n ∧ n ≤ 18446744073709551615 := by simpa [Lit.wf, IntKind.min, IntKind.max, IntKind.signed, IntKind.bits] using h
  exact ⟨n.toNat, by omega, by omega⟩

section
variable {H : Type} {enc : TypeId × Value → H} {w : World} {base : Nat} {spare : Nat → Bool} {held : Bool}

theorem at_some {α : Type} {ys : List α} {n i : Nat} (h : ys.length = n) (hi : i < n) : ∃ y, ys[i]? = some y := ⟨_, List.getElem?_eq_getElem (by omega)⟩

theorem open_dot {fuel : Nat} {cs : List Value} {x : DataW H × List MemPlace} (h : DataW.trod enc Try.prog w base spare held fuel 24 cs = some x) :
    ∃ d : Dot, cs = d.enc ∧ d.ok := by
  obtain ⟨ys, m, _, _, hlen, hl, hf⟩ := DataW.trod_struct Try.underlying24 h
  rw [a_dot] at hlen
  match cs, hlen with
  | [c0, c1], _ =>
    obtain ⟨y0, hy0⟩ := at_some hl (show 0 < 2 by omega)
    obtain ⟨y1, hy1⟩ := at_some hl (show 1 < 2 by omega)
    have g0 : DataW.trod enc Try.prog w base spare held m 5 (([c0, c1].drop 0).take (Try.prog.cellsOf 5)) = ys[0]? := hf 0 _ rfl
    have g1 : DataW.trod enc Try.prog w base spare held m 22 (([c0, c1].drop 1).take (Try.prog.cellsOf 22)) = ys[1]? := hf 1 _ rfl
    rw [a_u8, hy0] at g0
    rw [a_u32, hy1] at g1
    have f0 : DataW.trod enc Try.prog w base spare held m 5 [c0] = some y0 := g0
    have f1 : DataW.trod enc Try.prog w base spare held m 22 [c1] = some y1 := g1
    obtain ⟨a, e0, _, w0⟩ := DataW.trod_int Try.underlying5 f0
    obtain ⟨b, e1, _, w1⟩ := DataW.trod_int Try.underlying22 f1
    obtain ⟨r, rfl, hr⟩ := arg8 w0
    obtain ⟨n, rfl, hn⟩ := arg32 w1
    simp only [List.cons.injEq, and_true] at e0 e1
    exact ⟨(r, n), by rw [e0, e1]; rfl, hr, hn⟩

theorem open_dots {v : Value} {d : DataW H} {ps : List MemPlace} {r : Reach} {b0 : Nat} (hv : Value.okWide Try.prog w r b0 39 v) (h : DataW.Trod enc Try.prog w base spare held 39 v d ps) :
    ∃ a len cap xs, v = .slice a len cap ∧ IsDots w a len cap xs := by
  obtain ⟨a, len, cap, rfl⟩ := okWide_slice Try.underlying39 hv
  refine ⟨a, len, cap, ?_⟩
  obtain ⟨fuel, hf⟩ := h
  rcases Go.Deep.open_slice Try.underlying39 hf with ⟨hcs, _⟩ | ⟨ad, len', cap', m, n, D, Pl, hcs, _, hl, hm, hmm, hx, hi⟩
  · simp [Value.cells] at hcs
    obtain ⟨rfl, rfl, rfl⟩ := hcs
    exact ⟨[], rfl, rfl, Nat.le_refl _, Nat.zero_le _, by simp, rfl, rfl⟩
  · simp [Value.cells] at hcs
    obtain ⟨rfl, rfl, rfl⟩ := hcs
    have hlm : len ≤ m := by rw [hmm]; split <;> omega
    have key : ∀ i, i < len → ∃ y : Dot, y.ok ∧ w.cell? (ad.add (i * 2)) = some (.int .u8 (y.1 : Int)) ∧ w.cell? ((ad.add (i * 2)).add 1) = some (.int .u32 (y.2 : Int)) := fun i hlt => by
      obtain ⟨cs', hc, ht⟩ := hi i (by omega)
      rw [a_dot] at hc
      obtain ⟨_, _, hat⟩ := World.cells?_some hc
      obtain ⟨y, hy, hok⟩ := open_dot ht
      have h0 := hat 0 (by omega)
      have h1 := hat 1 (by omega)
      rw [hy] at h0 h1
      exact ⟨y, hok, h0, h1⟩
    refine ⟨(List.range len).pmap (fun i hlt => (key i (List.mem_range.1 hlt)).choose) (fun _ h => h), rfl, by simp, hl, hm, ?_, ?_⟩
    · intro x hx
      obtain ⟨i, hlt, rfl⟩ := List.mem_pmap.1 hx
      exact (key i (List.mem_range.1 hlt)).choose_spec.1
    · intro i x hx
      have hlt : i < len := by
        have := (List.getElem?_eq_some_iff.1 hx).1
        simpa using this
      rw [List.getElem?_pmap] at hx
      simp [List.getElem?_range hlt] at hx
      rw [← hx]
      exact (key i hlt).choose_spec.2

theorem open_dotV {v : Value} {d : DataW H} {ps : List MemPlace} {r : Reach} {b0 : Nat} (hv : Value.okWide Try.prog w r b0 24 v) (h : DataW.Trod enc Try.prog w base spare held 24 v d ps) :
    ∃ x : Dot, v = .agg #[.int .u8 (x.1 : Int), .int .u32 (x.2 : Int)] ∧ x.ok := by
  obtain ⟨cs, rfl, _⟩ := okWide_struct Try.underlying24 hv
  obtain ⟨fuel, hf⟩ := h
  obtain ⟨x, hx, hok⟩ := open_dot hf
  refine ⟨x, ?_, hok⟩
  congr 1
  exact Array.ext' hx
end

end Go.Proofs.Ytmjmgjdklhdcdaa
