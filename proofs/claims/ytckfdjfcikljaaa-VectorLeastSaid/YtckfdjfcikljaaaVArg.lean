/-
  Dots, vectors and slices of vectors, opened as arguments.
-/
import Derived.Test.YtckfdjfcikljaaaVVec
import Derived.SizedLaws
import Derived.ProofKit
import Derived.OpenShut
import Derived.ShutString
import Derived.Deep.Slices
namespace Go.Proofs.Ytckfdjfcikljaaa
set_option linter.unusedVariables false
set_option linter.unusedSimpArgs false
open Go Go.RowKit Go.ChangeShapes Go.WideShapes

theorem a_u8 : Try.prog.cellsOf 5 = 1 := by kernel_rfl
theorem a_u32 : Try.prog.cellsOf 22 = 1 := by kernel_rfl
theorem a_dot : Try.prog.cellsOf 26 = 2 := by kernel_rfl
theorem arg8 {n : Int} (h : (Lit.int .u8 n).wf = true) : ∃ m : Nat, n = m ∧ m < 256 := by
  have hx : 0 ≤ n ∧ n ≤ 255 := by simpa [Lit.wf, IntKind.min, IntKind.max, IntKind.signed, IntKind.bits] using h
  exact ⟨n.toNat, by omega, by omega⟩
theorem arg32 {n : Int} (h : (Lit.int .u32 n).wf = true) : ∃ m : Nat, n = m ∧ m < 4294967296 := by
  have hx : 0 ≤ n ∧ n ≤ 4294967295 := by simpa [Lit.wf, IntKind.min, IntKind.max, IntKind.signed, IntKind.bits] using h
  exact ⟨n.toNat, by omega, by omega⟩
theorem a_vec : Try.prog.cellsOf 24 = 8 := by kernel_rfl

section
variable {H : Type} {enc : TypeId × Value → H} {w : World} {base : Nat} {spare : Nat → Bool} {held : Bool}

theorem at_some {α : Type} {ys : List α} {n i : Nat} (h : ys.length = n) (hi : i < n) : ∃ y, ys[i]? = some y := ⟨_, List.getElem?_eq_getElem (by omega)⟩

theorem open_dot {fuel : Nat} {cs : List Value} {x : DataW H × List MemPlace} (h : DataW.trod enc Try.prog w base spare held fuel 26 cs = some x) :
    ∃ d : Dot, cs = d.enc ∧ d.ok := by
  obtain ⟨ys, m, _, _, hlen, hl, hf⟩ := DataW.trod_struct Try.underlying26 h
  rw [a_dot] at hlen
  match cs, hlen with
  | [c0, c1], _ =>
    obtain ⟨y0, hy0⟩ := at_some hl (show 0 < 2 by omega)
    obtain ⟨y1, hy1⟩ := at_some hl (show 1 < 2 by omega)
    have g0 : DataW.trod enc Try.prog w base spare held m 5 (([c0, c1].drop 0).take (Try.prog.cellsOf 5)) = ys[0]? := hf 0 _ rfl
    have g1 : DataW.trod enc Try.prog w base spare held m 22 (([c0, c1].drop 1).take (Try.prog.cellsOf 22)) = ys[1]? := hf 1 _ rfl
    rw [a_u8, hy0] at g0
    rw [a_u32, hy1] at g1
    have f0 : DataW.trod enc Try.prog w base spare held m 5 [c0] = some y0 := g0
    have f1 : DataW.trod enc Try.prog w base spare held m 22 [c1] = some y1 := g1
    obtain ⟨a, e0, _, w0⟩ := DataW.trod_int Try.underlying5 f0
    obtain ⟨b, e1, _, w1⟩ := DataW.trod_int Try.underlying22 f1
    obtain ⟨r, rfl, hr⟩ := arg8 w0
    obtain ⟨n, rfl, hn⟩ := arg32 w1
    simp only [List.cons.injEq, and_true] at e0 e1
    exact ⟨(r, n), by rw [e0, e1]; rfl, hr, hn⟩

theorem open_dotV {v : Value} {d : DataW H} {ps : List MemPlace} {r : Reach} {b0 : Nat} (hv : Value.okWide Try.prog w r b0 26 v) (h : DataW.Trod enc Try.prog w base spare held 26 v d ps) :
    ∃ x : Dot, v = .agg #[.int .u8 (x.1 : Int), .int .u32 (x.2 : Int)] ∧ x.ok := by
  obtain ⟨cs, rfl, _⟩ := okWide_struct Try.underlying26 hv
  obtain ⟨fuel, hf⟩ := h
  obtain ⟨x, hx, hok⟩ := open_dot hf
  refine ⟨x, ?_, hok⟩
  congr 1
  exact Array.ext' hx

theorem open_vec {fuel : Nat} {cs : List Value} {x : DataW H × List MemPlace} (h : DataW.trod enc Try.prog w base spare held fuel 24 cs = some x) :
    ∃ x : Vec, cs = (vc x).toList ∧ okV x := by
  obtain ⟨ys, m, _, _, hlen, hl, hf⟩ := DataW.trod_array Try.underlying24 h
  rw [a_vec] at hlen
  match cs, hlen with
  | [c0, c1, c2, c3, c4, c5, c6, c7], _ =>
    have key : ∀ i, i < 8 → ∀ c, [c0, c1, c2, c3, c4, c5, c6, c7][i]? = some c → ∃ v : Nat, c = .int .u32 v ∧ v < 4294967296 := fun i hi c hc => by
      have f := hf i hi
      obtain ⟨y, hy⟩ := at_some hl hi
      rw [hy, a_u32, Nat.mul_one] at f
      have : (List.drop i [c0, c1, c2, c3, c4, c5, c6, c7]).take 1 = [c] := by
        rw [List.drop_eq_getElem_cons (by simpa using hi)]
        simp only [List.take_succ_cons, List.take_zero]
        have := List.getElem?_eq_getElem (l := [c0, c1, c2, c3, c4, c5, c6, c7]) (i := i) (by simpa using hi)
        rw [hc] at this
        rw [← Option.some.inj this]
      rw [this] at f
      obtain ⟨a, e0, _, w0⟩ := DataW.trod_int Try.underlying22 f
      obtain ⟨v, rfl, hv⟩ := arg32 w0
      simp only [List.cons.injEq, and_true] at e0
      exact ⟨v, e0, hv⟩
    obtain ⟨v0, rfl, h0⟩ := key 0 (by omega) _ rfl
    obtain ⟨v1, rfl, h1⟩ := key 1 (by omega) _ rfl
    obtain ⟨v2, rfl, h2⟩ := key 2 (by omega) _ rfl
    obtain ⟨v3, rfl, h3⟩ := key 3 (by omega) _ rfl
    obtain ⟨v4, rfl, h4⟩ := key 4 (by omega) _ rfl
    obtain ⟨v5, rfl, h5⟩ := key 5 (by omega) _ rfl
    obtain ⟨v6, rfl, h6⟩ := key 6 (by omega) _ rfl
    obtain ⟨v7, rfl, h7⟩ := key 7 (by omega) _ rfl
    refine ⟨(fun i => match i with | 0 => v0 | 1 => v1 | 2 => v2 | 3 => v3 | 4 => v4 | 5 => v5 | 6 => v6 | 7 => v7 | _ => 0), rfl, fun i => ?_, fun i hi => ?_⟩
    · match i with
      | 0 => exact h0
      | 1 => exact h1
      | 2 => exact h2
      | 3 => exact h3
      | 4 => exact h4
      | 5 => exact h5
      | 6 => exact h6
      | 7 => exact h7
      | _ + 8 => show (0 : Nat) < 4294967296; omega
    · match i, hi with
      | _ + 8, _ => rfl

theorem okWide_array {P : Program} {w : World} {r : Reach} {base : Nat} {t : TypeId} {v : Value} {n : Nat} {e : TypeId} (ht : P.underlying t = some (.array n e)) (h : Value.okWide P w r base t v) : ∃ cs, v = .agg cs ∧ cs.size = P.cellsOf t := by
  simp only [Value.okWide, ht] at h
  obtain ⟨cs, h1, h2, _⟩ := h
  exact ⟨cs, h1, h2⟩

theorem open_vecV {v : Value} {d : DataW H} {ps : List MemPlace} {r : Reach} {b0 : Nat} (hv : Value.okWide Try.prog w r b0 24 v) (h : DataW.Trod enc Try.prog w base spare held 24 v d ps) :
    ∃ x : Vec, v = .agg #[.int .u32 (x 0 : Int), .int .u32 (x 1 : Int), .int .u32 (x 2 : Int), .int .u32 (x 3 : Int), .int .u32 (x 4 : Int), .int .u32 (x 5 : Int), .int .u32 (x 6 : Int), .int .u32 (x 7 : Int)] ∧ okV x := by
  obtain ⟨cs, rfl, _⟩ := okWide_array Try.underlying24 hv
  obtain ⟨fuel, hf⟩ := h
  obtain ⟨x, hx, hok⟩ := open_vec hf
  refine ⟨x, ?_, hok⟩
  congr 1
  exact Array.ext' hx

theorem open_vecs {v : Value} {d : DataW H} {ps : List MemPlace} {r : Reach} {b0 : Nat} (hv : Value.okWide Try.prog w r b0 49 v) (h : DataW.Trod enc Try.prog w base spare held 49 v d ps) :
    ∃ xs, VecsV w v xs := by
  obtain ⟨a, len, cap, rfl⟩ := okWide_slice Try.underlying49 hv
  suffices hs : ∃ xs, IsVecs w a len cap xs by
    obtain ⟨xs, hs⟩ := hs
    exact ⟨xs, a, len, cap, rfl, hs⟩
  obtain ⟨fuel, hf⟩ := h
  rcases Go.Deep.open_slice Try.underlying49 hf with ⟨hcs, _⟩ | ⟨ad, len', cap', m, n, D, Pl, hcs, _, hl, hm, hmm, hx, hi⟩
  · simp [Value.cells] at hcs
    obtain ⟨rfl, rfl, rfl⟩ := hcs
    exact ⟨[], rfl, Nat.le_refl _, Nat.zero_le _, by simp, rfl, rfl⟩
  · simp [Value.cells] at hcs
    obtain ⟨rfl, rfl, rfl⟩ := hcs
    have hlm : len ≤ m := by rw [hmm]; split <;> omega
    have key : ∀ i, i < len → ∃ y : Vec, okV y ∧ ∀ k, k < 8 → w.cell? ((ad.add (i * 8)).add k) = some (.int .u32 (y k : Int)) := fun i hlt => by
      obtain ⟨cs', hc, ht⟩ := hi i (by omega)
      rw [a_vec] at hc
      obtain ⟨_, _, hat⟩ := World.cells?_some hc
      obtain ⟨y, hy, hok⟩ := open_vec ht
      refine ⟨y, hok, fun k hk => ?_⟩
      have h0 := hat k hk
      rw [hy] at h0
      rw [h0]
      simpa using vc_get y hk
    refine ⟨(List.range len).pmap (fun i hlt => (key i (List.mem_range.1 hlt)).choose) (fun _ h => h), by simp, hl, hm, ?_, ?_⟩
    · intro x hx
      obtain ⟨i, hlt, rfl⟩ := List.mem_pmap.1 hx
      exact (key i (List.mem_range.1 hlt)).choose_spec.1
    · intro i x hx
      have hlt : i < len := by
        have := (List.getElem?_eq_some_iff.1 hx).1
        simpa using this
      rw [List.getElem?_pmap] at hx
      simp [List.getElem?_range hlt] at hx
      rw [← hx]
      exact (key i hlt).choose_spec.2
end

end Go.Proofs.Ytckfdjfcikljaaa
