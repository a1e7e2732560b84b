/-
  Frames, rows of operations and pairs of numbers, opened as arguments.
-/
import Derived.Test.YtagjgknkkbkjgaaJF
import Derived.Test.YtagjgknkkbkjgaaOS
namespace Go.Proofs.Ytagjgknkkbkjgaa.V
set_option linter.unusedVariables false
set_option linter.unusedSimpArgs false
set_option maxRecDepth 100000
open Go Go.RowKit Go.ChangeShapes Go.WideShapes

theorem a_ops : Try.prog.cellsOf 25 = 1 := by kernel_rfl
theorem a_frame : Try.prog.cellsOf 27 = 12 := by kernel_rfl
theorem a_pair : Try.prog.cellsOf 41 = 2 := by kernel_rfl
section
variable {H : Type} {enc : TypeId × Value → H} {w : World} {base : Nat} {spare : Nat → Bool} {held : Bool}
theorem open_ops {fuel : Nat} {cs : List Value} {x : DataW H × List MemPlace} (hf : DataW.trod enc Try.prog w base spare held fuel 25 cs = some x) :
    ∃ v l, cs = [v] ∧ OpsV w v l := by
  rcases Go.Deep.open_slice Try.underlying25 hf with ⟨hcs, _⟩ | ⟨ad, len, cap, m, n, D, Pl, hcs, _, hl, hm, hmm, hx, hi⟩
  · exact ⟨_, [], hcs, OpsV.nil w⟩
  · have hgo : ∃ l, IsOps w (some ad) len cap l := by
      have hlm : len ≤ m := by rw [hmm]; split <;> omega
      have key : ∀ i, i < len → ∃ y : OC, (okO y.1 ∧ ClaimsV w y.1.lv y.2) ∧ ∀ k, k < 29 → w.cell? ((ad.add (i * 29)).add k) = (oc y.1)[k]? := fun i hlt => by
        obtain ⟨cs', hc, ht⟩ := hi i (by omega)
        rw [a_op] at hc
        obtain ⟨_, _, hat⟩ := World.cells?_some hc
        obtain ⟨o, l, hy, hok, hcl⟩ := open_op ht
        refine ⟨(o, l), ⟨hok, hcl⟩, fun k hk => ?_⟩
        have h0 := hat k hk
        rw [hy] at h0
        rw [h0]
        simp
      exact (by
        refine ⟨(List.range len).pmap (fun i hlt => (key i (List.mem_range.1 hlt)).choose) (fun _ h => h), by simp, hl, hm, ?_, ?_⟩
        · intro x hx
          obtain ⟨i, hlt, rfl⟩ := List.mem_pmap.1 hx
          exact (key i (List.mem_range.1 hlt)).choose_spec.1
        · intro i x hx
          have hlt : i < len := by
            have := (List.getElem?_eq_some_iff.1 hx).1
            simpa using this
          rw [List.getElem?_pmap] at hx
          simp [List.getElem?_range hlt] at hx
          rw [← hx]
          exact (key i hlt).choose_spec.2)
    obtain ⟨l, hl2⟩ := hgo
    exact ⟨_, l, hcs, some ad, len, cap, rfl, hl2⟩
theorem open_frame {fuel : Nat} {cs : List Value} {x : DataW H × List MemPlace} (h : DataW.trod enc Try.prog w base spare held fuel 27 cs = some x) :
    ∃ (f : FrM) (l : List OC), cs = (fc f).toList ∧ okF f ∧ OpsV w f.ops l := by
  obtain ⟨ys, m, _, _, hlen, hl, hf⟩ := DataW.trod_struct Try.underlying27 h
  rw [a_frame] at hlen
  match cs, hlen with
  | [c0, c1, c2, c3, c4, c5, c6, c7, c8, c9, c10, c11], _ =>
    obtain ⟨y0, hy0⟩ := at_some hl (show 0 < 5 by omega)
    obtain ⟨y1, hy1⟩ := at_some hl (show 1 < 5 by omega)
    obtain ⟨y2, hy2⟩ := at_some hl (show 2 < 5 by omega)
    obtain ⟨y3, hy3⟩ := at_some hl (show 3 < 5 by omega)
    obtain ⟨y4, hy4⟩ := at_some hl (show 4 < 5 by omega)
    have g0 : DataW.trod enc Try.prog w base spare held m 5 (([c0, c1, c2, c3, c4, c5, c6, c7, c8, c9, c10, c11].drop 0).take (Try.prog.cellsOf 5)) = ys[0]? := hf 0 _ rfl
    have g1 : DataW.trod enc Try.prog w base spare held m 5 (([c0, c1, c2, c3, c4, c5, c6, c7, c8, c9, c10, c11].drop 1).take (Try.prog.cellsOf 5)) = ys[1]? := hf 1 _ rfl
    have g2 : DataW.trod enc Try.prog w base spare held m 5 (([c0, c1, c2, c3, c4, c5, c6, c7, c8, c9, c10, c11].drop 2).take (Try.prog.cellsOf 5)) = ys[2]? := hf 2 _ rfl
    have g3 : DataW.trod enc Try.prog w base spare held m 24 (([c0, c1, c2, c3, c4, c5, c6, c7, c8, c9, c10, c11].drop 3).take (Try.prog.cellsOf 24)) = ys[3]? := hf 3 _ rfl
    have g4 : DataW.trod enc Try.prog w base spare held m 25 (([c0, c1, c2, c3, c4, c5, c6, c7, c8, c9, c10, c11].drop 11).take (Try.prog.cellsOf 25)) = ys[4]? := hf 4 _ rfl
    rw [a_u8, hy0] at g0
    rw [a_u8, hy1] at g1
    rw [a_u8, hy2] at g2
    rw [a_vec, hy3] at g3
    rw [a_ops, hy4] at g4
    have f0 : DataW.trod enc Try.prog w base spare held m 5 [c0] = some y0 := g0
    have f1 : DataW.trod enc Try.prog w base spare held m 5 [c1] = some y1 := g1
    have f2 : DataW.trod enc Try.prog w base spare held m 5 [c2] = some y2 := g2
    have f3 : DataW.trod enc Try.prog w base spare held m 24 [c3, c4, c5, c6, c7, c8, c9, c10] = some y3 := g3
    have f4 : DataW.trod enc Try.prog w base spare held m 25 [c11] = some y4 := g4
    obtain ⟨z0, e0, _, w0⟩ := DataW.trod_int Try.underlying5 f0
    obtain ⟨z1, e1, _, w1⟩ := DataW.trod_int Try.underlying5 f1
    obtain ⟨z2, e2, _, w2⟩ := DataW.trod_int Try.underlying5 f2
    obtain ⟨a, rfl, ha⟩ := arg8 w0
    obtain ⟨b, rfl, hb⟩ := arg8 w1
    obtain ⟨c, rfl, hc⟩ := arg8 w2
    obtain ⟨v, e3, hv⟩ := open_vec f3
    obtain ⟨q, l, e4, hq⟩ := open_ops f4
    refine ⟨⟨a, b, c, v, q⟩, l, ?_, ⟨ha, hb, hc, hv⟩, hq⟩
    have e : [c0, c1, c2, c3, c4, c5, c6, c7, c8, c9, c10, c11] = [c0] ++ ([c1] ++ ([c2] ++ ([c3, c4, c5, c6, c7, c8, c9, c10] ++ [c11]))) := rfl
    rw [e, e0, e1, e2, e3, e4]
    rfl
theorem open_frameV {v : Value} {d : DataW H} {ps : List MemPlace} {r : Reach} {b0 : Nat} (hv : Value.okWide Try.prog w r b0 27 v) (h : DataW.Trod enc Try.prog w base spare held 27 v d ps) :
    ∃ (f : FrM) (l : List OC), v = .agg (fc f) ∧ okF f ∧ OpsV w f.ops l := by
  obtain ⟨cs, rfl, _⟩ := okWide_struct Try.underlying27 hv
  obtain ⟨fuel, hf⟩ := h
  obtain ⟨f, l, hx, hok, hl⟩ := open_frame hf
  refine ⟨f, l, ?_, hok, hl⟩
  congr 1
  exact Array.ext' hx
theorem open_pair {fuel : Nat} {cs : List Value} {x : DataW H × List MemPlace} (h : DataW.trod enc Try.prog w base spare held fuel 41 cs = some x) :
    ∃ a b : Nat, cs = [.int .u32 (a : Int), .int .u32 (b : Int)] ∧ a < 4294967296 ∧ b < 4294967296 := by
  obtain ⟨ys, m, _, _, hlen, hl, hf⟩ := DataW.trod_array Try.underlying41 h
  rw [a_pair] at hlen
  match cs, hlen with
  | [c0, c1], _ =>
    obtain ⟨y0, hy0⟩ := at_some hl (show 0 < 2 by omega)
    obtain ⟨y1, hy1⟩ := at_some hl (show 1 < 2 by omega)
    have g0 := hf 0 (by omega)
    have g1 := hf 1 (by omega)
    rw [a_u32, hy0] at g0
    rw [a_u32, hy1] at g1
    have f0 : DataW.trod enc Try.prog w base spare held m 22 [c0] = some y0 := g0
    have f1 : DataW.trod enc Try.prog w base spare held m 22 [c1] = some y1 := g1
    obtain ⟨z0, e0, _, w0⟩ := DataW.trod_int Try.underlying22 f0
    obtain ⟨z1, e1, _, w1⟩ := DataW.trod_int Try.underlying22 f1
    obtain ⟨a, rfl, ha⟩ := arg32 w0
    obtain ⟨b, rfl, hb⟩ := arg32 w1
    simp only [List.cons.injEq, and_true] at e0 e1
    exact ⟨a, b, by rw [e0, e1], ha, hb⟩
theorem open_pairV {v : Value} {d : DataW H} {ps : List MemPlace} {r : Reach} {b0 : Nat} (hv : Value.okWide Try.prog w r b0 41 v) (h : DataW.Trod enc Try.prog w base spare held 41 v d ps) :
    ∃ a b : Nat, v = .agg #[.int .u32 (a : Int), .int .u32 (b : Int)] ∧ a < 4294967296 ∧ b < 4294967296 := by
  obtain ⟨cs, rfl, _⟩ := okWide_array Try.underlying41 hv
  obtain ⟨fuel, hf⟩ := h
  obtain ⟨a, b, hx, ha, hb⟩ := open_pair hf
  refine ⟨a, b, ?_, ha, hb⟩
  congr 1
  exact Array.ext' hx
end
end Go.Proofs.Ytagjgknkkbkjgaa.V
