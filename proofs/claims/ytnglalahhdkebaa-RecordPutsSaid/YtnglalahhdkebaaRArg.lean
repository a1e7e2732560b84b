/-
  Rows of strings, strings, numbers and pairs of numbers, opened as arguments.
-/
import Derived.Test.YtnglalahhdkebaaRP
import Derived.SizedLaws
import Derived.ProofKit
import Derived.OpenShut
import Derived.ShutString
import Derived.SliceStrings
import Derived.ChangeMaps5
import Derived.Deep.Slices
namespace Go.Proofs.Ytnglalahhdkebaa.Q
set_option linter.unusedVariables false
set_option linter.unusedSimpArgs false
set_option maxRecDepth 100000
open Go Go.RowKit Go.ChangeShapes Go.WideShapes

theorem a_str : Try.prog.cellsOf 9 = 1 := by kernel_rfl
theorem a_u16 : Try.prog.cellsOf 23 = 1 := by kernel_rfl
theorem a_pair : Try.prog.cellsOf 38 = 2 := by kernel_rfl
theorem arg8 {n : Int} (h : (Lit.int .u8 n).wf = true) : ∃ m : Nat, n = m ∧ m < 256 := by
  have hx : 0 ≤ n ∧ n ≤ 255 := by simpa [Lit.wf, IntKind.min, IntKind.max, IntKind.signed, IntKind.bits] using h
  exact ⟨n.toNat, by omega, by omega⟩
theorem arg16 {n : Int} (h : (Lit.int .u16 n).wf = true) : ∃ m : Nat, n = m ∧ m < 65536 := by
  have hx : 0 ≤ n ∧ n ≤ 65535 := by simpa [Lit.wf, IntKind.min, IntKind.max, IntKind.signed, IntKind.bits] using h
  exact ⟨n.toNat, by omega, by omega⟩
theorem arg32 {n : Int} (h : (Lit.int .u32 n).wf = true) : ∃ m : Nat, n = m ∧ m < 4294967296 := by
  have hx : 0 ≤ n ∧ n ≤ 4294967295 := by simpa [Lit.wf, IntKind.min, IntKind.max, IntKind.signed, IntKind.bits] using h
  exact ⟨n.toNat, by omega, by omega⟩
theorem okWide_array {P : Program} {w : World} {r : Reach} {base : Nat} {t : TypeId} {v : Value} {n : Nat} {e : TypeId} (ht : P.underlying t = some (.array n e)) (h : Value.okWide P w r base t v) : ∃ cs, v = .agg cs ∧ cs.size = P.cellsOf t := by
  simp only [Value.okWide, ht] at h
  obtain ⟨cs, h1, h2, _⟩ := h
  exact ⟨cs, h1, h2⟩

section
variable {H : Type} {enc : TypeId × Value → H} {w : World} {base : Nat} {spare : Nat → Bool} {held : Bool}
theorem at_some {α : Type} {ys : List α} {n i : Nat} (h : ys.length = n) (hi : i < n) : ∃ y, ys[i]? = some y := ⟨_, List.getElem?_eq_getElem (by omega)⟩

theorem mem_weightsAll {P : Program} {e : TypeId} {elems : List (DataW H)} {d : DataW H} (hd : d ∈ elems) {n : Nat} (hn : n ∈ d.weights P e) : n ∈ DataW.weightsAll P e elems := by
  induction elems with
  | nil => cases hd
  | cons c cs ih =>
    simp only [DataW.weightsAll, List.mem_append]
    rcases List.mem_cons.1 hd with rfl | hd
    · exact .inl hn
    · exact .inr (ih hd)
theorem open_rowS {v : Value} {d : DataW H} {ps : List MemPlace} {ts : List TypeId} {ds : List (DataW H)} {j : Nat} {r : Reach} {b0 : Nat} (hv : Value.okWide Try.prog w r b0 22 v) (h : DataW.Trod enc Try.prog w base spare held 22 v d ps)
    (hsz : (DataW.weightsEach Try.prog ts ds).all (· ≤ reachBytes) = true) (hts : ts[j]? = some 22) (hds : ds[j]? = some d) :
    ∃ l : List Bs, SV w v l ∧ ∀ x ∈ l, x.length ≤ 140737488355328 := by
  obtain ⟨a, len, cap, rfl⟩ := okWide_slice Try.underlying22 hv
  obtain ⟨fuel, hf⟩ := h
  rcases open_strings Try.underlying22 Try.underlying9 a_str hf with ⟨hcs, _⟩ | ⟨ad, len', cap', ss, hcs, _, hl, hm, hz, hx', hcell, _⟩
  · simp [Value.cells] at hcs
    obtain ⟨rfl, rfl, rfl⟩ := hcs
    exact ⟨[], SV.nil w, fun x hx => by cases hx⟩
  · simp [Value.cells] at hcs
    obtain ⟨rfl, rfl, rfl⟩ := hcs
    have hls : len ≤ ss.length := by rw [hz]; split <;> omega
    refine ⟨(ss.take len).map fun s => s.data.toList, ⟨_, _, _, rfl, by rw [List.length_map, List.length_take]; omega, hl, hm, fun h => (by cases h), fun i x hx => ⟨_, rfl, ?_⟩⟩, fun x hx => ?_⟩
    · rw [List.getElem?_map, List.getElem?_take] at hx
      split at hx
      · rename_i hi
        have hi2 : i < ss.length := by omega
        rw [List.getElem?_eq_getElem hi2] at hx
        have e : ss[i].data.toList = x := Option.some.inj hx
        rw [hcell i hi2, List.getD_eq_getElem?_getD, List.getElem?_eq_getElem hi2, Option.getD_some, ← e, ba_of]
      · cases hx
    · obtain ⟨s, hs, rfl⟩ := List.mem_map.1 hx
      have hd : d = .slice (strs (ss.take len)) (strs (ss.drop len)) := (Prod.mk.inj hx').1
      have hmem := DataW.weights_mem_each (P := Try.prog) hts hds s.size (by
        rw [hd]
        simp only [DataW.weights, Try.underlying22, List.mem_cons, List.mem_append]
        exact .inr (.inl (mem_weightsAll (List.mem_map.2 ⟨s, hs, rfl⟩) (by simp [DataW.weights]))))
      have h1 : s.size ≤ reachBytes := by simpa using List.all_eq_true.1 hsz _ hmem
      have h2 := reachBytes_lt
      rw [len_toList]
      omega

theorem open_strV {v : Value} {d : DataW H} {ps : List MemPlace} {r : Reach} {b0 : Nat} (hv : Value.okWide Try.prog w r b0 9 v) (h : DataW.Trod enc Try.prog w base spare held 9 v d ps) :
    ∃ s : ByteArray, v = .string s ∧ s.size ≤ 9223372036854775807 := by
  obtain ⟨s, rfl, _, _, hs⟩ := Go.ChangeMaps.open_string Try.underlying9 hv h
  exact ⟨s, rfl, by unfold maxLen at hs; omega⟩
theorem open_u8V {v : Value} {d : DataW H} {ps : List MemPlace} {r : Reach} {b0 : Nat} (hv : Value.okWide Try.prog w r b0 5 v) (h : DataW.Trod enc Try.prog w base spare held 5 v d ps) :
    ∃ a : Nat, v = .int .u8 (a : Int) ∧ a < 256 := by
  obtain ⟨n, rfl, _, _, hw⟩ := open_int Try.underlying5 hv h
  obtain ⟨a, rfl, ha⟩ := arg8 hw
  exact ⟨a, rfl, ha⟩
theorem open_u16V {v : Value} {d : DataW H} {ps : List MemPlace} {r : Reach} {b0 : Nat} (hv : Value.okWide Try.prog w r b0 23 v) (h : DataW.Trod enc Try.prog w base spare held 23 v d ps) :
    ∃ a : Nat, v = .int .u16 (a : Int) ∧ a < 65536 := by
  obtain ⟨n, rfl, _, _, hw⟩ := open_int Try.underlying23 hv h
  obtain ⟨a, rfl, ha⟩ := arg16 hw
  exact ⟨a, rfl, ha⟩
theorem open_u32V {v : Value} {d : DataW H} {ps : List MemPlace} {r : Reach} {b0 : Nat} (hv : Value.okWide Try.prog w r b0 39 v) (h : DataW.Trod enc Try.prog w base spare held 39 v d ps) :
    ∃ a : Nat, v = .int .u32 (a : Int) ∧ a < 4294967296 := by
  obtain ⟨n, rfl, _, _, hw⟩ := open_int Try.underlying39 hv h
  obtain ⟨a, rfl, ha⟩ := arg32 hw
  exact ⟨a, rfl, ha⟩
theorem open_pair {fuel : Nat} {cs : List Value} {x : DataW H × List MemPlace} (h : DataW.trod enc Try.prog w base spare held fuel 38 cs = some x) :
    ∃ a b : Nat, cs = [.int .u16 (a : Int), .int .u16 (b : Int)] ∧ a < 65536 ∧ b < 65536 := by
  obtain ⟨ys, m, _, _, hlen, hl, hf⟩ := DataW.trod_array Try.underlying38 h
  rw [a_pair] at hlen
  match cs, hlen with
  | [c0, c1], _ =>
    obtain ⟨y0, hy0⟩ := at_some hl (show 0 < 2 by omega)
    obtain ⟨y1, hy1⟩ := at_some hl (show 1 < 2 by omega)
    have g0 := hf 0 (by omega)
    have g1 := hf 1 (by omega)
    rw [a_u16, hy0] at g0
    rw [a_u16, hy1] at g1
    have f0 : DataW.trod enc Try.prog w base spare held m 23 [c0] = some y0 := g0
    have f1 : DataW.trod enc Try.prog w base spare held m 23 [c1] = some y1 := g1
    obtain ⟨z0, e0, _, w0⟩ := DataW.trod_int Try.underlying23 f0
    obtain ⟨z1, e1, _, w1⟩ := DataW.trod_int Try.underlying23 f1
    obtain ⟨a, rfl, ha⟩ := arg16 w0
    obtain ⟨b, rfl, hb⟩ := arg16 w1
    simp only [List.cons.injEq, and_true] at e0 e1
    exact ⟨a, b, by rw [e0, e1], ha, hb⟩
theorem open_pairV {v : Value} {d : DataW H} {ps : List MemPlace} {r : Reach} {b0 : Nat} (hv : Value.okWide Try.prog w r b0 38 v) (h : DataW.Trod enc Try.prog w base spare held 38 v d ps) :
    ∃ a b : Nat, v = .agg #[.int .u16 (a : Int), .int .u16 (b : Int)] ∧ a < 65536 ∧ b < 65536 := by
  obtain ⟨cs, rfl, _⟩ := okWide_array Try.underlying38 hv
  obtain ⟨fuel, hf⟩ := h
  obtain ⟨a, b, hx, ha, hb⟩ := open_pair hf
  refine ⟨a, b, ?_, ha, hb⟩
  congr 1
  exact Array.ext' hx
end
end Go.Proofs.Ytnglalahhdkebaa.Q
