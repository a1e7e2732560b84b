/-
  A slice of items, opened as an argument.
-/
import Derived.Test.YtimemfkhmfhffaaWireI
import Derived.SizedLaws
import Derived.ProofKit
import Derived.OpenShut
import Derived.ShutString
import Derived.Deep.Slices
namespace Go.Proofs.Ytimemfkhmfhffaa
open Go Go.RowKit Wire Go.ChangeShapes Go.WideShapes

theorem item_cells : Try.prog.cellsOf 35 = 14 := by kernel_rfl
theorem k_u8 : Try.prog.cellsOf 5 = 1 := by kernel_rfl
theorem k_u64 : Try.prog.cellsOf 28 = 1 := by kernel_rfl
theorem k_u32 : Try.prog.cellsOf 29 = 1 := by kernel_rfl
theorem k_str : Try.prog.cellsOf 9 = 1 := by kernel_rfl
theorem k_dot : Try.prog.cellsOf 31 = 2 := by kernel_rfl
theorem k_vec : Try.prog.cellsOf 33 = 8 := by kernel_rfl

theorem nat8 {n : Int} (h : (Lit.int .u8 n).wf = true) : ∃ m : Nat, n = m ∧ m < 256 := by
  have hx : 0 ≤ n ∧ n ≤ 255 := by simpa [Lit.wf, IntKind.min, IntKind.max, IntKind.signed, IntKind.bits] using h
  exact ⟨n.toNat, by omega, by omega⟩
theorem nat32 {n : Int} (h : (Lit.int .u32 n).wf = true) : ∃ m : Nat, n = m ∧ m < 4294967296 := by
  have hx : 0 ≤ n ∧ n ≤ 4294967295 := by simpa [Lit.wf, IntKind.min, IntKind.max, IntKind.signed, IntKind.bits] using h
  exact ⟨n.toNat, by omega, by omega⟩

section
variable {H : Type} {enc : TypeId × Value → H} {w : World} {base : Nat} {spare : Nat → Bool} {held : Bool}

theorem get_some {α : Type} {ys : List α} {n i : Nat} (h : ys.length = n) (hi : i < n) : ∃ y, ys[i]? = some y := ⟨_, List.getElem?_eq_getElem (by omega)⟩

theorem open_dot {fuel : Nat} {c0 c1 : Value} {x : DataW H × List MemPlace} (h : DataW.trod enc Try.prog w base spare held fuel 31 [c0, c1] = some x) :
    ∃ r n : Nat, c0 = .int .u8 r ∧ c1 = .int .u32 n ∧ r < 256 ∧ n < 4294967296 := by
  obtain ⟨ys, m, _, _, _, hl, hf⟩ := DataW.trod_struct Try.underlying31 h
  obtain ⟨y0, hy0⟩ := get_some hl (show 0 < 2 by omega)
  obtain ⟨y1, hy1⟩ := get_some hl (show 1 < 2 by omega)
  have g0 : DataW.trod enc Try.prog w base spare held m 5 (([c0, c1].drop 0).take (Try.prog.cellsOf 5)) = ys[0]? := hf 0 _ rfl
  have g1 : DataW.trod enc Try.prog w base spare held m 29 (([c0, c1].drop 1).take (Try.prog.cellsOf 29)) = ys[1]? := hf 1 _ rfl
  rw [k_u8, hy0] at g0
  rw [k_u32, hy1] at g1
  have f0 : DataW.trod enc Try.prog w base spare held m 5 [c0] = some y0 := g0
  have f1 : DataW.trod enc Try.prog w base spare held m 29 [c1] = some y1 := g1
  obtain ⟨a, e0, _, w0⟩ := DataW.trod_int Try.underlying5 f0
  obtain ⟨b, e1, _, w1⟩ := DataW.trod_int Try.underlying29 f1
  obtain ⟨r, rfl, hr⟩ := nat8 w0
  obtain ⟨n, rfl, hn⟩ := nat32 w1
  simp only [List.cons.injEq, and_true] at e0 e1
  exact ⟨r, n, e0, e1, hr, hn⟩

theorem open_vec {fuel : Nat} {cs : List Value} {x : DataW H × List MemPlace} (h : DataW.trod enc Try.prog w base spare held fuel 33 cs = some x) :
    ∃ v0 v1 v2 v3 v4 v5 v6 v7 : Nat, cs = [.int .u32 v0, .int .u32 v1, .int .u32 v2, .int .u32 v3, .int .u32 v4, .int .u32 v5, .int .u32 v6, .int .u32 v7] ∧ (∀ n ∈ [v0, v1, v2, v3, v4, v5, v6, v7], n < 4294967296) := by
  obtain ⟨ys, m, _, _, hlen, hl, hf⟩ := DataW.trod_array Try.underlying33 h
  rw [k_vec] at hlen
  match cs, hlen with
  | [c0, c1, c2, c3, c4, c5, c6, c7], _ =>
    have key : ∀ i, i < 8 → ∀ c, [c0, c1, c2, c3, c4, c5, c6, c7][i]? = some c → ∃ v : Nat, c = .int .u32 v ∧ v < 4294967296 := fun i hi c hc => by
      have f := hf i hi
      obtain ⟨y, hy⟩ := get_some hl hi
      rw [hy, k_u32, Nat.mul_one] at f
      have : (List.drop i [c0, c1, c2, c3, c4, c5, c6, c7]).take 1 = [c] := by
        rw [List.drop_eq_getElem_cons (by simpa using hi)]
        simp only [List.take_succ_cons, List.take_zero]
        have := List.getElem?_eq_getElem (l := [c0, c1, c2, c3, c4, c5, c6, c7]) (i := i) (by simpa using hi)
        rw [hc] at this
        rw [← Option.some.inj this]
      rw [this] at f
      obtain ⟨a, e0, _, w0⟩ := DataW.trod_int Try.underlying29 f
      obtain ⟨v, rfl, hv⟩ := nat32 w0
      simp only [List.cons.injEq, and_true] at e0
      exact ⟨v, e0, hv⟩
    obtain ⟨v0, rfl, h0⟩ := key 0 (by omega) _ rfl
    obtain ⟨v1, rfl, h1⟩ := key 1 (by omega) _ rfl
    obtain ⟨v2, rfl, h2⟩ := key 2 (by omega) _ rfl
    obtain ⟨v3, rfl, h3⟩ := key 3 (by omega) _ rfl
    obtain ⟨v4, rfl, h4⟩ := key 4 (by omega) _ rfl
    obtain ⟨v5, rfl, h5⟩ := key 5 (by omega) _ rfl
    obtain ⟨v6, rfl, h6⟩ := key 6 (by omega) _ rfl
    obtain ⟨v7, rfl, h7⟩ := key 7 (by omega) _ rfl
    exact ⟨v0, v1, v2, v3, v4, v5, v6, v7, rfl, by simp [h0, h1, h2, h3, h4, h5, h6, h7]⟩

theorem open_item {fuel : Nat} {cs : List Value} {x : DataW H × List MemPlace} (h : DataW.trod enc Try.prog w base spare held fuel 35 cs = some x)
    (hsz : ∀ n ∈ DataW.weights Try.prog 35 x.1, n ≤ reachBytes) :
    ∃ y : Thing, cs = y.cells.toList ∧ y.ok := by
  obtain ⟨ys, m, _, rfl, hlen, hl, hf⟩ := DataW.trod_struct Try.underlying35 h
  rw [item_cells] at hlen
  match cs, hlen with
  | [c0, c1, c2, c3, c4, c5, c6, c7, c8, c9, c10, c11, c12, c13], _ =>
    match ys, hl with
    | [y0, y1, y2, y3, y4, y5], _ =>
      have g0 : DataW.trod enc Try.prog w base spare held m 5 (([c0, c1, c2, c3, c4, c5, c6, c7, c8, c9, c10, c11, c12, c13].drop 0).take (Try.prog.cellsOf 5)) = some y0 := hf 0 _ rfl
      rw [k_u8] at g0
      have f0 : DataW.trod enc Try.prog w base spare held m 5 [c0] = some y0 := g0
      have g1 : DataW.trod enc Try.prog w base spare held m 28 (([c0, c1, c2, c3, c4, c5, c6, c7, c8, c9, c10, c11, c12, c13].drop 1).take (Try.prog.cellsOf 28)) = some y1 := hf 1 _ rfl
      rw [k_u64] at g1
      have f1 : DataW.trod enc Try.prog w base spare held m 28 [c1] = some y1 := g1
      have g2 : DataW.trod enc Try.prog w base spare held m 9 (([c0, c1, c2, c3, c4, c5, c6, c7, c8, c9, c10, c11, c12, c13].drop 2).take (Try.prog.cellsOf 9)) = some y2 := hf 2 _ rfl
      rw [k_str] at g2
      have f2 : DataW.trod enc Try.prog w base spare held m 9 [c2] = some y2 := g2
      have g3 : DataW.trod enc Try.prog w base spare held m 31 (([c0, c1, c2, c3, c4, c5, c6, c7, c8, c9, c10, c11, c12, c13].drop 3).take (Try.prog.cellsOf 31)) = some y3 := hf 3 _ rfl
      rw [k_dot] at g3
      have f3 : DataW.trod enc Try.prog w base spare held m 31 [c3, c4] = some y3 := g3
      have g4 : DataW.trod enc Try.prog w base spare held m 33 (([c0, c1, c2, c3, c4, c5, c6, c7, c8, c9, c10, c11, c12, c13].drop 5).take (Try.prog.cellsOf 33)) = some y4 := hf 4 _ rfl
      rw [k_vec] at g4
      have f4 : DataW.trod enc Try.prog w base spare held m 33 [c5, c6, c7, c8, c9, c10, c11, c12] = some y4 := g4
      have g5 : DataW.trod enc Try.prog w base spare held m 28 (([c0, c1, c2, c3, c4, c5, c6, c7, c8, c9, c10, c11, c12, c13].drop 13).take (Try.prog.cellsOf 28)) = some y5 := hf 5 _ rfl
      rw [k_u64] at g5
      have f5 : DataW.trod enc Try.prog w base spare held m 28 [c13] = some y5 := g5
      obtain ⟨a, e0, _, w0⟩ := DataW.trod_int Try.underlying5 f0
      obtain ⟨b, e1, _, w1⟩ := DataW.trod_int Try.underlying28 f1
      obtain ⟨s, e2, d2, _⟩ := DataW.trod_string Try.underlying9 f2
      obtain ⟨r, dn, rfl, rfl, hr, hdn⟩ := open_dot f3
      obtain ⟨v0, v1, v2, v3, v4, v5, v6, v7, e4, hv⟩ := open_vec f4
      obtain ⟨mo, e5, _, w5⟩ := DataW.trod_int Try.underlying28 f5
      obtain ⟨kd, rfl, hkd⟩ := nat8 w0
      obtain ⟨n, rfl, hn⟩ := u64_nat w1
      obtain ⟨mst, rfl, hm⟩ := u64_nat w5
      have hs : s.size ≤ reachBytes := by
        refine hsz s.size ?_
        subst d2
        simp [DataW.weights, DataW.weightsEach, Try.underlying35]
      simp only [List.cons.injEq, and_true] at e0 e1 e2 e4 e5
      obtain ⟨rfl, rfl, rfl, rfl, rfl, rfl, rfl, rfl⟩ := e4
      subst e0 e1 e2 e5
      exact ⟨⟨kd, n, s, r, dn, v0, v1, v2, v3, v4, v5, v6, v7, mst⟩, rfl, hkd, hn, by have := reachBytes_lt; show s.size ≤ _; omega, hr, hdn, hv, hm⟩

theorem mem_weightsAll {P : Program} {e : TypeId} {elems : List (DataW H)} {d : DataW H} (hd : d ∈ elems) {n : Nat} (hn : n ∈ d.weights P e) : n ∈ DataW.weightsAll P e elems := by
  induction elems with
  | nil => cases hd
  | cons c cs ih =>
    simp only [DataW.weightsAll, List.mem_append]
    rcases List.mem_cons.1 hd with rfl | hd
    · exact .inl hn
    · exact .inr (ih hd)

theorem open_things {v : Value} {d : DataW H} {ps : List MemPlace} {ts : List TypeId} {ds : List (DataW H)} {j : Nat} {r : Reach} {b0 : Nat} (hv : Value.okWide Try.prog w r b0 22 v) (h : DataW.Trod enc Try.prog w base spare held 22 v d ps)
    (hsz : (DataW.weightsEach Try.prog ts ds).all (· ≤ reachBytes) = true) (hts : ts[j]? = some 22) (hds : ds[j]? = some d) :
    ∃ a len cap xs, v = .slice a len cap ∧ IsThings w a len cap xs := by
  obtain ⟨a, len, cap, rfl⟩ := okWide_slice Try.underlying22 hv
  refine ⟨a, len, cap, ?_⟩
  obtain ⟨fuel, hf⟩ := h
  rcases Go.Deep.open_slice Try.underlying22 hf with ⟨hcs, _⟩ | ⟨ad, len', cap', m, n, D, Pl, hcs, _, hl, hm, hmm, hx, hi⟩
  · simp [Value.cells] at hcs
    obtain ⟨rfl, rfl, rfl⟩ := hcs
    exact ⟨[], rfl, rfl, Nat.le_refl _, Nat.zero_le _, by simp, rfl⟩
  · simp [Value.cells] at hcs
    obtain ⟨rfl, rfl, rfl⟩ := hcs
    have hlm : len ≤ m := by rw [hmm]; split <;> omega
    have hd : d = .slice ((List.range len).map D) ((List.range (m - len)).map fun j => D (len + j)) := (Prod.mk.inj hx).1
    have key : ∀ i, i < len → ∃ y : Thing, y.ok ∧ ∀ k, k < 14 → w.cell? ((ad.add (i * 14)).add k) = y.cells[k]? := fun i hlt => by
      obtain ⟨cs', hc, ht⟩ := hi i (by omega)
      rw [item_cells] at hc
      obtain ⟨_, _, hat⟩ := World.cells?_some hc
      obtain ⟨y, hy, hok⟩ := open_item ht (fun q hq => by
        have hmem := DataW.weights_mem_each (P := Try.prog) hts hds q (by
          rw [hd]
          simp only [DataW.weights, Try.underlying22, List.mem_cons, List.mem_append]
          exact .inr (.inl (mem_weightsAll (List.mem_map.2 ⟨i, List.mem_range.2 hlt, rfl⟩) hq)))
        simpa using List.all_eq_true.1 hsz _ hmem)
      refine ⟨y, hok, fun k hk => ?_⟩
      rw [hat k hk, hy]
      simp
    refine ⟨(List.range len).pmap (fun i hlt => (key i (List.mem_range.1 hlt)).choose) (fun _ h => h), rfl, by simp, hl, hm, ?_, ?_⟩
    · intro x hx
      obtain ⟨i, hlt, rfl⟩ := List.mem_pmap.1 hx
      exact (key i (List.mem_range.1 hlt)).choose_spec.1
    · intro i x hx k hk
      have hlt : i < len := by
        have := (List.getElem?_eq_some_iff.1 hx).1
        simpa using this
      rw [List.getElem?_pmap] at hx
      simp [List.getElem?_range hlt] at hx
      rw [← hx]
      exact (key i hlt).choose_spec.2 k hk
end

end Go.Proofs.Ytimemfkhmfhffaa
