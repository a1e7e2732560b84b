/-
  Operations, claims, dots, vectors and rows of operations, opened as arguments.
-/
import Derived.Test.YtfnmekmgjcjglaaDoorYME
import Derived.SizedLaws
import Derived.ProofKit
import Derived.OpenShut
import Derived.ShutString
import Derived.Deep.Slices
namespace Go.Proofs.YtfnmekmgjcjglaaDoor.V
set_option linter.unusedVariables false
set_option linter.unusedSimpArgs false
set_option maxRecDepth 100000
open Go Go.RowKit Go.ChangeShapes Go.WideShapes
set_option maxRecDepth 100000
set_option linter.unusedVariables false
set_option linter.unusedSimpArgs false
set_option maxRecDepth 100000
set_option linter.unusedVariables false
set_option linter.unusedSimpArgs false
theorem a_u64 : Tryd.prog.cellsOf 47 = 1 := by kernel_rfl
theorem a_lines : Tryd.prog.cellsOf 48 = 1 := by kernel_rfl
theorem a_claim : Tryd.prog.cellsOf 94 = 4 := by kernel_rfl
theorem a_op : Tryd.prog.cellsOf 50 = 29 := by kernel_rfl
theorem arg64 {n : Int} (h : (Lit.int .u64 n).wf = true) : ∃ m : Nat, n = m ∧ m < 18446744073709551616 := by
  have hx : 0 ≤ n ∧ n ≤ 18446744073709551615 := by simpa [Lit.wf, IntKind.min, IntKind.max, IntKind.signed, IntKind.bits] using h
  exact ⟨n.toNat, by omega, by omega⟩
theorem a_u8 : Tryd.prog.cellsOf 5 = 1 := by kernel_rfl
theorem a_u32 : Tryd.prog.cellsOf 28 = 1 := by kernel_rfl
theorem a_dot : Tryd.prog.cellsOf 46 = 2 := by kernel_rfl
theorem arg8 {n : Int} (h : (Lit.int .u8 n).wf = true) : ∃ m : Nat, n = m ∧ m < 256 := by
  have hx : 0 ≤ n ∧ n ≤ 255 := by simpa [Lit.wf, IntKind.min, IntKind.max, IntKind.signed, IntKind.bits] using h
  exact ⟨n.toNat, by omega, by omega⟩
theorem arg32 {n : Int} (h : (Lit.int .u32 n).wf = true) : ∃ m : Nat, n = m ∧ m < 4294967296 := by
  have hx : 0 ≤ n ∧ n ≤ 4294967295 := by simpa [Lit.wf, IntKind.min, IntKind.max, IntKind.signed, IntKind.bits] using h
  exact ⟨n.toNat, by omega, by omega⟩
theorem a_vec : Tryd.prog.cellsOf 30 = 8 := by kernel_rfl
section
variable {H : Type} {enc : TypeId × Value → H} {w : World} {base : Nat} {spare : Nat → Bool} {held : Bool}
theorem at_some {α : Type} {ys : List α} {n i : Nat} (h : ys.length = n) (hi : i < n) : ∃ y, ys[i]? = some y := ⟨_, List.getElem?_eq_getElem (by omega)⟩
theorem open_dot {fuel : Nat} {cs : List Value} {x : DataW H × List MemPlace} (h : DataW.trod enc Tryd.prog w base spare held fuel 46 cs = some x) :
    ∃ d : Dot, cs = d.enc ∧ d.ok := by
  obtain ⟨ys, m, _, _, hlen, hl, hf⟩ := DataW.trod_struct Tryd.underlying46 h
  rw [a_dot] at hlen
  match cs, hlen with
  | [c0, c1], _ =>
    obtain ⟨y0, hy0⟩ := at_some hl (show 0 < 2 by omega)
    obtain ⟨y1, hy1⟩ := at_some hl (show 1 < 2 by omega)
    have g0 : DataW.trod enc Tryd.prog w base spare held m 5 (([c0, c1].drop 0).take (Tryd.prog.cellsOf 5)) = ys[0]? := hf 0 _ rfl
    have g1 : DataW.trod enc Tryd.prog w base spare held m 28 (([c0, c1].drop 1).take (Tryd.prog.cellsOf 28)) = ys[1]? := hf 1 _ rfl
    rw [a_u8, hy0] at g0
    rw [a_u32, hy1] at g1
    have f0 : DataW.trod enc Tryd.prog w base spare held m 5 [c0] = some y0 := g0
    have f1 : DataW.trod enc Tryd.prog w base spare held m 28 [c1] = some y1 := g1
    obtain ⟨a, e0, _, w0⟩ := DataW.trod_int Tryd.underlying5 f0
    obtain ⟨b, e1, _, w1⟩ := DataW.trod_int Tryd.underlying28 f1
    obtain ⟨r, rfl, hr⟩ := arg8 w0
    obtain ⟨n, rfl, hn⟩ := arg32 w1
    simp only [List.cons.injEq, and_true] at e0 e1
    exact ⟨(r, n), by rw [e0, e1]; rfl, hr, hn⟩
theorem open_dotV {v : Value} {d : DataW H} {ps : List MemPlace} {r : Reach} {b0 : Nat} (hv : Value.okWide Tryd.prog w r b0 46 v) (h : DataW.Trod enc Tryd.prog w base spare held 46 v d ps) :
    ∃ x : Dot, v = .agg #[.int .u8 (x.1 : Int), .int .u32 (x.2 : Int)] ∧ x.ok := by
  obtain ⟨cs, rfl, _⟩ := okWide_struct Tryd.underlying46 hv
  obtain ⟨fuel, hf⟩ := h
  obtain ⟨x, hx, hok⟩ := open_dot hf
  refine ⟨x, ?_, hok⟩
  congr 1
  exact Array.ext' hx
theorem open_vec {fuel : Nat} {cs : List Value} {x : DataW H × List MemPlace} (h : DataW.trod enc Tryd.prog w base spare held fuel 30 cs = some x) :
    ∃ x : Vec, cs = (vc x).toList ∧ okV x := by
  obtain ⟨ys, m, _, _, hlen, hl, hf⟩ := DataW.trod_array Tryd.underlying30 h
  rw [a_vec] at hlen
  match cs, hlen with
  | [c0, c1, c2, c3, c4, c5, c6, c7], _ =>
    have key : ∀ i, i < 8 → ∀ c, [c0, c1, c2, c3, c4, c5, c6, c7][i]? = some c → ∃ v : Nat, c = .int .u32 v ∧ v < 4294967296 := fun i hi c hc => by
      have f := hf i hi
      obtain ⟨y, hy⟩ := at_some hl hi
      rw [hy, a_u32, Nat.mul_one] at f
      have : (List.drop i [c0, c1, c2, c3, c4, c5, c6, c7]).take 1 = [c] := by
        rw [List.drop_eq_getElem_cons (by simpa using hi)]
        simp only [List.take_succ_cons, List.take_zero]
        have := List.getElem?_eq_getElem (l := [c0, c1, c2, c3, c4, c5, c6, c7]) (i := i) (by simpa using hi)
        rw [hc] at this
        rw [← Option.some.inj this]
      rw [this] at f
      obtain ⟨a, e0, _, w0⟩ := DataW.trod_int Tryd.underlying28 f
      obtain ⟨v, rfl, hv⟩ := arg32 w0
      simp only [List.cons.injEq, and_true] at e0
      exact ⟨v, e0, hv⟩
    obtain ⟨v0, rfl, h0⟩ := key 0 (by omega) _ rfl
    obtain ⟨v1, rfl, h1⟩ := key 1 (by omega) _ rfl
    obtain ⟨v2, rfl, h2⟩ := key 2 (by omega) _ rfl
    obtain ⟨v3, rfl, h3⟩ := key 3 (by omega) _ rfl
    obtain ⟨v4, rfl, h4⟩ := key 4 (by omega) _ rfl
    obtain ⟨v5, rfl, h5⟩ := key 5 (by omega) _ rfl
    obtain ⟨v6, rfl, h6⟩ := key 6 (by omega) _ rfl
    obtain ⟨v7, rfl, h7⟩ := key 7 (by omega) _ rfl
    refine ⟨(fun i => match i with | 0 => v0 | 1 => v1 | 2 => v2 | 3 => v3 | 4 => v4 | 5 => v5 | 6 => v6 | 7 => v7 | _ => 0), rfl, fun i => ?_, fun i hi => ?_⟩
    · match i with
      | 0 => exact h0
      | 1 => exact h1
      | 2 => exact h2
      | 3 => exact h3
      | 4 => exact h4
      | 5 => exact h5
      | 6 => exact h6
      | 7 => exact h7
      | _ + 8 => show (0 : Nat) < 4294967296; omega
    · match i, hi with
      | _ + 8, _ => rfl
theorem okWide_array {P : Program} {w : World} {r : Reach} {base : Nat} {t : TypeId} {v : Value} {n : Nat} {e : TypeId} (ht : P.underlying t = some (.array n e)) (h : Value.okWide P w r base t v) : ∃ cs, v = .agg cs ∧ cs.size = P.cellsOf t := by
  simp only [Value.okWide, ht] at h
  obtain ⟨cs, h1, h2, _⟩ := h
  exact ⟨cs, h1, h2⟩
theorem open_vecV {v : Value} {d : DataW H} {ps : List MemPlace} {r : Reach} {b0 : Nat} (hv : Value.okWide Tryd.prog w r b0 30 v) (h : DataW.Trod enc Tryd.prog w base spare held 30 v d ps) :
    ∃ x : Vec, v = .agg #[.int .u32 (x 0 : Int), .int .u32 (x 1 : Int), .int .u32 (x 2 : Int), .int .u32 (x 3 : Int), .int .u32 (x 4 : Int), .int .u32 (x 5 : Int), .int .u32 (x 6 : Int), .int .u32 (x 7 : Int)] ∧ okV x := by
  obtain ⟨cs, rfl, _⟩ := okWide_array Tryd.underlying30 hv
  obtain ⟨fuel, hf⟩ := h
  obtain ⟨x, hx, hok⟩ := open_vec hf
  refine ⟨x, ?_, hok⟩
  congr 1
  exact Array.ext' hx
theorem open_claim {fuel : Nat} {cs : List Value} {x : DataW H × List MemPlace} (h : DataW.trod enc Tryd.prog w base spare held fuel 94 cs = some x) :
    ∃ c : Claim, cs = (cl c).toList ∧ c.ok := by
  obtain ⟨ys, m, _, _, hlen, hl, hf⟩ := DataW.trod_struct Tryd.underlying94 h
  rw [a_claim] at hlen
  match cs, hlen with
  | [c0, c1, c2, c3], _ =>
    obtain ⟨y0, hy0⟩ := at_some hl (show 0 < 2 by omega)
    obtain ⟨y1, hy1⟩ := at_some hl (show 1 < 2 by omega)
    have g0 : DataW.trod enc Tryd.prog w base spare held m 46 (([c0, c1, c2, c3].drop 0).take (Tryd.prog.cellsOf 46)) = ys[0]? := hf 0 _ rfl
    have g1 : DataW.trod enc Tryd.prog w base spare held m 46 (([c0, c1, c2, c3].drop 2).take (Tryd.prog.cellsOf 46)) = ys[1]? := hf 1 _ rfl
    rw [a_dot, hy0] at g0
    rw [a_dot, hy1] at g1
    have f0 : DataW.trod enc Tryd.prog w base spare held m 46 [c0, c1] = some y0 := g0
    have f1 : DataW.trod enc Tryd.prog w base spare held m 46 [c2, c3] = some y1 := g1
    obtain ⟨a, e0, w0⟩ := open_dot f0
    obtain ⟨b, e1, w1⟩ := open_dot f1
    simp only [Dot.enc, List.cons.injEq, and_true] at e0 e1
    exact ⟨(a, b), by rw [e0.1, e0.2, e1.1, e1.2]; rfl, w0, w1⟩
theorem b_claim : Tryd.prog.bytesOf 94 = 16 := by kernel_rfl
theorem open_claims {fuel : Nat} {cs : List Value} {x : DataW H × List MemPlace} (hf : DataW.trod enc Tryd.prog w base spare held fuel 48 cs = some x) :
    ∃ v l, cs = [v] ∧ ClaimsV w v l ∧ ((∀ n ∈ DataW.weights Tryd.prog 48 x.1, n ≤ reachBytes) → l.length ≤ 8796093022208) := by
  rcases Go.Deep.open_slice Tryd.underlying48 hf with ⟨hcs, _⟩ | ⟨ad, len, cap, m, n, D, Pl, hcs, _, hl, hm, hmm, hx, hi⟩
  · exact ⟨_, [], hcs, ClaimsV.nil w, fun _ => Nat.zero_le _⟩
  · have hgo : ∃ l, IsClaims w (some ad) len cap l ∧ l.length = len := by
      have hlm : len ≤ m := by rw [hmm]; split <;> omega
      have key : ∀ i, i < len → ∃ y : Claim, y.ok ∧ ∀ k, k < 4 → w.cell? ((ad.add (i * 4)).add k) = (cl y)[k]? := fun i hlt => by
        obtain ⟨cs', hc, ht⟩ := hi i (by omega)
        rw [a_claim] at hc
        obtain ⟨_, _, hat⟩ := World.cells?_some hc
        obtain ⟨y, hy, hok⟩ := open_claim ht
        refine ⟨y, hok, fun k hk => ?_⟩
        have h0 := hat k hk
        rw [hy] at h0
        rw [h0]
        simp
      exact (by
        refine ⟨(List.range len).pmap (fun i hlt => (key i (List.mem_range.1 hlt)).choose) (fun _ h => h), ⟨by simp, hl, hm, ?_, ?_⟩, by simp⟩
        · intro x hx
          obtain ⟨i, hlt, rfl⟩ := List.mem_pmap.1 hx
          exact (key i (List.mem_range.1 hlt)).choose_spec.1
        · intro i x hx
          have hlt : i < len := by
            have := (List.getElem?_eq_some_iff.1 hx).1
            simpa using this
          rw [List.getElem?_pmap] at hx
          simp [List.getElem?_range hlt] at hx
          rw [← hx]
          exact (key i hlt).choose_spec.2)
    obtain ⟨l, hl2, hl3⟩ := hgo
    refine ⟨_, l, hcs, ⟨some ad, len, cap, rfl, hl2⟩, fun hw => ?_⟩
    have hlm : len ≤ m := by rw [hmm]; split <;> omega
    have h1 := hw ((len + (m - len)) * Tryd.prog.bytesOf 94) (by rw [hx]; simp [DataW.weights, Tryd.underlying48])
    rw [b_claim] at h1
    have h2 : reachBytes = 140737488351232 := rfl
    rw [h2] at h1
    rw [hl3]
    omega
set_option maxHeartbeats 2000000 in
theorem open_op {fuel : Nat} {cs : List Value} {x : DataW H × List MemPlace} (h : DataW.trod enc Tryd.prog w base spare held fuel 50 cs = some x) :
    ∃ (o : OpM) (l : List Claim), cs = (oc o).toList ∧ okO o ∧ ClaimsV w o.lv l ∧ ((∀ n ∈ DataW.weights Tryd.prog 50 x.1, n ≤ reachBytes) → l.length ≤ 8796093022208) := by
  obtain ⟨ys, m, _, hxe, hlen, hl, hf⟩ := DataW.trod_struct Tryd.underlying50 h
  rw [a_op] at hlen
  match cs, hlen with
  | [c0, c1, c2, c3, c4, c5, c6, c7, c8, c9, c10, c11, c12, c13, c14, c15, c16, c17, c18, c19, c20, c21, c22, c23, c24, c25, c26, c27, c28], _ =>
    obtain ⟨y0, hy0⟩ := at_some hl (show 0 < 17 by omega)
    have g0 : DataW.trod enc Tryd.prog w base spare held m 46 (([c0, c1, c2, c3, c4, c5, c6, c7, c8, c9, c10, c11, c12, c13, c14, c15, c16, c17, c18, c19, c20, c21, c22, c23, c24, c25, c26, c27, c28].drop 0).take (Tryd.prog.cellsOf 46)) = ys[0]? := hf 0 _ rfl
    rw [a_dot, hy0] at g0
    have f0 : DataW.trod enc Tryd.prog w base spare held m 46 [c0, c1] = some y0 := g0
    clear g0 hy0
    obtain ⟨⟨q_r, q_n⟩, e0, ok0⟩ := open_dot f0
    simp only [Dot.enc, List.cons.injEq, and_true] at e0
    obtain ⟨y1, hy1⟩ := at_some hl (show 1 < 17 by omega)
    have g1 : DataW.trod enc Tryd.prog w base spare held m 30 (([c0, c1, c2, c3, c4, c5, c6, c7, c8, c9, c10, c11, c12, c13, c14, c15, c16, c17, c18, c19, c20, c21, c22, c23, c24, c25, c26, c27, c28].drop 2).take (Tryd.prog.cellsOf 30)) = ys[1]? := hf 1 _ rfl
    rw [a_vec, hy1] at g1
    have f1 : DataW.trod enc Tryd.prog w base spare held m 30 [c2, c3, c4, c5, c6, c7, c8, c9] = some y1 := g1
    clear g1 hy1
    obtain ⟨q_dep, e1, ok1⟩ := open_vec f1
    simp only [vc, List.cons.injEq, and_true] at e1
    obtain ⟨y2, hy2⟩ := at_some hl (show 2 < 17 by omega)
    have g2 : DataW.trod enc Tryd.prog w base spare held m 47 (([c0, c1, c2, c3, c4, c5, c6, c7, c8, c9, c10, c11, c12, c13, c14, c15, c16, c17, c18, c19, c20, c21, c22, c23, c24, c25, c26, c27, c28].drop 10).take (Tryd.prog.cellsOf 47)) = ys[2]? := hf 2 _ rfl
    rw [a_u64, hy2] at g2
    have f2 : DataW.trod enc Tryd.prog w base spare held m 47 [c10] = some y2 := g2
    clear g2 hy2
    obtain ⟨z2, e2, _, w2⟩ := DataW.trod_int Tryd.underlying47 f2
    obtain ⟨q_tm, rfl, ok2⟩ := arg64 w2
    simp only [List.cons.injEq, and_true] at e2
    obtain ⟨y3, hy3⟩ := at_some hl (show 3 < 17 by omega)
    have g3 : DataW.trod enc Tryd.prog w base spare held m 28 (([c0, c1, c2, c3, c4, c5, c6, c7, c8, c9, c10, c11, c12, c13, c14, c15, c16, c17, c18, c19, c20, c21, c22, c23, c24, c25, c26, c27, c28].drop 11).take (Tryd.prog.cellsOf 28)) = ys[3]? := hf 3 _ rfl
    rw [a_u32, hy3] at g3
    have f3 : DataW.trod enc Tryd.prog w base spare held m 28 [c11] = some y3 := g3
    clear g3 hy3
    obtain ⟨z3, e3, _, w3⟩ := DataW.trod_int Tryd.underlying28 f3
    obtain ⟨q_who, rfl, ok3⟩ := arg32 w3
    simp only [List.cons.injEq, and_true] at e3
    obtain ⟨y4, hy4⟩ := at_some hl (show 4 < 17 by omega)
    have g4 : DataW.trod enc Tryd.prog w base spare held m 46 (([c0, c1, c2, c3, c4, c5, c6, c7, c8, c9, c10, c11, c12, c13, c14, c15, c16, c17, c18, c19, c20, c21, c22, c23, c24, c25, c26, c27, c28].drop 12).take (Tryd.prog.cellsOf 46)) = ys[4]? := hf 4 _ rfl
    rw [a_dot, hy4] at g4
    have f4 : DataW.trod enc Tryd.prog w base spare held m 46 [c12, c13] = some y4 := g4
    clear g4 hy4
    obtain ⟨⟨q_cr, q_cn⟩, e4, ok4⟩ := open_dot f4
    simp only [Dot.enc, List.cons.injEq, and_true] at e4
    obtain ⟨y5, hy5⟩ := at_some hl (show 5 < 17 by omega)
    have g5 : DataW.trod enc Tryd.prog w base spare held m 5 (([c0, c1, c2, c3, c4, c5, c6, c7, c8, c9, c10, c11, c12, c13, c14, c15, c16, c17, c18, c19, c20, c21, c22, c23, c24, c25, c26, c27, c28].drop 14).take (Tryd.prog.cellsOf 5)) = ys[5]? := hf 5 _ rfl
    rw [a_u8, hy5] at g5
    have f5 : DataW.trod enc Tryd.prog w base spare held m 5 [c14] = some y5 := g5
    clear g5 hy5
    obtain ⟨z5, e5, _, w5⟩ := DataW.trod_int Tryd.underlying5 f5
    obtain ⟨q_kd, rfl, ok5⟩ := arg8 w5
    simp only [List.cons.injEq, and_true] at e5
    obtain ⟨y6, hy6⟩ := at_some hl (show 6 < 17 by omega)
    have g6 : DataW.trod enc Tryd.prog w base spare held m 46 (([c0, c1, c2, c3, c4, c5, c6, c7, c8, c9, c10, c11, c12, c13, c14, c15, c16, c17, c18, c19, c20, c21, c22, c23, c24, c25, c26, c27, c28].drop 15).take (Tryd.prog.cellsOf 46)) = ys[6]? := hf 6 _ rfl
    rw [a_dot, hy6] at g6
    have f6 : DataW.trod enc Tryd.prog w base spare held m 46 [c15, c16] = some y6 := g6
    clear g6 hy6
    obtain ⟨⟨q_dr, q_dn⟩, e6, ok6⟩ := open_dot f6
    simp only [Dot.enc, List.cons.injEq, and_true] at e6
    obtain ⟨y7, hy7⟩ := at_some hl (show 7 < 17 by omega)
    have g7 : DataW.trod enc Tryd.prog w base spare held m 28 (([c0, c1, c2, c3, c4, c5, c6, c7, c8, c9, c10, c11, c12, c13, c14, c15, c16, c17, c18, c19, c20, c21, c22, c23, c24, c25, c26, c27, c28].drop 17).take (Tryd.prog.cellsOf 28)) = ys[7]? := hf 7 _ rfl
    rw [a_u32, hy7] at g7
    have f7 : DataW.trod enc Tryd.prog w base spare held m 28 [c17] = some y7 := g7
    clear g7 hy7
    obtain ⟨z7, e7, _, w7⟩ := DataW.trod_int Tryd.underlying28 f7
    obtain ⟨q_to, rfl, ok7⟩ := arg32 w7
    simp only [List.cons.injEq, and_true] at e7
    obtain ⟨y8, hy8⟩ := at_some hl (show 8 < 17 by omega)
    have g8 : DataW.trod enc Tryd.prog w base spare held m 5 (([c0, c1, c2, c3, c4, c5, c6, c7, c8, c9, c10, c11, c12, c13, c14, c15, c16, c17, c18, c19, c20, c21, c22, c23, c24, c25, c26, c27, c28].drop 18).take (Tryd.prog.cellsOf 5)) = ys[8]? := hf 8 _ rfl
    rw [a_u8, hy8] at g8
    have f8 : DataW.trod enc Tryd.prog w base spare held m 5 [c18] = some y8 := g8
    clear g8 hy8
    obtain ⟨z8, e8, _, w8⟩ := DataW.trod_int Tryd.underlying5 f8
    obtain ⟨q_ro, rfl, ok8⟩ := arg8 w8
    simp only [List.cons.injEq, and_true] at e8
    obtain ⟨y9, hy9⟩ := at_some hl (show 9 < 17 by omega)
    have g9 : DataW.trod enc Tryd.prog w base spare held m 5 (([c0, c1, c2, c3, c4, c5, c6, c7, c8, c9, c10, c11, c12, c13, c14, c15, c16, c17, c18, c19, c20, c21, c22, c23, c24, c25, c26, c27, c28].drop 19).take (Tryd.prog.cellsOf 5)) = ys[9]? := hf 9 _ rfl
    rw [a_u8, hy9] at g9
    have f9 : DataW.trod enc Tryd.prog w base spare held m 5 [c19] = some y9 := g9
    clear g9 hy9
    obtain ⟨z9, e9, _, w9⟩ := DataW.trod_int Tryd.underlying5 f9
    obtain ⟨q_de, rfl, ok9⟩ := arg8 w9
    simp only [List.cons.injEq, and_true] at e9
    obtain ⟨y10, hy10⟩ := at_some hl (show 10 < 17 by omega)
    have g10 : DataW.trod enc Tryd.prog w base spare held m 47 (([c0, c1, c2, c3, c4, c5, c6, c7, c8, c9, c10, c11, c12, c13, c14, c15, c16, c17, c18, c19, c20, c21, c22, c23, c24, c25, c26, c27, c28].drop 20).take (Tryd.prog.cellsOf 47)) = ys[10]? := hf 10 _ rfl
    rw [a_u64, hy10] at g10
    have f10 : DataW.trod enc Tryd.prog w base spare held m 47 [c20] = some y10 := g10
    clear g10 hy10
    obtain ⟨z10, e10, _, w10⟩ := DataW.trod_int Tryd.underlying47 f10
    obtain ⟨q_cap, rfl, ok10⟩ := arg64 w10
    simp only [List.cons.injEq, and_true] at e10
    obtain ⟨y11, hy11⟩ := at_some hl (show 11 < 17 by omega)
    have g11 : DataW.trod enc Tryd.prog w base spare held m 46 (([c0, c1, c2, c3, c4, c5, c6, c7, c8, c9, c10, c11, c12, c13, c14, c15, c16, c17, c18, c19, c20, c21, c22, c23, c24, c25, c26, c27, c28].drop 21).take (Tryd.prog.cellsOf 46)) = ys[11]? := hf 11 _ rfl
    rw [a_dot, hy11] at g11
    have f11 : DataW.trod enc Tryd.prog w base spare held m 46 [c21, c22] = some y11 := g11
    clear g11 hy11
    obtain ⟨⟨q_ar, q_an⟩, e11, ok11⟩ := open_dot f11
    simp only [Dot.enc, List.cons.injEq, and_true] at e11
    obtain ⟨y12, hy12⟩ := at_some hl (show 12 < 17 by omega)
    have g12 : DataW.trod enc Tryd.prog w base spare held m 46 (([c0, c1, c2, c3, c4, c5, c6, c7, c8, c9, c10, c11, c12, c13, c14, c15, c16, c17, c18, c19, c20, c21, c22, c23, c24, c25, c26, c27, c28].drop 23).take (Tryd.prog.cellsOf 46)) = ys[12]? := hf 12 _ rfl
    rw [a_dot, hy12] at g12
    have f12 : DataW.trod enc Tryd.prog w base spare held m 46 [c23, c24] = some y12 := g12
    clear g12 hy12
    obtain ⟨⟨q_vr, q_vn⟩, e12, ok12⟩ := open_dot f12
    simp only [Dot.enc, List.cons.injEq, and_true] at e12
    obtain ⟨y13, hy13⟩ := at_some hl (show 13 < 17 by omega)
    have g13 : DataW.trod enc Tryd.prog w base spare held m 28 (([c0, c1, c2, c3, c4, c5, c6, c7, c8, c9, c10, c11, c12, c13, c14, c15, c16, c17, c18, c19, c20, c21, c22, c23, c24, c25, c26, c27, c28].drop 25).take (Tryd.prog.cellsOf 28)) = ys[13]? := hf 13 _ rfl
    rw [a_u32, hy13] at g13
    have f13 : DataW.trod enc Tryd.prog w base spare held m 28 [c25] = some y13 := g13
    clear g13 hy13
    obtain ⟨z13, e13, _, w13⟩ := DataW.trod_int Tryd.underlying28 f13
    obtain ⟨q_it, rfl, ok13⟩ := arg32 w13
    simp only [List.cons.injEq, and_true] at e13
    obtain ⟨y14, hy14⟩ := at_some hl (show 14 < 17 by omega)
    have g14 : DataW.trod enc Tryd.prog w base spare held m 28 (([c0, c1, c2, c3, c4, c5, c6, c7, c8, c9, c10, c11, c12, c13, c14, c15, c16, c17, c18, c19, c20, c21, c22, c23, c24, c25, c26, c27, c28].drop 26).take (Tryd.prog.cellsOf 28)) = ys[14]? := hf 14 _ rfl
    rw [a_u32, hy14] at g14
    have f14 : DataW.trod enc Tryd.prog w base spare held m 28 [c26] = some y14 := g14
    clear g14 hy14
    obtain ⟨z14, e14, _, w14⟩ := DataW.trod_int Tryd.underlying28 f14
    obtain ⟨q_qt, rfl, ok14⟩ := arg32 w14
    simp only [List.cons.injEq, and_true] at e14
    obtain ⟨y15, hy15⟩ := at_some hl (show 15 < 17 by omega)
    have g15 : DataW.trod enc Tryd.prog w base spare held m 28 (([c0, c1, c2, c3, c4, c5, c6, c7, c8, c9, c10, c11, c12, c13, c14, c15, c16, c17, c18, c19, c20, c21, c22, c23, c24, c25, c26, c27, c28].drop 27).take (Tryd.prog.cellsOf 28)) = ys[15]? := hf 15 _ rfl
    rw [a_u32, hy15] at g15
    have f15 : DataW.trod enc Tryd.prog w base spare held m 28 [c27] = some y15 := g15
    clear g15 hy15
    obtain ⟨z15, e15, _, w15⟩ := DataW.trod_int Tryd.underlying28 f15
    obtain ⟨q_pr, rfl, ok15⟩ := arg32 w15
    simp only [List.cons.injEq, and_true] at e15
    obtain ⟨y16, hy16⟩ := at_some hl (show 16 < 17 by omega)
    have g16 : DataW.trod enc Tryd.prog w base spare held m 48 (([c0, c1, c2, c3, c4, c5, c6, c7, c8, c9, c10, c11, c12, c13, c14, c15, c16, c17, c18, c19, c20, c21, c22, c23, c24, c25, c26, c27, c28].drop 28).take (Tryd.prog.cellsOf 48)) = ys[16]? := hf 16 _ rfl
    rw [a_lines, hy16] at g16
    have f16 : DataW.trod enc Tryd.prog w base spare held m 48 [c28] = some y16 := g16
    clear g16
    obtain ⟨q_lv, l, e16, ok16, sz16⟩ := open_claims f16
    simp only [List.cons.injEq, and_true] at e16
    exact ⟨⟨q_r, q_n, q_dep, q_tm, q_who, q_cr, q_cn, q_kd, q_dr, q_dn, q_to, q_ro, q_de, q_cap, q_ar, q_an, q_vr, q_vn, q_it, q_qt, q_pr, q_lv⟩, l, by simp only [e0.1, e0.2, e1.1, e1.2.1, e1.2.2.1, e1.2.2.2.1, e1.2.2.2.2.1, e1.2.2.2.2.2.1, e1.2.2.2.2.2.2.1, e1.2.2.2.2.2.2.2, e2, e3, e4.1, e4.2, e5, e6.1, e6.2, e7, e8, e9, e10, e11.1, e11.2, e12.1, e12.2, e13, e14, e15, e16]; rfl, ⟨ok1, ok0.1, ok0.2, ok2, ok3, ok4.1, ok4.2, ok5, ok6.1, ok6.2, ok7, ok8, ok9, ok10, ok11.1, ok11.2, ok12.1, ok12.2, ok13, ok14, ok15⟩, ok16, fun hw => sz16 (fun n hn => hw n (by
      rw [hxe]
      simp only [DataW.weights, Tryd.underlying50]
      exact DataW.weights_mem_each (j := 16) (t := 48) (d := y16.1) rfl (by simp [hy16]) n hn))⟩
theorem open_opV {v : Value} {d : DataW H} {ps : List MemPlace} {r : Reach} {b0 : Nat} (hv : Value.okWide Tryd.prog w r b0 50 v) (h : DataW.Trod enc Tryd.prog w base spare held 50 v d ps) :
    ∃ (o : OpM) (l : List Claim), v = .agg (oc o) ∧ okO o ∧ ClaimsV w o.lv l := by
  obtain ⟨cs, rfl, _⟩ := okWide_struct Tryd.underlying50 hv
  obtain ⟨fuel, hf⟩ := h
  obtain ⟨o, l, hx, hok, hl, _⟩ := open_op hf
  refine ⟨o, l, ?_, hok, hl⟩
  congr 1
  exact Array.ext' hx
theorem a_ops : Tryd.prog.cellsOf 22 = 1 := by kernel_rfl
theorem mem_weightsAll {P : Program} {e : TypeId} {elems : List (DataW H)} {d : DataW H} (hd : d ∈ elems) {n : Nat} (hn : n ∈ d.weights P e) : n ∈ DataW.weightsAll P e elems := by
  induction elems with
  | nil => cases hd
  | cons c cs ih =>
    simp only [DataW.weightsAll, List.mem_append]
    rcases List.mem_cons.1 hd with rfl | hd
    · exact .inl hn
    · exact .inr (ih hd)
theorem open_ops {fuel : Nat} {cs : List Value} {x : DataW H × List MemPlace} (hf : DataW.trod enc Tryd.prog w base spare held fuel 22 cs = some x) :
    ∃ v l, cs = [v] ∧ OpsV w v l ∧ ((∀ n ∈ DataW.weights Tryd.prog 22 x.1, n ≤ reachBytes) → ∀ y ∈ l, y.2.length ≤ 8796093022208) := by
  rcases Go.Deep.open_slice Tryd.underlying22 hf with ⟨hcs, _⟩ | ⟨ad, len, cap, m, n, D, Pl, hcs, _, hl, hm, hmm, hx, hi⟩
  · exact ⟨_, [], hcs, OpsV.nil w, fun _ y hy => by cases hy⟩
  · have hgo : ∃ l, IsOps w (some ad) len cap l ∧ ((∀ n ∈ DataW.weights Tryd.prog 22 x.1, n ≤ reachBytes) → ∀ y ∈ l, y.2.length ≤ 8796093022208) := by
      have hlm : len ≤ m := by rw [hmm]; split <;> omega
      have key : ∀ i, i < len → ∃ y : OC, ((okO y.1 ∧ ClaimsV w y.1.lv y.2) ∧ ((∀ n ∈ DataW.weights Tryd.prog 22 x.1, n ≤ reachBytes) → y.2.length ≤ 8796093022208)) ∧ ∀ k, k < 29 → w.cell? ((ad.add (i * 29)).add k) = (oc y.1)[k]? := fun i hlt => by
        obtain ⟨cs', hc, ht⟩ := hi i (by omega)
        rw [a_op] at hc
        obtain ⟨_, _, hat⟩ := World.cells?_some hc
        obtain ⟨o, l, hy, hok, hcl, hsz⟩ := open_op ht
        refine ⟨(o, l), ⟨⟨hok, hcl⟩, fun hw => hsz fun n hn => hw n (by
          rw [hx]
          simp only [DataW.weights, Tryd.underlying22, List.mem_cons, List.mem_append]
          exact .inr (.inl (mem_weightsAll (List.mem_map.2 ⟨i, List.mem_range.2 hlt, rfl⟩) hn)))⟩, fun k hk => ?_⟩
        have h0 := hat k hk
        rw [hy] at h0
        rw [h0]
        simp
      exact (by
        refine ⟨(List.range len).pmap (fun i hlt => (key i (List.mem_range.1 hlt)).choose) (fun _ h => h), ⟨by simp, hl, hm, ?_, ?_⟩, ?_⟩
        · intro x hx
          obtain ⟨i, hlt, rfl⟩ := List.mem_pmap.1 hx
          exact (key i (List.mem_range.1 hlt)).choose_spec.1.1
        · intro i x hx
          have hlt : i < len := by
            have := (List.getElem?_eq_some_iff.1 hx).1
            simpa using this
          rw [List.getElem?_pmap] at hx
          simp [List.getElem?_range hlt] at hx
          rw [← hx]
          exact (key i hlt).choose_spec.2
        · intro hw y hy
          obtain ⟨i, hlt, rfl⟩ := List.mem_pmap.1 hy
          exact (key i (List.mem_range.1 hlt)).choose_spec.1.2 hw)
    obtain ⟨l, hl2, hl3⟩ := hgo
    exact ⟨_, l, hcs, ⟨some ad, len, cap, rfl, hl2⟩, hl3⟩
theorem open_opsV {v : Value} {d : DataW H} {ps : List MemPlace} {ts : List TypeId} {ds : List (DataW H)} {j : Nat} {r : Reach} {b0 : Nat} (hv : Value.okWide Tryd.prog w r b0 22 v) (h : DataW.Trod enc Tryd.prog w base spare held 22 v d ps)
    (hsz : (DataW.weightsEach Tryd.prog ts ds).all (· ≤ reachBytes) = true) (hts : ts[j]? = some 22) (hds : ds[j]? = some d) : ∃ l, OpsV w v l ∧ ∀ y ∈ l, y.2.length ≤ 8796093022208 := by
  obtain ⟨a, len, cap, rfl⟩ := okWide_slice Tryd.underlying22 hv
  obtain ⟨fuel, hf⟩ := h
  obtain ⟨v, l, hcs, ho, hb⟩ := open_ops hf
  have e : v = .slice a len cap := by simpa [Value.cells] using hcs.symm
  subst e
  refine ⟨l, ho, hb fun n hn => ?_⟩
  simpa using List.all_eq_true.1 hsz _ (DataW.weights_mem_each hts hds n hn)
end
end Go.Proofs.YtfnmekmgjcjglaaDoor.V
