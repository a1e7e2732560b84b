/-
  Acts, plans and numbers, opened as arguments.
-/
import Derived.Test.YtcioomlhdaihkaaGreatDoorWJ
import Derived.Test.YtcioomlhdaihkaaGreatDoorRows
import Derived.SizedLaws
import Derived.ProofKit
import Derived.OpenShut
import Derived.ShutString
import Derived.SliceStrings
import Derived.ChangeMaps5
import Derived.Deep.Slices
namespace Go.Proofs.YtcioomlhdaihkaaGreatDoor.L
set_option linter.unusedVariables false
set_option linter.unusedSimpArgs false
set_option maxRecDepth 100000
open Go Go.RowKit Go.ChangeShapes Go.WideShapes
open Go.Shelf (Ren)

theorem act_cells : Tryz.prog.cellsOf 40 = 5 := by kernel_rfl
theorem k_u8 : Tryz.prog.cellsOf 5 = 1 := by kernel_rfl
theorem k_int : Tryz.prog.cellsOf 3 = 1 := by kernel_rfl
theorem k_str : Tryz.prog.cellsOf 9 = 1 := by kernel_rfl
theorem k_sl : Tryz.prog.cellsOf 36 = 1 := by kernel_rfl
theorem k_u16 : Tryz.prog.cellsOf 25 = 1 := by kernel_rfl
theorem k_triple : Tryz.prog.cellsOf 26 = 3 := by kernel_rfl
theorem k_plan : Tryz.prog.cellsOf 23 = 2 := by kernel_rfl
theorem nat8 {n : Int} (h : (Lit.int .u8 n).wf = true) : ∃ m : Nat, n = m ∧ m < 256 := by
  have hx : 0 ≤ n ∧ n ≤ 255 := by simpa [Lit.wf, IntKind.min, IntKind.max, IntKind.signed, IntKind.bits] using h
  exact ⟨n.toNat, by omega, by omega⟩
theorem nat16 {n : Int} (h : (Lit.int .u16 n).wf = true) : ∃ m : Nat, n = m ∧ m < 65536 := by
  have hx : 0 ≤ n ∧ n ≤ 65535 := by simpa [Lit.wf, IntKind.min, IntKind.max, IntKind.signed, IntKind.bits] using h
  exact ⟨n.toNat, by omega, by omega⟩
theorem int64 {n : Int} (h : (Lit.int .i64 n).wf = true) : -9223372036854775808 ≤ n ∧ n ≤ 9223372036854775807 := by
  simpa [Lit.wf, IntKind.min, IntKind.max, IntKind.signed, IntKind.bits] using h
/-- What is done: what, strings, a number, a name, bytes. -/
structure ActM where
  a : Nat
  L : List Bs
  k : Int
  nam : Bs
  s : Bs
/-- How much of the reading an act is. -/
def aw (x : ActM) : Nat := (x.L.map (fun t => t.length + 1)).sum + x.nam.length + x.s.length + 1
theorem str_ba (s : ByteArray) : Value.string s = .string (ba s.data.toList) := by simp [ba]
theorem bulk_strs {H : Type} : ∀ ss : List ByteArray, Rows.uptoBulkAll (strs (H := H) ss) = ((ss.map (fun s => s.data.toList)).map (fun t => t.length + 1)).sum
  | [] => rfl
  | s :: r => by
    have := bulk_strs (H := H) r
    unfold strs at this ⊢
    rw [List.map_cons, Rows.uptoBulkAll, this]
    simp [Rows.uptoBulk]

section
variable {H : Type} {enc : TypeId × Value → H} {w : World} {base : Nat} {spare : Nat → Bool} {held : Bool}
theorem open_strsT {fuel : Nat} {c : Value} {x : DataW H × List MemPlace} (h : DataW.trod enc Tryz.prog w base spare held fuel 36 [c] = some x) : ∃ l : List Bs, Q.SV w c l ∧ (l.map (fun t => t.length + 1)).sum ≤ Rows.uptoBulk x.1 := by
  rcases open_strings Tryz.underlying36 Tryz.underlying9 k_str h with ⟨hcs, hx⟩ | ⟨ad, len', cap', ss, hcs, _, hl, hm, hz, hx', hcell, _⟩
  · obtain rfl := (List.cons.inj hcs).1
    exact ⟨[], Q.SV.nil w, by simp⟩
  · obtain rfl := (List.cons.inj hcs).1
    have hls : len' ≤ ss.length := by rw [hz]; split <;> omega
    refine ⟨(ss.take len').map fun s => s.data.toList, ⟨_, _, _, rfl, by rw [List.length_map, List.length_take]; omega, hl, hm, fun h => (by cases h), fun i x hx => ⟨_, rfl, ?_⟩⟩, ?_⟩
    · rw [List.getElem?_map, List.getElem?_take] at hx
      split at hx
      · rename_i hi
        have hi2 : i < ss.length := by omega
        rw [List.getElem?_eq_getElem hi2] at hx
        have e : ss[i].data.toList = x := Option.some.inj hx
        rw [hcell i hi2, List.getD_eq_getElem?_getD, List.getElem?_eq_getElem hi2, Option.getD_some, ← e, ← str_ba]
      · cases hx
    · rw [hx']
      show _ ≤ Rows.uptoBulkAll (strs (ss.take len')) + _ + 1
      rw [bulk_strs]
      exact Nat.le_trans (Nat.le_add_right _ _) (Nat.le_succ _)
/-- An act's cells. -/
structure ActAt (w : World) (B O : Nat) (sp : Option Nat) (x : ActM) : Prop where
  q0 : w.cell? ⟨B, O, sp⟩ = some (.int .u8 (x.a : Nat))
  q1 : ∃ v, w.cell? ⟨B, O + 1, none⟩ = some v ∧ Q.SV w v x.L
  q3 : w.cell? ⟨B, O + 3, none⟩ = some (.string (ba x.nam))
  q4 : w.cell? ⟨B, O + 4, none⟩ = some (.string (ba x.s))
theorem open_act {fuel : Nat} {cs : List Value} {x : DataW H × List MemPlace} (h : DataW.trod enc Tryz.prog w base spare held fuel 40 cs = some x) :
    ∃ (y : ActM) (v : Value), cs = [.int .u8 (y.a : Nat), v, .int .i64 y.k, .string (ba y.nam), .string (ba y.s)] ∧ Q.SV w v y.L ∧ y.a < 256 ∧ aw y ≤ Rows.uptoBulk x.1 := by
  obtain ⟨ys, m, _, rfl, hlen, hl, hf⟩ := DataW.trod_struct Tryz.underlying40 h
  rw [act_cells] at hlen
  match cs, hlen with
  | [c0, c1, c2, c3, c4], _ =>
    match ys, hl with
    | [y0, y1, y2, y3, y4], _ =>
      have g0 : DataW.trod enc Tryz.prog w base spare held m 5 (([c0, c1, c2, c3, c4].drop 0).take (Tryz.prog.cellsOf 5)) = some y0 := hf 0 _ rfl
      rw [k_u8] at g0
      have f0 : DataW.trod enc Tryz.prog w base spare held m 5 [c0] = some y0 := g0
      have g1 : DataW.trod enc Tryz.prog w base spare held m 36 (([c0, c1, c2, c3, c4].drop 1).take (Tryz.prog.cellsOf 36)) = some y1 := hf 1 _ rfl
      rw [k_sl] at g1
      have f1 : DataW.trod enc Tryz.prog w base spare held m 36 [c1] = some y1 := g1
      have g2 : DataW.trod enc Tryz.prog w base spare held m 3 (([c0, c1, c2, c3, c4].drop 2).take (Tryz.prog.cellsOf 3)) = some y2 := hf 2 _ rfl
      rw [k_int] at g2
      have f2 : DataW.trod enc Tryz.prog w base spare held m 3 [c2] = some y2 := g2
      have g3 : DataW.trod enc Tryz.prog w base spare held m 9 (([c0, c1, c2, c3, c4].drop 3).take (Tryz.prog.cellsOf 9)) = some y3 := hf 3 _ rfl
      rw [k_str] at g3
      have f3 : DataW.trod enc Tryz.prog w base spare held m 9 [c3] = some y3 := g3
      have g4 : DataW.trod enc Tryz.prog w base spare held m 9 (([c0, c1, c2, c3, c4].drop 4).take (Tryz.prog.cellsOf 9)) = some y4 := hf 4 _ rfl
      rw [k_str] at g4
      have f4 : DataW.trod enc Tryz.prog w base spare held m 9 [c4] = some y4 := g4
      obtain ⟨a, e0, d0, w0⟩ := DataW.trod_int Tryz.underlying5 f0
      obtain ⟨l, hsv, hb1⟩ := open_strsT f1
      obtain ⟨k, e2, d2, w2⟩ := DataW.trod_int Tryz.underlying3 f2
      obtain ⟨s, e3, d3, _⟩ := DataW.trod_string Tryz.underlying9 f3
      obtain ⟨t, e4, d4, _⟩ := DataW.trod_string Tryz.underlying9 f4
      obtain ⟨n, rfl, hn⟩ := nat8 w0
      simp only [List.cons.injEq, and_true] at e0 e2 e3 e4
      rw [str_ba] at e3 e4
      subst e0 e2 e3 e4
      refine ⟨⟨n, l, k, s.data.toList, t.data.toList⟩, c1, rfl, hsv, hn, ?_⟩
      subst d0 d2 d3 d4
      show (l.map (fun t => t.length + 1)).sum + s.data.toList.length + t.data.toList.length + 1 ≤ _
      simp only [List.map_cons, List.map_nil, Rows.uptoBulk, Rows.uptoBulkAll]
      omega
/-- Acts in a row. -/
def IsActs (w : World) (a : Option Addr) (len cap : Nat) (xs : List ActM) : Prop :=
  xs.length = len ∧ len ≤ cap ∧ cap ≤ maxLen ∧ (∀ x ∈ xs, x.a < 256) ∧
    match a with
    | none => len = 0
    | some ad => ∀ (i : Nat) (x : ActM), xs[i]? = some x → ∃ B O sp, ad.add (i * 5) = ⟨B, O, sp⟩ ∧ ActAt w B O sp x
def ActsV (w : World) (v : Value) (xs : List ActM) : Prop := (∃ a len cap, v = .slice a len cap ∧ IsActs w a len cap xs) ∧ (xs.map aw).sum ≤ 1048576
theorem acell_lt {w : World} {a : Addr} {v : Value} (h : w.cell? a = some v) : a.block < w.heap.size := World.block_lt_of_cell? w a h
theorem ActAt.keep {w w' : World} {B O : Nat} {sp : Option Nat} {x : ActM} (h : ActAt w B O sp x) (hb : Below w.heap.size w w') : ActAt w' B O sp x := by
  obtain ⟨q0, ⟨v, q1, hs⟩, q3, q4⟩ := h
  exact ⟨(hb.cell (acell_lt q0)).trans q0, ⟨v, (hb.cell (acell_lt q1)).trans q1, hs.keep hb⟩, (hb.cell (acell_lt q3)).trans q3, (hb.cell (acell_lt q4)).trans q4⟩
theorem IsActs.keep {w w' : World} {a : Option Addr} {len cap : Nat} {xs : List ActM} (h : IsActs w a len cap xs) (hb : Below w.heap.size w w') : IsActs w' a len cap xs := by
  obtain ⟨h1, h2, h3, h4, h5⟩ := h
  refine ⟨h1, h2, h3, h4, ?_⟩
  cases a with
  | none => exact h5
  | some ad =>
    intro i x hx
    obtain ⟨B, O, sp, e, hA⟩ := h5 i x hx
    exact ⟨B, O, sp, e, hA.keep hb⟩
theorem bulk_range {H : Type} (D : Nat → DataW H) : ∀ n, Rows.uptoBulkAll ((List.range n).map D) = ((List.range n).map (fun i => Rows.uptoBulk (D i))).sum := by
  have key : ∀ l : List Nat, Rows.uptoBulkAll (l.map D) = (l.map (fun i => Rows.uptoBulk (D i))).sum := by
    intro l
    induction l with
    | nil => rfl
    | cons x r ih => rw [List.map_cons, Rows.uptoBulkAll, ih]; simp
  exact fun n => key _
theorem sum_le {α : Type} : ∀ (l : List α) (f g : α → Nat), (∀ x ∈ l, f x ≤ g x) → (l.map f).sum ≤ (l.map g).sum
  | [], f, g, _ => Nat.le_refl _
  | x :: r, f, g, h => by
    have h1 := h x (List.mem_cons_self ..)
    have h2 := sum_le r f g (fun y hy => h y (List.mem_cons_of_mem _ hy))
    simp only [List.map_cons, List.sum_cons]
    omega
theorem open_acts {v : Value} {d : DataW H} {ps : List MemPlace} {r : Reach} {b0 : Nat} (hv : Value.okWide Tryz.prog w r b0 24 v) (h : DataW.Trod enc Tryz.prog w base spare held 24 v d ps)
    (hsm : Rows.uptoBulk d ≤ 1048576) : ∃ xs, ActsV w v xs := by
  obtain ⟨a, len, cap, rfl⟩ := okWide_slice Tryz.underlying24 hv
  obtain ⟨fuel, hf⟩ := h
  rcases Go.Deep.open_slice Tryz.underlying24 hf with ⟨hcs, _⟩ | ⟨ad, len', cap', m, n, D, Pl, hcs, _, hl, hm, hmm, hx, hi⟩
  · simp [Value.cells] at hcs
    obtain ⟨rfl, rfl, rfl⟩ := hcs
    exact ⟨[], ⟨none, 0, 0, rfl, rfl, Nat.le_refl _, Nat.zero_le _, by simp, rfl⟩, by simp⟩
  · simp [Value.cells] at hcs
    obtain ⟨rfl, rfl, rfl⟩ := hcs
    have hlm : len ≤ m := by rw [hmm]; split <;> omega
    have hd : d = .slice ((List.range len).map D) ((List.range (m - len)).map fun j => D (len + j)) := (Prod.mk.inj hx).1
    have key : ∀ i, i < len → ∃ y : ActM, y.a < 256 ∧ (∃ B O sp, ad.add (i * 5) = ⟨B, O, sp⟩ ∧ ActAt w B O sp y) ∧ aw y ≤ Rows.uptoBulk (D i) := fun i hlt => by
      obtain ⟨cs', hc, ht⟩ := hi i (by omega)
      rw [act_cells] at hc
      obtain ⟨_, _, hat⟩ := World.cells?_some hc
      obtain ⟨y, v, hy, hsv, hlt8, haw⟩ := open_act ht
      obtain ⟨A, hA⟩ : ∃ A, A = ad.add (i * 5) := ⟨_, rfl⟩
      rw [← hA] at hat
      obtain ⟨B, O, sp⟩ := A
      have hj : ∀ j, j < 5 → 0 < j → w.cell? ⟨B, O + j, none⟩ = cs'[j]? := fun j hj h0 => by
        have := hat j hj
        unfold Addr.add at this
        rw [if_neg (by omega)] at this
        exact this
      have h0 := hat 0 (by omega)
      refine ⟨y, hlt8, ⟨B, O, sp, hA.symm, ⟨?_, ⟨v, ?_, hsv⟩, ?_, ?_⟩⟩, haw⟩
      · have : w.cell? (Addr.add ⟨B, O, sp⟩ 0) = w.cell? ⟨B, O, sp⟩ := rfl
        rw [← this, h0, hy]; rfl
      · rw [hj 1 (by omega) (by omega), hy]; rfl
      · rw [hj 3 (by omega) (by omega), hy]; rfl
      · rw [hj 4 (by omega) (by omega), hy]; rfl
    have hlen : ((List.range len).pmap (fun i hlt => (key i (List.mem_range.1 hlt)).choose) (fun _ h => h)).length = len := by simp
    have hget : ∀ i x, ((List.range len).pmap (fun i hlt => (key i (List.mem_range.1 hlt)).choose) (fun _ h => h))[i]? = some x → ∃ hlt : i < len, x = (key i hlt).choose := fun i x hx => by
      have hlt : i < len := by
        have := (List.getElem?_eq_some_iff.1 hx).1
        simpa using this
      rw [List.getElem?_pmap] at hx
      simp [List.getElem?_range hlt] at hx
      exact ⟨hlt, hx.symm⟩
    refine ⟨(List.range len).pmap (fun i hlt => (key i (List.mem_range.1 hlt)).choose) (fun _ h => h), ⟨some ad, len, cap, rfl, hlen, hl, hm, ?_, ?_⟩, ?_⟩
    · intro x hx
      obtain ⟨i, hlt, rfl⟩ := List.mem_pmap.1 hx
      exact (key i (List.mem_range.1 hlt)).choose_spec.1
    · intro i x hx
      obtain ⟨hlt, rfl⟩ := hget i x hx
      exact (key i hlt).choose_spec.2.1
    · rw [hd] at hsm
      simp only [Rows.uptoBulk] at hsm
      rw [bulk_range] at hsm
      have e : (((List.range len).pmap (fun i hlt => (key i (List.mem_range.1 hlt)).choose) (fun _ h => h)).map aw).sum ≤ ((List.range len).map (fun i => Rows.uptoBulk (D i))).sum := by
        have e2 : ((List.range len).pmap (fun i hlt => (key i (List.mem_range.1 hlt)).choose) (fun _ h => h)).map aw = (List.range len).attach.map (fun i => aw (key i.1 (List.mem_range.1 i.2)).choose) := by
          rw [List.pmap_eq_map_attach, List.map_map]
          rfl
        have e3 : (List.range len).map (fun i => Rows.uptoBulk (D i)) = (List.range len).attach.map (fun i => Rows.uptoBulk (D i.1)) := by
          conv => lhs; rw [← List.attach_map_subtype_val (List.range len)]
          rw [List.map_map]
          rfl
        rw [e2, e3]
        exact sum_le _ _ _ (fun i _ => (key i.1 (List.mem_range.1 i.2)).choose_spec.2.2)
      omega
theorem open_planV {v : Value} {d : DataW H} {ps : List MemPlace} {r : Reach} {b0 : Nat} (hv : Value.okWide Tryz.prog w r b0 23 v) (h : DataW.Trod enc Tryz.prog w base spare held 23 v d ps) :
    ∃ a b : Int, v = .agg #[.int .i64 a, .int .i64 b] ∧ (-9223372036854775808 ≤ a ∧ a ≤ 9223372036854775807) ∧ (-9223372036854775808 ≤ b ∧ b ≤ 9223372036854775807) := by
  obtain ⟨cs, rfl, _⟩ := okWide_struct Tryz.underlying23 hv
  obtain ⟨fuel, hf⟩ := h
  obtain ⟨ys, m, _, _, hlen, hl, hg⟩ := DataW.trod_struct Tryz.underlying23 hf
  rw [k_plan] at hlen
  have hcs : (Value.agg cs).cells.toList = cs.toList := rfl
  rw [hcs] at hlen hg
  obtain ⟨l⟩ := cs
  simp only at hlen hg
  match l, hlen with
  | [c0, c1], _ =>
    match ys, hl with
    | [y0, y1], _ =>
      have g0 : DataW.trod enc Tryz.prog w base spare held m 3 (([c0, c1].drop 0).take (Tryz.prog.cellsOf 3)) = some y0 := hg 0 _ rfl
      rw [k_int] at g0
      have f0 : DataW.trod enc Tryz.prog w base spare held m 3 [c0] = some y0 := g0
      have g1 : DataW.trod enc Tryz.prog w base spare held m 3 (([c0, c1].drop 1).take (Tryz.prog.cellsOf 3)) = some y1 := hg 1 _ rfl
      rw [k_int] at g1
      have f1 : DataW.trod enc Tryz.prog w base spare held m 3 [c1] = some y1 := g1
      obtain ⟨a, e0, _, w0⟩ := DataW.trod_int Tryz.underlying3 f0
      obtain ⟨b, e1, _, w1⟩ := DataW.trod_int Tryz.underlying3 f1
      simp only [List.cons.injEq, and_true] at e0 e1
      subst e0 e1
      exact ⟨a, b, rfl, int64 w0, int64 w1⟩
theorem okWide_array {P : Program} {w : World} {r : Reach} {base : Nat} {t : TypeId} {v : Value} {n : Nat} {e : TypeId} (ht : P.underlying t = some (.array n e)) (h : Value.okWide P w r base t v) : ∃ cs, v = .agg cs ∧ cs.size = P.cellsOf t := by
  simp only [Value.okWide, ht] at h
  obtain ⟨cs, h1, h2, _⟩ := h
  exact ⟨cs, h1, h2⟩
theorem at_some {α : Type} {ys : List α} {n i : Nat} (h : ys.length = n) (hi : i < n) : ∃ y, ys[i]? = some y := ⟨_, List.getElem?_eq_getElem (by omega)⟩
theorem open_tripleV {v : Value} {d : DataW H} {ps : List MemPlace} {r : Reach} {b0 : Nat} (hv : Value.okWide Tryz.prog w r b0 26 v) (h : DataW.Trod enc Tryz.prog w base spare held 26 v d ps) :
    ∃ a b c : Nat, v = .agg #[.int .u16 (a : Int), .int .u16 (b : Int), .int .u16 (c : Int)] ∧ a < 65536 ∧ b < 65536 ∧ c < 65536 := by
  obtain ⟨cs, rfl, _⟩ := okWide_array Tryz.underlying26 hv
  obtain ⟨fuel, hf⟩ := h
  obtain ⟨ys, m, _, _, hlen, hl, hg⟩ := DataW.trod_array Tryz.underlying26 hf
  rw [k_triple] at hlen
  have hcs : (Value.agg cs).cells.toList = cs.toList := rfl
  rw [hcs] at hlen hg
  obtain ⟨l⟩ := cs
  simp only at hlen hg
  match l, hlen with
  | [c0, c1, c2], _ =>
    obtain ⟨y0, hy0⟩ := at_some hl (show 0 < 3 by omega)
    obtain ⟨y1, hy1⟩ := at_some hl (show 1 < 3 by omega)
    obtain ⟨y2, hy2⟩ := at_some hl (show 2 < 3 by omega)
    have g0 := hg 0 (by omega)
    have g1 := hg 1 (by omega)
    have g2 := hg 2 (by omega)
    rw [k_u16, hy0] at g0
    rw [k_u16, hy1] at g1
    rw [k_u16, hy2] at g2
    have f0 : DataW.trod enc Tryz.prog w base spare held m 25 [c0] = some y0 := g0
    have f1 : DataW.trod enc Tryz.prog w base spare held m 25 [c1] = some y1 := g1
    have f2 : DataW.trod enc Tryz.prog w base spare held m 25 [c2] = some y2 := g2
    obtain ⟨z0, e0, _, w0⟩ := DataW.trod_int Tryz.underlying25 f0
    obtain ⟨z1, e1, _, w1⟩ := DataW.trod_int Tryz.underlying25 f1
    obtain ⟨z2, e2, _, w2⟩ := DataW.trod_int Tryz.underlying25 f2
    obtain ⟨a, rfl, ha⟩ := nat16 w0
    obtain ⟨b, rfl, hb⟩ := nat16 w1
    obtain ⟨c, rfl, hc⟩ := nat16 w2
    simp only [List.cons.injEq, and_true] at e0 e1 e2
    subst e0 e1 e2
    exact ⟨a, b, c, rfl, ha, hb, hc⟩
end
end Go.Proofs.YtcioomlhdaihkaaGreatDoor.L
