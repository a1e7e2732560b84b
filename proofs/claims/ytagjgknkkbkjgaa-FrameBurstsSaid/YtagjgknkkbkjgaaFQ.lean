/-
  The document's Get of frames: its walk.
-/
import Derived.Test.YtagjgknkkbkjgaaFP
import Derived.Test.YtagjgknkkbkjgaaOZG
namespace Go.Proofs.Ytagjgknkkbkjgaa.V
set_option linter.unusedVariables false
set_option linter.unusedSimpArgs false
set_option maxRecDepth 100000
open Go Go.RowKit Go.Maps Wire

/-- The document's Get under way. -/
structure RF (B : Nat) (w0 w : World) (g g10 : Nat) (f : FrM) (st : St) (l : List OC) : Prop where
  fr : FrAt w g f
  row : w.heap[g10]? = some (.cells (rcells st) 78 (0, 0))
  own : OwnOps (g + 1) w f.ops l
  res : w.heap[B]? = some (.cells (fc zeroF) 27 (0, 0))
  below : Below B w0 w
  hB : B < g
  hg : g < g10
theorem RF.lt {B : Nat} {w0 w : World} {g g10 : Nat} {f : FrM} {st : St} {l : List OC} (h : RF B w0 w g g10 f st l) : B ≤ w.heap.size := Nat.le_of_lt (lt_of_heap h.res)
theorem RF.over {B : Nat} {w0 w w' : World} {g g10 : Nat} {f : FrM} {st : St} {l : List OC} (h : RF B w0 w g g10 f st l) (hb : Below w.heap.size w w') : RF B w0 w' g g10 f st l :=
  ⟨h.fr.keep hb, heap_keep h.row hb, h.own.keep hb, heap_keep h.res hb, h.below.trans (hb.mono h.lt), h.hB, h.hg⟩
theorem RF.turn {B : Nat} {w0 w : World} {g g10 : Nat} {f : FrM} {st st' : St} {l : List OC} (h : RF B w0 w g g10 f st l) (a b : Value) (e : rcells st' = #[a, b]) : RF B w0 ((w.setCell ⟨g10, 0, none⟩ a).setCell ⟨g10, 1, none⟩ b) g g10 f st' l := by
  have hg := h.hg
  have hB := h.hB
  obtain ⟨X, z, hX⟩ := rcells_form st
  have hr := h.row
  rw [hX] at hr
  refine ⟨heap_n (heap_n h.fr (by omega)) (by omega), e ▸ heap_s (heap_s hr), h.own.same (fun b cs t ht hc => ?_), heap_n (heap_n h.res (by omega)) (by omega), (h.below.setCell (by show B ≤ g10; omega) _).setCell (by show B ≤ g10; omega) _, hB, hg⟩
  have hne : g10 ≠ b := fun e => by
    rw [← e, h.row] at hc
    cases hc
    rcases ht with ht | ht <;> exact absurd ht (by decide)
  exact heap_n (heap_n hc hne) hne
theorem RF.push {B : Nat} {w0 w w1 w3 : World} {g g10 : Nat} {x : Nat × Nat × Nat × List Nat} {v v3 : Value} {st : St} {l : List OC} {o : OC} (h : RF B w0 w g g10 (mkF x v) st l) (hb : Below w.heap.size w w1) (hgr : w1.grownBy w3 v.ownBlock)
    (ho : w3.ownsRow (g + 1) 50 29 v3 (l.length + 1) (flatO l ++ (oc o.1).toList)) (hx : okO o.1) (hc : ClaimsT w o.1.lv o.2) :
    FrAt w3 g (mkF x v) ∧ RF B w0 (w3.setCell ⟨g, 11, none⟩ v3) g g10 (mkF x v3) st (l ++ [o]) := by
  have hown := h.own.1.2
  have hg := h.hg
  have hB := h.hB
  have kept : ∀ (b : Nat) (cs : Array Value) (t : TypeId), t ≠ 50 → w.heap[b]? = some (.cells cs t (0, 0)) → w3.heap[b]? = some (.cells cs t (0, 0)) := fun b cs t ht hcs => by
    refine (hgr.block b (Nat.lt_of_lt_of_le (lt_of_heap hcs) hb.size) (fun e => ?_)).trans (heap_keep hcs hb)
    rcases hown with ⟨hv, _⟩ | ⟨g', cap, cur, hv, _, hgg, _⟩
    · have hv' : v = .slice none 0 0 := hv
      subst hv'
      cases e
    · have hv' : v = .slice (some ⟨g', 0, none⟩) l.length cap := hv
      subst hv'
      obtain rfl : b = g' := Option.some.inj e
      rw [hcs] at hgg
      cases hgg
      exact ht rfl
  have kf := kept _ _ _ (by decide) h.fr
  have hO3 := OwnOps.push h.own hb hgr ho hx hc
  refine ⟨kf, heap_s kf, heap_n (kept _ _ _ (by decide) h.row) (by omega), hO3.same (fun b cs t ht hcs => heap_n hcs (fun e => ?_)), heap_n (kept _ _ _ (by decide) h.res) (by omega), ?_, hB, hg⟩
  · subst e
    rw [kf] at hcs
    cases hcs
    rcases ht with ht | ht <;> exact absurd ht (by decide)
  · refine Below.setCell (h.below.trans ⟨hgr.os.trans hb.os, hgr.tape.trans hb.tape, hgr.output.trans hb.output, Nat.le_trans hb.size hgr.size, fun b hlt => ?_⟩) (by show B ≤ g; omega) _
    refine (hgr.block b (by have := h.lt; have := hb.size; omega) (fun e => ?_)).trans (hb.block b (by have := h.lt; omega))
    rcases hown with ⟨hv, _⟩ | ⟨g', cap, cur, hv, hbg, hgg, _⟩
    · have hv' : v = .slice none 0 0 := hv
      subst hv'
      cases e
    · have hv' : v = .slice (some ⟨g', 0, none⟩) l.length cap := hv
      subst hv'
      obtain rfl : b = g' := Option.some.inj e
      omega
theorem RF.rc {B : Nat} {w0 w : World} {g g10 : Nat} {f : FrM} {st : St} {l : List OC} (h : RF B w0 w g g10 f st l) {a b : Value} (e : rcells st = #[a, b]) : w.cell? ⟨g10, 0, none⟩ = some a ∧ w.cell? ⟨g10, 1, none⟩ = some b := by
  have hr := h.row
  rw [e] at hr
  exact cells2 hr
theorem RF.rfree {B : Nat} {w0 w : World} {g g10 : Nat} {f : FrM} {st : St} {l : List OC} (h : RF B w0 w g g10 f st l) (k : Nat) : w.frozen? ⟨g10, k, none⟩ = false := freeV h.row k
/-- Ahead of the loop. -/
structure RP (B : Nat) (w0 w : World) (g g8 : Nat) (X : ByteArray) (z : Bool) (cs : Array Value) : Prop where
  fr : w.heap[g]? = some (.cells cs 27 (0, 0))
  res : w.heap[B]? = some (.cells (fc zeroF) 27 (0, 0))
  row : w.heap[g8]? = some (.cells #[.string X, .bool z] 78 (0, 0))
  below : Below B w0 w
  hB : B < g
  hg : g < g8
theorem RP.store {B : Nat} {w0 w : World} {g g8 : Nat} {X : ByteArray} {z : Bool} {cs : Array Value} (h : RP B w0 w g g8 X z cs) (k : Nat) (v : Value) (cs' : Array Value) (e : cs.setIfInBounds k v = cs') : RP B w0 (w.setCell ⟨g, k, none⟩ v) g g8 X z cs' :=
  ⟨e ▸ heap_s h.fr, heap_n h.res (by have := h.hB; omega), heap_n h.row (by have := h.hg; omega), h.below.setCell (by have := h.hB; show B ≤ g; omega) _, h.hB, h.hg⟩
theorem ty_ne {w : World} {g b : Nat} {cs ds : Array Value} {t u : TypeId} (h1 : w.heap[g]? = some (.cells cs t (0, 0))) (h2 : w.heap[b]? = some (.cells ds u (0, 0))) (ne : t ≠ u) : g ≠ b := by
  intro e
  rw [e, h2] at h1
  cases h1
  exact ne rfl
theorem stB {st : St} (h : st ≠ none) : ∃ X, rcells st = #[.string X, .bool true] := by
  cases st with
  | none => exact absurd rfl h
  | some r => exact ⟨_, rfl⟩

set_option maxHeartbeats 4000000 in
theorem getF_walk (b S R : ByteArray) (hb : b.size ≤ 1000000) (k0 k1 k2 n x0 x1 x2 x3 x4 x5 x6 x7 : Nat) (s1 s2 : St) (H : Nat → St → List OC → Prop)
    (hS : 3 ≤ S.size) (hSm : S.size ≤ 1000000) (hk0 : S[0].toNat = k0) (hk1 : S[1].toNat = k1) (hk2 : S[2].toNat = k2) (hR : S.extract 3 S.size = R)
    (hop : ∀ W, Calls Try.prog 16 #[.string b] W fun e w' => e = .returned (.tuple #[.string S, .bool true]) ∧ Below W.heap.size W w')
    (hvec : ∀ W, Calls Try.prog 42 #[.agg #[.string R, .bool true]] W fun e w' => e = .returned (.tuple #[.agg #[.int .u32 (x0 : Int), .int .u32 (x1 : Int), .int .u32 (x2 : Int), .int .u32 (x3 : Int), .int .u32 (x4 : Int), .int .u32 (x5 : Int), .int .u32 (x6 : Int), .int .u32 (x7 : Int)], .agg (rcells s1)]) ∧ Below W.heap.size W w')
    (hnum : ∀ W, Calls Try.prog 43 #[.agg (rcells s1), .int .u64 64] W fun e w' => e = .returned (.tuple #[.int .u64 (n : Int), .agg (rcells s2)]) ∧ Below W.heap.size W w')
    (hn : n ≤ 64) (hsm : Small s2) (hok : ∀ v, okF (mkF (k0, k1, k2, [x0, x1, x2, x3, x4, x5, x6, x7]) v))
    (h0 : H 0 s2 [])
    (hstep : ∀ i st l u, H i st l → i < n → st ≠ none → getE (takeText st b.size).1 = 0 → H (i + 1) (takeText st b.size).2 (l ++ [(setL (getO (takeText st b.size).1) u, getL (takeText st b.size).1)]))
    (hbad : ∀ i st l, H i st l → i < n → st ≠ none → getE (takeText st b.size).1 = 5 → GetR b.data.toList zeroF [] 5)
    (hend : ∀ i st l v, H i st l → ¬ (i < n ∧ st ≠ none) → ¬ (st ≠ none ∧ (putF (mkF (k0, k1, k2, [x0, x1, x2, x3, x4, x5, x6, x7]) v) l).2 = 0 ∧ (putF (mkF (k0, k1, k2, [x0, x1, x2, x3, x4, x5, x6, x7]) v) l).1 = b.data.toList) → GetR b.data.toList zeroF [] 5)
    (hgood : ∀ l v, okF (mkF (k0, k1, k2, [x0, x1, x2, x3, x4, x5, x6, x7]) v) → (putF (mkF (k0, k1, k2, [x0, x1, x2, x3, x4, x5, x6, x7]) v) l).2 = 0 → (putF (mkF (k0, k1, k2, [x0, x1, x2, x3, x4, x5, x6, x7]) v) l).1 = b.data.toList → GetR b.data.toList (mkF (k0, k1, k2, [x0, x1, x2, x3, x4, x5, x6, x7]) v) l 0) (w : World) :
    Calls Try.prog 15 #[.string b] w
      fun e w' => ∃ f l e', e = .returned (.tuple #[.agg (fc f), .int .i64 e']) ∧ GetR b.data.toList f l e' ∧ OpsV w' f.ops l ∧ Below w.heap.size w w' := by
  have t3 : decide ((S.size : Int) < 3) = false := decide_eq_false (by omega)
  have l0 : (0 : Nat) < S.size := by omega
  have l1 : (1 : Nat) < S.size := by omega
  have l2 : (2 : Nat) < S.size := by omega
  have l3 : (3 : Int) ≤ S.size := by omega
  have i1 : (1 : Int) < S.size := by omega
  have i2 : (2 : Int) < S.size := by omega
  obtain ⟨X1, f1, hX1⟩ := rcells_form s1
  obtain ⟨X2, f2, hX2⟩ := rcells_form s2
  rw [hX1] at hvec hnum
  rw [hX2] at hnum
  have HZ := hid (heap_alloc_last' w (.cells (fc zeroF) 27))
  have HX2 := hid hX2
  have HH0 := hid h0
  have HSTEP := hid hstep
  have HBAD := hid hbad
  have HEND := hid hend
  have HGOOD := hid hgood
  have HOK := hid hok
  have HSM := hid hsm
  clear hX1 hX2 h0 hstep hbad hend hgood hok hsm
  go_enter Try.func15, Try.ntmps15
  go_upto_region 4 with (first
    | (go_at_call 16; (with_reducible refine (hop _).mono ?_); rintro e w1 ⟨rfl, hB1⟩; have HB1 := hid (below_next (below_al w _) hB1); have HZ1 := hid (heap_keep HZ.out hB1); clear hB1 hop HZ))
  go_region
  ((try simp only [Exit.inBlock, Exit.then]); refine ?_)
  go_upto_region 6 with (first
    | (go_at_call 42; (with_reducible refine (hvec _).mono ?_); rintro e w2 ⟨rfl, hB2⟩; have HB2 := hid hB2; clear hB2 hvec))
  have HB3 := hid (below_next HB1.out (below_next ((below_al w1 (.cells #[.int .u8 (k0 : Int), .int .u8 (k1 : Int), .int .u8 (k2 : Int), .int .u32 0, .int .u32 0, .int .u32 0, .int .u32 0, .int .u32 0, .int .u32 0, .int .u32 0, .int .u32 0, .slice none 0 0] 27)).trans (below_dr _ |>.mono (by simp))) HB2.out))
  have HF0 := hid (show w2.heap[w1.heap.size]? = some (.cells (fc ⟨k0, k1, k2, fun _ => 0, .slice none 0 0⟩) 27 (0, 0)) from heap_keep (show (w1.alloc (.cells #[.int .u8 (k0 : Int), .int .u8 (k1 : Int), .int .u8 (k2 : Int), .int .u32 0, .int .u32 0, .int .u32 0, .int .u32 0, .int .u32 0, .int .u32 0, .int .u32 0, .int .u32 0, .slice none 0 0] 27)).drew.heap[w1.heap.size]? = _ from heap_alloc_last' w1 _) HB2.out)
  have HZ2 := hid (heap_keep (heap_al HZ1.out _) (show Below (w1.alloc (.cells #[.int .u8 (k0 : Int), .int .u8 (k1 : Int), .int .u8 (k2 : Int), .int .u32 0, .int .u32 0, .int .u32 0, .int .u32 0, .int .u32 0, .int .u32 0, .int .u32 0, .int .u32 0, .slice none 0 0] 27)).heap.size (w1.alloc (.cells #[.int .u8 (k0 : Int), .int .u8 (k1 : Int), .int .u8 (k2 : Int), .int .u32 0, .int .u32 0, .int .u32 0, .int .u32 0, .int .u32 0, .int .u32 0, .int .u32 0, .int .u32 0, .slice none 0 0] 27)) w2 from (below_dr _).trans HB2.out))
  have HLT := hid (show w.heap.size < w1.heap.size ∧ w1.heap.size < w2.heap.size from ⟨lt_of_heap HZ1.out, lt_of_heap HF0.out⟩)
  have HP0 := hid (show RP w.heap.size w ((w2.alloc (.cells #[.int .u32 (x0 : Int), .int .u32 (x1 : Int), .int .u32 (x2 : Int), .int .u32 (x3 : Int), .int .u32 (x4 : Int), .int .u32 (x5 : Int), .int .u32 (x6 : Int), .int .u32 (x7 : Int)] 24)).alloc (.cells #[.string X1, .bool f1] 78)) w1.heap.size (w2.heap.size + 1) X1 f1 #[.int .u8 (k0 : Int), .int .u8 (k1 : Int), .int .u8 (k2 : Int), .int .u32 0, .int .u32 0, .int .u32 0, .int .u32 0, .int .u32 0, .int .u32 0, .int .u32 0, .int .u32 0, .slice none 0 0] from ⟨heap_al (heap_al HF0.out _) _, heap_al (heap_al HZ2.out _) _, last2 w2 _ _, below_next HB3.out (below_al2 w2 _ _), HLT.out.1, by have := HLT.out.2; omega⟩)
  have HF := hid HP0.out.fr
  have H7 := hid (show ((w2.alloc (.cells #[.int .u32 (x0 : Int), .int .u32 (x1 : Int), .int .u32 (x2 : Int), .int .u32 (x3 : Int), .int .u32 (x4 : Int), .int .u32 (x5 : Int), .int .u32 (x6 : Int), .int .u32 (x7 : Int)] 24)).alloc (.cells #[.string X1, .bool f1] 78)).heap[w2.heap.size]? = some (.cells #[.int .u32 (x0 : Int), .int .u32 (x1 : Int), .int .u32 (x2 : Int), .int .u32 (x3 : Int), .int .u32 (x4 : Int), .int .u32 (x5 : Int), .int .u32 (x6 : Int), .int .u32 (x7 : Int)] 24 (0, 0)) from heap_al (heap_alloc_last' _ _) _)
  generalize ((w2.alloc (.cells #[.int .u32 (x0 : Int), .int .u32 (x1 : Int), .int .u32 (x2 : Int), .int .u32 (x3 : Int), .int .u32 (x4 : Int), .int .u32 (x5 : Int), .int .u32 (x6 : Int), .int .u32 (x7 : Int)] 24)).alloc (.cells #[.string X1, .bool f1] 78)) = V at HF HP0 H7 ⊢
  generalize w2.heap.size = g7 at H7 HP0 HLT ⊢
  clear HB2 HB1 HZ1 HB3 HF0 HZ2
  generalize w1.heap.size = g at HF HP0 HLT ⊢
  have d0 := (cell_of_heap (j := 0) H7.out).trans (show _ = some (.int .u32 (x0 : Int)) from rfl); have d1 := (cell_of_heap (j := 1) H7.out).trans (show _ = some (.int .u32 (x1 : Int)) from rfl); have d2 := (cell_of_heap (j := 2) H7.out).trans (show _ = some (.int .u32 (x2 : Int)) from rfl); have d3 := (cell_of_heap (j := 3) H7.out).trans (show _ = some (.int .u32 (x3 : Int)) from rfl); have d4 := (cell_of_heap (j := 4) H7.out).trans (show _ = some (.int .u32 (x4 : Int)) from rfl); have d5 := (cell_of_heap (j := 5) H7.out).trans (show _ = some (.int .u32 (x5 : Int)) from rfl); have d6 := (cell_of_heap (j := 6) H7.out).trans (show _ = some (.int .u32 (x6 : Int)) from rfl); have d7 := (cell_of_heap (j := 7) H7.out).trans (show _ = some (.int .u32 (x7 : Int)) from rfl)
  have c3 := (cell_of_heap (j := 3) HF.out).trans (show _ = some (.int .u32 0) from rfl); have c4 := (cell_of_heap (j := 4) HF.out).trans (show _ = some (.int .u32 0) from rfl); have c5 := (cell_of_heap (j := 5) HF.out).trans (show _ = some (.int .u32 0) from rfl); have c6 := (cell_of_heap (j := 6) HF.out).trans (show _ = some (.int .u32 0) from rfl); have c7 := (cell_of_heap (j := 7) HF.out).trans (show _ = some (.int .u32 0) from rfl); have c8 := (cell_of_heap (j := 8) HF.out).trans (show _ = some (.int .u32 0) from rfl); have c9 := (cell_of_heap (j := 9) HF.out).trans (show _ = some (.int .u32 0) from rfl); have c10 := (cell_of_heap (j := 10) HF.out).trans (show _ = some (.int .u32 0) from rfl)
  have zf := fun k => freeV HF.out k
  go_upto_region 7 with (fail)
  have HP5 := hid (show RP w.heap.size w ((((((((V.setCell ⟨g, 3, none⟩ (.int .u32 (x0 : Int))).setCell ⟨g, 4, none⟩ (.int .u32 (x1 : Int))).setCell ⟨g, 5, none⟩ (.int .u32 (x2 : Int))).setCell ⟨g, 6, none⟩ (.int .u32 (x3 : Int))).setCell ⟨g, 7, none⟩ (.int .u32 (x4 : Int))).setCell ⟨g, 8, none⟩ (.int .u32 (x5 : Int))).setCell ⟨g, 9, none⟩ (.int .u32 (x6 : Int))).setCell ⟨g, 10, none⟩ (.int .u32 (x7 : Int))) g (g7 + 1) X1 f1 #[.int .u8 (k0 : Int), .int .u8 (k1 : Int), .int .u8 (k2 : Int), .int .u32 (x0 : Int), .int .u32 (x1 : Int), .int .u32 (x2 : Int), .int .u32 (x3 : Int), .int .u32 (x4 : Int), .int .u32 (x5 : Int), .int .u32 (x6 : Int), .int .u32 (x7 : Int), .slice none 0 0] from ((((((((HP0.out.store 3 (.int .u32 (x0 : Int)) #[.int .u8 (k0 : Int), .int .u8 (k1 : Int), .int .u8 (k2 : Int), .int .u32 (x0 : Int), .int .u32 0, .int .u32 0, .int .u32 0, .int .u32 0, .int .u32 0, .int .u32 0, .int .u32 0, .slice none 0 0] rfl).store 4 (.int .u32 (x1 : Int)) #[.int .u8 (k0 : Int), .int .u8 (k1 : Int), .int .u8 (k2 : Int), .int .u32 (x0 : Int), .int .u32 (x1 : Int), .int .u32 0, .int .u32 0, .int .u32 0, .int .u32 0, .int .u32 0, .int .u32 0, .slice none 0 0] rfl).store 5 (.int .u32 (x2 : Int)) #[.int .u8 (k0 : Int), .int .u8 (k1 : Int), .int .u8 (k2 : Int), .int .u32 (x0 : Int), .int .u32 (x1 : Int), .int .u32 (x2 : Int), .int .u32 0, .int .u32 0, .int .u32 0, .int .u32 0, .int .u32 0, .slice none 0 0] rfl).store 6 (.int .u32 (x3 : Int)) #[.int .u8 (k0 : Int), .int .u8 (k1 : Int), .int .u8 (k2 : Int), .int .u32 (x0 : Int), .int .u32 (x1 : Int), .int .u32 (x2 : Int), .int .u32 (x3 : Int), .int .u32 0, .int .u32 0, .int .u32 0, .int .u32 0, .slice none 0 0] rfl).store 7 (.int .u32 (x4 : Int)) #[.int .u8 (k0 : Int), .int .u8 (k1 : Int), .int .u8 (k2 : Int), .int .u32 (x0 : Int), .int .u32 (x1 : Int), .int .u32 (x2 : Int), .int .u32 (x3 : Int), .int .u32 (x4 : Int), .int .u32 0, .int .u32 0, .int .u32 0, .slice none 0 0] rfl).store 8 (.int .u32 (x5 : Int)) #[.int .u8 (k0 : Int), .int .u8 (k1 : Int), .int .u8 (k2 : Int), .int .u32 (x0 : Int), .int .u32 (x1 : Int), .int .u32 (x2 : Int), .int .u32 (x3 : Int), .int .u32 (x4 : Int), .int .u32 (x5 : Int), .int .u32 0, .int .u32 0, .slice none 0 0] rfl).store 9 (.int .u32 (x6 : Int)) #[.int .u8 (k0 : Int), .int .u8 (k1 : Int), .int .u8 (k2 : Int), .int .u32 (x0 : Int), .int .u32 (x1 : Int), .int .u32 (x2 : Int), .int .u32 (x3 : Int), .int .u32 (x4 : Int), .int .u32 (x5 : Int), .int .u32 (x6 : Int), .int .u32 0, .slice none 0 0] rfl).store 10 (.int .u32 (x7 : Int)) #[.int .u8 (k0 : Int), .int .u8 (k1 : Int), .int .u8 (k2 : Int), .int .u32 (x0 : Int), .int .u32 (x1 : Int), .int .u32 (x2 : Int), .int .u32 (x3 : Int), .int .u32 (x4 : Int), .int .u32 (x5 : Int), .int .u32 (x6 : Int), .int .u32 (x7 : Int), .slice none 0 0] rfl))
  generalize ((((((((V.setCell ⟨g, 3, none⟩ (.int .u32 (x0 : Int))).setCell ⟨g, 4, none⟩ (.int .u32 (x1 : Int))).setCell ⟨g, 5, none⟩ (.int .u32 (x2 : Int))).setCell ⟨g, 6, none⟩ (.int .u32 (x3 : Int))).setCell ⟨g, 7, none⟩ (.int .u32 (x4 : Int))).setCell ⟨g, 8, none⟩ (.int .u32 (x5 : Int))).setCell ⟨g, 9, none⟩ (.int .u32 (x6 : Int))).setCell ⟨g, 10, none⟩ (.int .u32 (x7 : Int))) = W5 at HP5 ⊢
  clear d0 d1 d2 d3 d4 d5 d6 d7 c3 c4 c5 c6 c7 c8 c9 c10 zf HF HP0 H7
  have r0 := (cells2 HP5.out.row).1
  have r1 := (cells2 HP5.out.row).2
  go_upto_region 8 with (first
    | (go_at_call 43; (with_reducible refine (hnum _).mono ?_); rintro e w3 ⟨rfl, hB3⟩; have HB6 := hid hB3; clear hB3 hnum))
  have HRF := hid (show RF w.heap.size w (w3.alloc (.cells #[.string X2, .bool f2] 78)) g w3.heap.size (mkF (k0, k1, k2, [x0, x1, x2, x3, x4, x5, x6, x7]) (.slice none 0 0)) s2 [] from
    ⟨(FrAt.keep (f := mkF (k0, k1, k2, [x0, x1, x2, x3, x4, x5, x6, x7]) (.slice none 0 0)) HP5.out.fr HB6.out).al _, HX2.out ▸ heap_alloc_last' _ _, OwnOps.nil _ _, heap_al (heap_keep HP5.out.res HB6.out) _, below_next HP5.out.below (below_next HB6.out (below_al w3 _)), HP5.out.hB, lt_of_heap (heap_keep HP5.out.fr HB6.out)⟩)
  generalize w3.alloc (.cells #[.string X2, .bool f2] 78) = W6 at HRF ⊢
  generalize w3.heap.size = g10 at HRF ⊢
  clear HP5 HB6 HLT HX2 r0 r1
  go_upto_region 9 with (fail)
  go_loopw [11] (fun i wr => ∃ (k : Nat) (st : St) (v : Value) (l : List OC), k ≤ n ∧ i = .int .u64 (k : Int) ∧ RF w.heap.size w wr g g10 (mkF (k0, k1, k2, [x0, x1, x2, x3, x4, x5, x6, x7]) v) st l ∧ H k st l ∧ l.length = k ∧ Small st) (fun i _ => n - (intOf i).toNat)
  case atStart => exact ⟨0, s2, _, [], by omega, rfl, HRF.out, HH0.out, rfl, HSM.out⟩
  case round =>
    obtain ⟨k, st, v, l, hkn, rfl, hRF, hH, hlk, hst⟩ := hrel
    clear HRF HH0 HSM
    have HR := hid hRF
    have HH := hid hH
    have HLK := hid (And.intro hkn hlk)
    have HST := hid hst
    clear hRF hH hkn hlk hst
    by_cases hlt : k < n
    · by_cases hne : st = none
      · have hst0 := hne
        subst hst0
        have hX : rcells (none : St) = #[.string ⟨#[]⟩, .bool false] := rfl
        have hput := ref_PutF (mkF (k0, k1, k2, [x0, x1, x2, x3, x4, x5, x6, x7]) v) (HOK.out v) l wr HR.out.own.opsV
        have HNO := hid (HEND.out k none l v HH.out (fun h => h.2 rfl) (fun h => h.1 rfl))
        generalize (putF (mkF (k0, k1, k2, [x0, x1, x2, x3, x4, x5, x6, x7]) v) l).1 = ps at hput
        generalize (putF (mkF (k0, k1, k2, [x0, x1, x2, x3, x4, x5, x6, x7]) v) l).2 = pe at hput
        have t1 : decide ((k : Int) < (n : Int)) = true := decide_eq_true (by omega)
        have r0 := (HR.out.rc hX).1
        have r1 := (HR.out.rc hX).2
        go_wp2_with (first
          | (refine load_fr _ rfl (by kernel_rfl) g rfl _ HR.out.fr ?_)
          | (go_at_call 9; (with_reducible refine hput.mono ?_); rintro e wp ⟨rfl, hBp⟩; have HP := hid (HR.out.over hBp); have q0 := (HP.out.rc hX).1; have q1 := (HP.out.rc hX).2; clear hBp r0 r1 hput)
          | (refine wpList_store_row rfl _ _ _ rfl w.heap.size (fc zeroF) rfl rfl 27 (fc zeroF) ?_ (frSize _) rfl (oneF zeroF rfl) ?_; (focus exact HP.out.res)))
        ((try simp only [Exit.inBlock, Exit.then]); refine bodyPost_ret (results_row_tmp rfl _ _ w.heap.size 27 (fc zeroF) (0, 0) _ _ rfl rfl (setRow_heap _ _ _ _ _ _ HP.out.res) Try.underlying27 rfl (frSize _)) rfl ?_)
        exact ⟨zeroF, [], 5, rfl, HNO.out, OpsV.nil _, below_row HP.out.below (Nat.le_refl _) _⟩
      · obtain ⟨X, hX⟩ := stB hne
        have HX := hid hX
        have HNE := hid hne
        have HLT := hid hlt
        have t1 : decide ((k : Int) < (n : Int)) = true := decide_eq_true (by omega)
        have r0 := (HR.out.rc HX.out).1
        have r1 := (HR.out.rc HX.out).2
        have hT := fun W => ref_TakeText st HST.out b.size (by omega) (by omega) W
        have hG := fun W => ref_Get (ba (takeText st b.size).1) (by rw [ba_size]; exact takeText_len HST.out _) W
        rw [ba_list] at hG
        have HSTEP' := hid (fun u => HSTEP.out k st l u HH.out hlt hne)
        have HBAD' := hid (HBAD.out k st l HH.out hlt hne)
        have HST' := hid (small_takeText HST.out b.size)
        obtain ⟨Y, f', hY⟩ := rcells_form (takeText st b.size).2
        rw [hX, hY] at hT
        have HY := hid hY
        generalize (takeText st b.size).2 = st' at HSTEP' HST' HY
        generalize (takeText st b.size).1 = tx at HSTEP' HBAD' hG hT
        clear hX hne hlt hY
        go_upto_region 12 with (first
          | (go_at_call 44; (with_reducible refine (hT _).mono ?_); rintro e wa ⟨rfl, hBa⟩; have HBa := hid hBa; clear hBa hT))
        have HRa := hid (HR.out.over (below_next HBa.out (below_al wa (.cells #[.string Y, .bool f'] 78))))
        have HWa := hid (below_next HBa.out (below_al wa (.cells #[.string Y, .bool f'] 78)))
        have H13 := hid (heap_alloc_last' wa (.cells #[.string Y, .bool f'] 78))
        generalize wa.alloc (.cells #[.string Y, .bool f'] 78) = Wa at HRa H13 HWa ⊢
        generalize wa.heap.size = g13 at H13 ⊢
        clear HBa HR r0 r1
        go_upto_region 13 with (first
          | (go_at_call 45; (with_reducible refine (hG _).mono ?_); rintro e wb ⟨u, rfl, hC, hBb⟩; have HBb := hid hBb; obtain ⟨q, hq⟩ : ∃ q, setL (getO tx) u = q := ⟨_, rfl⟩; rw [hq]; have HQ := hid hq; have HCb := hid (show ClaimsT wb q.lv (getL tx) from by rw [← hq]; exact hC); have HUq := hid (show q.lv.oneCell' = true from hq ▸ ClaimsV.one hC.1); clear hBb hC hG hq)
          | (refine wpList_store_row rfl _ _ _ rfl wb.heap.size (oc q) rfl rfl 50 (oc zeroO) ?_ (opSize _) rfl (oneO _ HUq.out) ?_; (focus exact heap_alloc_last' _ _)))
        have HB14 := hid (below_next HBb.out (below_row (below_al wb (.cells #[.int .u8 0, .int .u32 0, .int .u32 0, .int .u32 0, .int .u32 0, .int .u32 0, .int .u32 0, .int .u32 0, .int .u32 0, .int .u32 0, .int .u64 0, .int .u32 0, .int .u8 0, .int .u32 0, .int .u8 0, .int .u8 0, .int .u32 0, .int .u32 0, .int .u8 0, .int .u8 0, .int .u64 0, .int .u8 0, .int .u32 0, .int .u8 0, .int .u32 0, .int .u32 0, .int .u32 0, .int .u32 0, .slice none 0 0] 50)) (Nat.le_refl _) (oc q)))
        have HRb := hid (HRa.out.over HB14.out)
        have H14 := hid (show OpAt ((wb.alloc (.cells #[.int .u8 0, .int .u32 0, .int .u32 0, .int .u32 0, .int .u32 0, .int .u32 0, .int .u32 0, .int .u32 0, .int .u32 0, .int .u32 0, .int .u64 0, .int .u32 0, .int .u8 0, .int .u32 0, .int .u8 0, .int .u8 0, .int .u32 0, .int .u32 0, .int .u8 0, .int .u8 0, .int .u64 0, .int .u8 0, .int .u32 0, .int .u8 0, .int .u32 0, .int .u32 0, .int .u32 0, .int .u32 0, .slice none 0 0] 50)).setRow wb.heap.size (oc q)) wb.heap.size q from setRow_heap _ _ _ _ _ _ (heap_alloc_last' _ _))
        have H13b := hid (heap_keep H13.out HB14.out)
        have HCc := hid (show ClaimsT ((wb.alloc (.cells #[.int .u8 0, .int .u32 0, .int .u32 0, .int .u32 0, .int .u32 0, .int .u32 0, .int .u32 0, .int .u32 0, .int .u32 0, .int .u32 0, .int .u64 0, .int .u32 0, .int .u8 0, .int .u32 0, .int .u8 0, .int .u8 0, .int .u32 0, .int .u32 0, .int .u8 0, .int .u8 0, .int .u64 0, .int .u8 0, .int .u32 0, .int .u8 0, .int .u32 0, .int .u32 0, .int .u32 0, .int .u32 0, .slice none 0 0] 50)).setRow wb.heap.size (oc q)) q.lv (getL tx) from (HCb.out.typ (fun b cs hc => heap_keep hc (below_row (below_al wb (.cells #[.int .u8 0, .int .u32 0, .int .u32 0, .int .u32 0, .int .u32 0, .int .u32 0, .int .u32 0, .int .u32 0, .int .u32 0, .int .u32 0, .int .u64 0, .int .u32 0, .int .u8 0, .int .u32 0, .int .u8 0, .int .u8 0, .int .u32 0, .int .u32 0, .int .u8 0, .int .u8 0, .int .u64 0, .int .u8 0, .int .u32 0, .int .u8 0, .int .u32 0, .int .u32 0, .int .u32 0, .int .u32 0, .slice none 0 0] 50)) (Nat.le_refl _) (oc q)))))
        generalize (wb.alloc (.cells #[.int .u8 0, .int .u32 0, .int .u32 0, .int .u32 0, .int .u32 0, .int .u32 0, .int .u32 0, .int .u32 0, .int .u32 0, .int .u32 0, .int .u64 0, .int .u32 0, .int .u8 0, .int .u32 0, .int .u8 0, .int .u8 0, .int .u32 0, .int .u32 0, .int .u8 0, .int .u8 0, .int .u64 0, .int .u8 0, .int .u32 0, .int .u8 0, .int .u32 0, .int .u32 0, .int .u32 0, .int .u32 0, .slice none 0 0] 50)).setRow wb.heap.size (oc q) = Wb at HRb H14 H13b HCc ⊢
        generalize wb.heap.size = g14 at H14 ⊢
        clear HB14 HBb HCb HRa H13
        have h5 : getE tx = 0 ∨ getE tx = 5 := endOf_vals _
        rcases h5 with hE | hE
        · rw [hE]
          have HE := hid hE
          clear hE
          have HOKq := hid (show okO q from HQ.out ▸ { (getE_zero HE.out).2.1 with })
          obtain ⟨pv, cv, hv⟩ := HRb.out.own.form
          have hv' : v = .slice pv l.length cv := hv
          subst hv'
          have y0 := (cells2 H13b.out).1
          have y1 := (cells2 H13b.out).2
          have z0 := (HRb.out.rc HX.out).1
          have z1 := (HRb.out.rc HX.out).2
          have zf := fun k => HRb.out.rfree k
          go_upto_region 16 with (fail)
          have HRc := hid (HRb.out.turn (.string Y) (.bool f') HY.out)
          have hne : g10 ≠ g14 := ty_ne HRb.out.row (show Wb.heap[g14]? = _ from H14.out) (by decide)
          have H14c := hid (show OpAt ((Wb.setCell ⟨g10, 0, none⟩ (.string Y)).setCell ⟨g10, 1, none⟩ (.bool f')) g14 q from heap_n (heap_n H14.out hne) hne)
          have HCd := hid (show ClaimsT ((Wb.setCell ⟨g10, 0, none⟩ (.string Y)).setCell ⟨g10, 1, none⟩ (.bool f')) q.lv (getL tx) from HCc.out.typ (fun b cs hc => heap_n (heap_n hc (ty_ne HRb.out.row hc (by decide))) (ty_ne HRb.out.row hc (by decide))))
          generalize (Wb.setCell ⟨g10, 0, none⟩ (.string Y)).setCell ⟨g10, 1, none⟩ (.bool f') = Wc at HRc H14c HCd ⊢
          clear HRb H14 HCc H13b y0 y1 z0 z1 zf hne
          have hpush := fun w2 w3 v3 => RF.push (w1 := w2) (w3 := w3) (v3 := v3) (v := .slice pv l.length cv) (o := (q, getL tx)) HRc.out
          have HPU := hid hpush
          have HOWN := hid HRc.out.own.1
          have c11 := (HRc.out.fr.cell 11).trans (show _ = some (.slice pv l.length cv) from rfl)
          obtain ⟨i0, hi, hz0, hz1, hz2⟩ := info_parts infoOp
          have hlen : l.length ≤ 63 := by have := HLK.out.2; have := HLT.out; omega
          have hsz : g < Wc.heap.size := lt_of_heap HRc.out.fr
          have HSZ := hid hsz
          clear hpush hsz
          go_wp2_with (first
            | (refine load_op2 _ rfl (by kernel_rfl) g14 rfl q H14c.out ?_)
            | (refine build_op rfl _ rfl q rfl ?_)
            | (at_builtin; refine wpList_append_own _ rfl (.tmp 78) (.tmp 80) 25 rfl (g + 1) 50 i0 (.agg (oc zeroO)) 29 144 Try.underlying25 hi hz0 hz1 hz2 rfl (by decide) (.slice pv l.length cv) _ _ rfl (HOWN.out.alloc _) ⟨Wc.heap.size, 0, none⟩ 1 1 (oc q).toList rfl rfl (cells_newO _ _ _ rfl) (one_op q HUq.out) (by unfold maxLen; omega) (by omega) (by have := HSZ.out; simp; omega) ?_; intro v3 w3 hown3 hgr _; have HX3 := hid (HPU.out (Wc.alloc (.cells (oc q) 50)) w3 v3 (below_al _ _) hgr hown3 HOKq.out HCd.out); obtain ⟨p3, q3, hv3⟩ := (show ∃ p c, v3 = .slice p (l.length + 1) c from by rcases hown3.2 with ⟨_, e⟩ | ⟨_, _, _, rfl, _⟩ <;> first | omega | exact ⟨_, _, rfl⟩); subst hv3; have b0 := (HX3.out.1.cell 11).trans (show _ = some (.slice pv l.length cv) from rfl); have b1 := freeV HX3.out.1 11; clear hown3 hgr c11))
          go_roundw
          case rel => exact ⟨k + 1, st', _, _, by have := HLT.out; omega, by go_num, HX3.out.2, HQ.out ▸ HSTEP'.out u HE.out, by rw [List.length_append, HLK.out.2]; rfl, HST'.out⟩
          case measure => simp [intOf]; have := HLT.out; omega
        · rw [hE]
          have HE := hid hE
          clear hE
          go_wp2_with (first
            | (refine wpList_store_row rfl _ _ _ rfl w.heap.size (fc zeroF) rfl rfl 27 (fc zeroF) ?_ (frSize _) rfl (oneF zeroF rfl) ?_; (focus exact HRb.out.res)))
          ((try simp only [Exit.inBlock, Exit.then]); refine bodyPost_ret (results_row_tmp rfl _ _ w.heap.size 27 (fc zeroF) (0, 0) _ _ rfl rfl (setRow_heap _ _ _ _ _ _ HRb.out.res) Try.underlying27 rfl (frSize _)) rfl ?_)
          exact ⟨zeroF, [], 5, rfl, HBAD'.out HE.out, OpsV.nil _, below_row HRb.out.below (Nat.le_refl _) _⟩
    · have hkn : k = n := by have := HLK.out.1; omega
      have t1 : decide ((k : Int) < (n : Int)) = false := decide_eq_false (by omega)
      have HLTF := hid hlt
      by_cases hne : st = none
      · have hst0 := hne
        subst hst0
        have hX : rcells (none : St) = #[.string ⟨#[]⟩, .bool false] := rfl
        have hput := ref_PutF (mkF (k0, k1, k2, [x0, x1, x2, x3, x4, x5, x6, x7]) v) (HOK.out v) l wr HR.out.own.opsV
        have HNO := hid (HEND.out k none l v HH.out (fun h => h.2 rfl) (fun h => h.1 rfl))
        generalize (putF (mkF (k0, k1, k2, [x0, x1, x2, x3, x4, x5, x6, x7]) v) l).1 = ps at hput
        generalize (putF (mkF (k0, k1, k2, [x0, x1, x2, x3, x4, x5, x6, x7]) v) l).2 = pe at hput
        skip
        have r0 := (HR.out.rc hX).1
        have r1 := (HR.out.rc hX).2
        go_wp2_with (first
          | (refine load_fr _ rfl (by kernel_rfl) g rfl _ HR.out.fr ?_)
          | (go_at_call 9; (with_reducible refine hput.mono ?_); rintro e wp ⟨rfl, hBp⟩; have HP := hid (HR.out.over hBp); have q0 := (HP.out.rc hX).1; have q1 := (HP.out.rc hX).2; clear hBp r0 r1 hput)
          | (refine wpList_store_row rfl _ _ _ rfl w.heap.size (fc zeroF) rfl rfl 27 (fc zeroF) ?_ (frSize _) rfl (oneF zeroF rfl) ?_; (focus exact HP.out.res)))
        ((try simp only [Exit.inBlock, Exit.then]); refine bodyPost_ret (results_row_tmp rfl _ _ w.heap.size 27 (fc zeroF) (0, 0) _ _ rfl rfl (setRow_heap _ _ _ _ _ _ HP.out.res) Try.underlying27 rfl (frSize _)) rfl ?_)
        exact ⟨zeroF, [], 5, rfl, HNO.out, OpsV.nil _, below_row HP.out.below (Nat.le_refl _) _⟩
      · obtain ⟨X, hX⟩ := stB hne
        have HX := hid hX
        have hput := ref_PutF (mkF (k0, k1, k2, [x0, x1, x2, x3, x4, x5, x6, x7]) v) (HOK.out v) l wr HR.out.own.opsV
        have r0 := (HR.out.rc HX.out).1
        have r1 := (HR.out.rc HX.out).2
        have hend := HEND.out k st l v HH.out (fun h => hlt h.1)
        have hgood := HGOOD.out l v (HOK.out v)
        clear hX
        unfold putF at hput hend hgood
        cases hm : mayF (mkF (k0, k1, k2, [x0, x1, x2, x3, x4, x5, x6, x7]) v) l with
        | false =>
          rw [hm] at hput hend hgood
          rw [if_neg (by decide)] at hput hend hgood
          have HNO := hid (hend (fun h => absurd h.2.1 (by decide)))
          clear hend hgood hm hne hlt
          skip
          go_wp2_with (first
            | (refine load_fr _ rfl (by kernel_rfl) g rfl _ HR.out.fr ?_)
            | (go_at_call 9; (with_reducible refine hput.mono ?_); rintro e wp ⟨rfl, hBp⟩; have HP := hid (HR.out.over hBp); have q0 := (HP.out.rc HX.out).1; have q1 := (HP.out.rc HX.out).2; clear hBp r0 r1 hput)
            | (refine load_fr _ rfl (by kernel_rfl) g rfl _ HP.out.fr ?_)
            | (refine wpList_store_row rfl _ _ _ rfl w.heap.size (fc zeroF) rfl rfl 27 (fc zeroF) ?_ (frSize _) rfl (oneF zeroF rfl) ?_; (focus exact HP.out.res)))
          ((try simp only [Exit.inBlock, Exit.then]); refine bodyPost_ret (results_row_tmp rfl _ _ w.heap.size 27 (fc zeroF) (0, 0) _ _ rfl rfl (setRow_heap _ _ _ _ _ _ HP.out.res) Try.underlying27 rfl (frSize _)) rfl ?_)
          exact ⟨zeroF, [], 5, rfl, HNO.out, OpsV.nil _, below_row HP.out.below (Nat.le_refl _) _⟩
        | true =>
          rw [hm] at hput hend hgood
          rw [if_pos rfl] at hput hend hgood
          dsimp only at hput hend hgood
          by_cases hc : Crc.sealed (encF (mkF (k0, k1, k2, [x0, x1, x2, x3, x4, x5, x6, x7]) v) l) = b.data.toList
          · have HYES := hid (hgood rfl hc)
            have t2 : ((ba (Crc.sealed (encF (mkF (k0, k1, k2, [x0, x1, x2, x3, x4, x5, x6, x7]) v) l))).toList == b.toList) = true := by rw [beq_lists, ba_list]; exact decide_eq_true hc
            generalize ba (Crc.sealed (encF (mkF (k0, k1, k2, [x0, x1, x2, x3, x4, x5, x6, x7]) v) l)) = sb at hput t2
            clear hend hgood hm hne hlt hc
            skip
            go_wp2_with (first
              | (refine load_fr _ rfl (by kernel_rfl) g rfl _ HR.out.fr ?_)
              | (go_at_call 9; (with_reducible refine hput.mono ?_); rintro e wp ⟨rfl, hBp⟩; have HP := hid (HR.out.over hBp); have q0 := (HP.out.rc HX.out).1; have q1 := (HP.out.rc HX.out).2; clear hBp r0 r1 hput)
              | (refine load_fr _ rfl (by kernel_rfl) g rfl _ HP.out.fr ?_)
              | (refine wpList_store_row rfl _ _ _ rfl w.heap.size (fc (mkF (k0, k1, k2, [x0, x1, x2, x3, x4, x5, x6, x7]) v)) rfl rfl 27 (fc zeroF) ?_ (frSize _) rfl (oneF (mkF (k0, k1, k2, [x0, x1, x2, x3, x4, x5, x6, x7]) v) HR.out.own.opsV.one) ?_; (focus exact HP.out.res)))
            ((try simp only [Exit.inBlock, Exit.then]); refine bodyPost_ret (results_row_tmp rfl _ _ w.heap.size 27 (fc (mkF (k0, k1, k2, [x0, x1, x2, x3, x4, x5, x6, x7]) v)) (0, 0) _ _ rfl rfl (setRow_heap _ _ _ _ _ _ HP.out.res) Try.underlying27 rfl (frSize _)) rfl ?_)
            exact ⟨(mkF (k0, k1, k2, [x0, x1, x2, x3, x4, x5, x6, x7]) v), l, 0, rfl, HYES.out, (HP.out.own.same (fun b cs t ht hc => row_ne hc (ty_ne HP.out.res hc (fun e => by rcases ht with h | h <;> exact absurd (e.trans h) (by decide))))).opsV, below_row HP.out.below (Nat.le_refl _) _⟩
          · have HNO := hid (hend (fun h => hc h.2.2))
            have t2 : ((ba (Crc.sealed (encF (mkF (k0, k1, k2, [x0, x1, x2, x3, x4, x5, x6, x7]) v) l))).toList == b.toList) = false := by rw [beq_lists, ba_list]; exact decide_eq_false hc
            generalize ba (Crc.sealed (encF (mkF (k0, k1, k2, [x0, x1, x2, x3, x4, x5, x6, x7]) v) l)) = sb at hput t2
            clear hend hgood hm hne hlt hc
            skip
            go_wp2_with (first
              | (refine load_fr _ rfl (by kernel_rfl) g rfl _ HR.out.fr ?_)
              | (go_at_call 9; (with_reducible refine hput.mono ?_); rintro e wp ⟨rfl, hBp⟩; have HP := hid (HR.out.over hBp); have q0 := (HP.out.rc HX.out).1; have q1 := (HP.out.rc HX.out).2; clear hBp r0 r1 hput)
              | (refine load_fr _ rfl (by kernel_rfl) g rfl _ HP.out.fr ?_)
              | (refine wpList_store_row rfl _ _ _ rfl w.heap.size (fc zeroF) rfl rfl 27 (fc zeroF) ?_ (frSize _) rfl (oneF zeroF rfl) ?_; (focus exact HP.out.res)))
            ((try simp only [Exit.inBlock, Exit.then]); refine bodyPost_ret (results_row_tmp rfl _ _ w.heap.size 27 (fc zeroF) (0, 0) _ _ rfl rfl (setRow_heap _ _ _ _ _ _ HP.out.res) Try.underlying27 rfl (frSize _)) rfl ?_)
            exact ⟨zeroF, [], 5, rfl, HNO.out, OpsV.nil _, below_row HP.out.below (Nat.le_refl _) _⟩
end Go.Proofs.Ytagjgknkkbkjgaa.V
