/-
  The document's Take.
-/
import Derived.Test.YtagjgknkkbkjgaaOOrd
import Derived.Test.YtagjgknkkbkjgaaJU
import Derived.StillTailTactics
namespace Go.Proofs.Ytagjgknkkbkjgaa.V
set_option linter.unusedVariables false
set_option linter.unusedSimpArgs false
set_option maxRecDepth 100000
open Go Go.RowKit Go.Maps Wire

set_option maxRecDepth 100000
set_option linter.unusedVariables false
set_option linter.unusedSimpArgs false
theorem below_al3 (w : World) (a b c : Obj) : Below w.heap.size w (((w.alloc a).alloc b).alloc c) := below_next (below_al2 w a b) (below_al _ c)
theorem below_al4 (w : World) (a b c d : Obj) : Below w.heap.size w ((((w.alloc a).alloc b).alloc c).alloc d) := below_next (below_al3 w a b c) (below_al _ d)
theorem heap_last_n (w : World) (o : Obj) (n : Nat) (h : n = w.heap.size) : (w.alloc o).heap[n]? = some o := h ▸ heap_alloc_last' w o
theorem owns_cells {w : World} {B n : Nat} {v : Value} {l : List Nat} (h : w.ownsRow B 47 1 v n (numV l)) (hl : l.length = n) (hn : 0 < n) :
    ∃ g cap, v = .slice (some ⟨g, 0, none⟩) n cap ∧ (∃ cur, w.heap[g]? = some (.cells cur 47 (0, 0))) ∧ ∀ (i m : Nat), l[i]? = some m → w.cell? ⟨g, i, none⟩ = some (.int .u64 (m : Int)) := by
  rcases h.2 with ⟨_, rfl⟩ | ⟨g, cap, cur, rfl, hB, hgg, hc, hm, hs, ht⟩
  · omega
  · refine ⟨g, cap, rfl, ⟨cur, hgg⟩, fun i m hi => ?_⟩
    have hlt := (List.getElem?_eq_some_iff.1 hi).1
    rw [cell_of_heap hgg]
    have e : (numV l)[i]? = some (.int .u64 (m : Int)) := by simp [numV, hi]
    rw [← ht, List.getElem?_take, if_pos (by omega)] at e
    simpa using e

def ClaimsF (B : Nat) (w : World) (v : Value) (l : List Claim) : Prop := ClaimsT w v l ∧ ∀ a n c, v = .slice (some a) n c → B ≤ a.block
theorem ClaimsF.nil (B : Nat) (w : World) : ClaimsF B w (.slice none 0 0) [] := ⟨ClaimsT.nil w, fun a n c h => by cases h⟩
theorem owns_claimsF {W : World} {B base : Nat} {v : Value} {l : List Claim} (h : W.ownsRow base 92 4 v l.length (flatC l)) (hok : ∀ x ∈ l, Claim.ok x) (hb : B ≤ base) : ClaimsF B W v l := by
  refine ⟨owns_claimsT h hok, fun a n c e => ?_⟩
  rcases h.2 with ⟨rfl, _⟩ | ⟨g', cap, cur, rfl, hB, _⟩
  · cases e
  · obtain ⟨rfl, _, _⟩ := (by simpa using e : (⟨g', 0, none⟩ : Addr) = a ∧ _ ∧ _)
    exact Nat.le_trans hb hB

def tkS (st : St) : St := (takeT (takeH st).2).2
def tkO (st : St) : OpM := if (tkS st).isSome = true then (takeH st).1 else zeroO
def tkL (st : St) : List Claim := if (tkS st).isSome = true then (takeT (takeH st).2).1 else []

structure TS (B bR g : Nat) (W w : World) (st : St) (v : Value) (lk : List Claim) (cs : Array Value) (nl : Nat) : Prop where
  res : w.heap[B + 1]? = some (.cells (oc zeroO) 50 (0, 0))
  rres : w.heap[B + 1 + 1]? = some (.cells (rcells none) 78 (0, 0))
  op : w.heap[B + 1 + 1 + 1]? = some (.cells cs 50 (0, 0))
  row : w.heap[bR]? = some (.cells (rcells st) 78 (0, 0))
  out : w.ownsRow (bR + 1) 92 4 v lk.length (flatC lk)
  cnt : w.cell? ⟨g, 3, none⟩ = some (.int .u64 (nl : Int))
  below : Below B W w
  h1 : B + 1 + 1 + 1 < bR
  h2 : g < bR
  h3 : g ≠ B + 1 + 1 + 1
theorem TS.keep {B bR g : Nat} {W w w' : World} {st : St} {v : Value} {lk : List Claim} {cs : Array Value} {nl : Nat} (h : TS B bR g W w st v lk cs nl) (hb : Below w.heap.size w w') : TS B bR g W w' st v lk cs nl :=
  ⟨heap_keep h.res hb, heap_keep h.rres hb, heap_keep h.op hb, heap_keep h.row hb, owns_keepG h.out hb, cell_keep hb h.cnt, h.below.trans (hb.mono (by have := lt_of_heap h.row; have := h.h1; omega)), h.h1, h.h2, h.h3⟩
theorem TS.base {B bR g : Nat} {W w w' : World} {st : St} {v v2 : Value} {lk l2 : List Claim} {cs : Array Value} {nl : Nat} (h : TS B bR g W w st v lk cs nl) (hb : Below (bR + 1) w w') (ho : w'.ownsRow (bR + 1) 92 4 v2 l2.length (flatC l2)) : TS B bR g W w' st v2 l2 cs nl :=
  ⟨(hb.block _ (by have := h.h1; omega)).trans h.res, (hb.block _ (by have := h.h1; omega)).trans h.rres, (hb.block _ (by have := h.h1; omega)).trans h.op, (hb.block _ (by omega)).trans h.row, ho, (World.cell?_of_block (a := ⟨g, 3, none⟩) (hb.block g (by have := h.h2; omega))).trans h.cnt, h.below.trans (hb.mono (by have := h.h1; omega)), h.h1, h.h2, h.h3⟩
theorem TS.put {B bR g : Nat} {W w : World} {st st' : St} {v X f X' f' : Value} {lk : List Claim} {cs : Array Value} {nl : Nat} (h : TS B bR g W w st v lk cs nl) (e : rcells st = #[X, f]) (e' : rcells st' = #[X', f']) :
    TS B bR g W ((w.setCell ⟨bR, 0, none⟩ X').setCell ⟨bR, 1, none⟩ f') st' v lk cs nl :=
  ⟨by have := h.h1; exact heap_n (heap_n h.res (by omega)) (by omega), by have := h.h1; exact heap_n (heap_n h.rres (by omega)) (by omega), by have := h.h1; exact heap_n (heap_n h.op (by omega)) (by omega), by have := h.row; rw [e] at this; rw [e']; exact heap_s (heap_s this),
    owns_setG (owns_setG h.out (by omega)) (by omega), (World.cell?_of_block (a := ⟨g, 3, none⟩) (by have := h.h2; exact heap_n (heap_n rfl (by show bR ≠ g; omega)) (by show bR ≠ g; omega))).trans h.cnt, (h.below.setCell (by have := h.h1; show B ≤ bR; omega) _).setCell (by have := h.h1; show B ≤ bR; omega) _, h.h1, h.h2, h.h3⟩
theorem TS.line {B bR g : Nat} {W w : World} {st : St} {v u : Value} {lk : List Claim} {cs cs' : Array Value} {nl : Nat} (h : TS B bR g W w st v lk cs nl) (e : cs.setIfInBounds 28 u = cs') : TS B bR g W (w.setCell ⟨B + 1 + 1 + 1, 28, none⟩ u) st v lk cs' nl :=
  ⟨heap_n h.res (by omega), heap_n h.rres (by omega), e ▸ heap_s h.op, by have := h.h1; exact heap_n h.row (by omega), owns_setG h.out (by have := h.h1; omega), (World.cell?_of_block (a := ⟨g, 3, none⟩) (by have := h.h3; exact heap_n rfl (by show B + 1 + 1 + 1 ≠ g; omega))).trans h.cnt, h.below.setCell (by show B ≤ B + 1 + 1 + 1; omega) _, h.h1, h.h2, h.h3⟩
theorem small_takeLs {st : St} (hs : Small st) (k : Nat) : Small (takeLs k st).2 := by
  induction k with
  | zero => exact hs
  | succ k ih => exact small_takeDot (small_takeDot ih)
theorem owns_rowG {w : World} {B b size n : Nat} {e : TypeId} {cs : Array Value} {v : Value} {xs : List Value} (h : w.ownsRow B e size v n xs) (hb : b < B) : (w.setRow b cs).ownsRow B e size v n xs := by
  refine ⟨h.1, ?_⟩
  rcases h.2 with hn | ⟨g', cap, cur, rfl, hB, hgg, rest⟩
  · exact .inl hn
  · exact .inr ⟨g', cap, cur, rfl, hB, row_ne hgg (by omega), rest⟩
theorem one_row (st : St) : (rcells st).all (·.oneCell') = true := by cases st <;> simp [rcells, Value.oneCell']
theorem below_app1 {w w2 : World} {B n : Nat} {v : Value} {xs : List Value} {o1 : Obj} (h : B ≤ w.heap.size) (hr : w.ownsRow B 92 4 v n xs) (hg : (w.alloc o1).grownBy w2 v.ownBlock) : Below B w w2 :=
  ((Below.refl _ _).alloc h o1).grown hg (size_alloc_le h _) (fun j e => ((hr.alloc o1).lt j e).1)
theorem owns_more {w : World} {B : Nat} {v : Value} {lk : List Claim} {x : Claim} (h : w.ownsRow B 92 4 v (lk.length + 1) (flatC lk ++ (cl x).toList)) : w.ownsRow B 92 4 v (lk ++ [x]).length (flatC (lk ++ [x])) := by
  rw [List.length_append, flatC_append, flatC_one]; exact h
theorem takeLs_none (st : St) : ∀ (k j : Nat), (takeLs k st).2 = none → (takeLs (k + j) st).2 = none
  | k, 0, h => h
  | k, j + 1, h => by
    have := takeLs_none st k j h
    show (takeDot (takeDot (takeLs (k + j) st).2).2).2 = none
    rw [this]; rfl

set_option maxHeartbeats 4000000 in
theorem ref_Take (s0 : St) (sm0 : Small s0) (w : World) :
    Calls Try.prog 70 #[.agg (rcells s0)] w
      fun e w' => ∃ v, e = .returned (.tuple #[.agg (oc (setL (tkO s0) v)), .agg (rcells (tkS s0))]) ∧ ClaimsF w.heap.size w' v (tkL s0) ∧ Below w.heap.size w w' := by
  obtain ⟨r, n, s1, h0⟩ : ∃ a b s, takeDot s0 = ((a, b), s) := ⟨_, _, _, rfl⟩
  have sm1 : Small s1 := by have := small_takeDot sm0; rw [h0] at this; exact this
  obtain ⟨vl0, s2, h1⟩ : ∃ v s, takeVec s1 = (v, s) := ⟨_, _, rfl⟩
  obtain ⟨x0, x1, x2, x3, x4, x5, x6, x7, rfl⟩ := list8 vl0 (by have := takeVec_len s1; rw [h1] at this; exact this)
  have sm2 : Small s2 := by have := small_takeVec sm1; rw [h1] at this; exact this
  obtain ⟨tm, s3, h2⟩ : ∃ n s, takeNum s2 m64 = (n, s) := ⟨_, _, rfl⟩
  have sm3 : Small s3 := by have := small_takeNum sm2 m64; rw [h2] at this; exact this
  have b2 : tm ≤ 18446744073709551615 := by have := takeNum_le s2 m64; rw [h2] at this; exact this
  obtain ⟨who, s4, h3⟩ : ∃ n s, takeNum s3 m32 = (n, s) := ⟨_, _, rfl⟩
  have sm4 : Small s4 := by have := small_takeNum sm3 m32; rw [h3] at this; exact this
  have b3 : who ≤ 4294967295 := by have := takeNum_le s3 m32; rw [h3] at this; exact this
  obtain ⟨cr, cn, s5, h4⟩ : ∃ a b s, takeDot s4 = ((a, b), s) := ⟨_, _, _, rfl⟩
  have sm5 : Small s5 := by have := small_takeDot sm4; rw [h4] at this; exact this
  obtain ⟨kd, s6, h5⟩ : ∃ n s, takeNum s5 m8 = (n, s) := ⟨_, _, rfl⟩
  have sm6 : Small s6 := by have := small_takeNum sm5 m8; rw [h5] at this; exact this
  have b5 : kd ≤ 255 := by have := takeNum_le s5 m8; rw [h5] at this; exact this
  obtain ⟨dr, dn, s7, h6⟩ : ∃ a b s, takeDot s6 = ((a, b), s) := ⟨_, _, _, rfl⟩
  have sm7 : Small s7 := by have := small_takeDot sm6; rw [h6] at this; exact this
  obtain ⟨tt, s8, h7⟩ : ∃ n s, takeNum s7 m32 = (n, s) := ⟨_, _, rfl⟩
  have sm8 : Small s8 := by have := small_takeNum sm7 m32; rw [h7] at this; exact this
  have b7 : tt ≤ 4294967295 := by have := takeNum_le s7 m32; rw [h7] at this; exact this
  obtain ⟨ro, s9, h8⟩ : ∃ n s, takeNum s8 m8 = (n, s) := ⟨_, _, rfl⟩
  have sm9 : Small s9 := by have := small_takeNum sm8 m8; rw [h8] at this; exact this
  have b8 : ro ≤ 255 := by have := takeNum_le s8 m8; rw [h8] at this; exact this
  obtain ⟨de, s10, h9⟩ : ∃ n s, takeNum s9 m8 = (n, s) := ⟨_, _, rfl⟩
  have sm10 : Small s10 := by have := small_takeNum sm9 m8; rw [h9] at this; exact this
  have b9 : de ≤ 255 := by have := takeNum_le s9 m8; rw [h9] at this; exact this
  obtain ⟨cap, s11, h10⟩ : ∃ n s, takeNum s10 m64 = (n, s) := ⟨_, _, rfl⟩
  have sm11 : Small s11 := by have := small_takeNum sm10 m64; rw [h10] at this; exact this
  have b10 : cap ≤ 18446744073709551615 := by have := takeNum_le s10 m64; rw [h10] at this; exact this
  obtain ⟨ar, an, s12, h11⟩ : ∃ a b s, takeDot s11 = ((a, b), s) := ⟨_, _, _, rfl⟩
  have sm12 : Small s12 := by have := small_takeDot sm11; rw [h11] at this; exact this
  obtain ⟨vr, vn, s13, h12⟩ : ∃ a b s, takeDot s12 = ((a, b), s) := ⟨_, _, _, rfl⟩
  have sm13 : Small s13 := by have := small_takeDot sm12; rw [h12] at this; exact this
  obtain ⟨it, s14, h13⟩ : ∃ n s, takeNum s13 m32 = (n, s) := ⟨_, _, rfl⟩
  have sm14 : Small s14 := by have := small_takeNum sm13 m32; rw [h13] at this; exact this
  have b13 : it ≤ 4294967295 := by have := takeNum_le s13 m32; rw [h13] at this; exact this
  obtain ⟨qt, s15, h14⟩ : ∃ n s, takeNum s14 m32 = (n, s) := ⟨_, _, rfl⟩
  have sm15 : Small s15 := by have := small_takeNum sm14 m32; rw [h14] at this; exact this
  have b14 : qt ≤ 4294967295 := by have := takeNum_le s14 m32; rw [h14] at this; exact this
  obtain ⟨pr, s16, h15⟩ : ∃ n s, takeNum s15 m32 = (n, s) := ⟨_, _, rfl⟩
  have sm16 : Small s16 := by have := small_takeNum sm15 m32; rw [h15] at this; exact this
  have b15 : pr ≤ 4294967295 := by have := takeNum_le s15 m32; rw [h15] at this; exact this
  obtain ⟨nl, s17, h16⟩ : ∃ n s, takeNum s16 16 = (n, s) := ⟨_, _, rfl⟩
  have sm17 : Small s17 := by have := small_takeNum sm16 16; rw [h16] at this; exact this
  have b16 : nl ≤ 16 := by have := takeNum_le s16 16; rw [h16] at this; exact this
  obtain ⟨X0, f0, hX0⟩ := rcells_form s0
  obtain ⟨X1, f1, hX1⟩ := rcells_form s1
  obtain ⟨X2, f2, hX2⟩ := rcells_form s2
  obtain ⟨X4, f4, hX4⟩ := rcells_form s4
  obtain ⟨X5, f5, hX5⟩ := rcells_form s5
  obtain ⟨X6, f6, hX6⟩ := rcells_form s6
  obtain ⟨X7, f7, hX7⟩ := rcells_form s7
  obtain ⟨X11, f11, hX11⟩ := rcells_form s11
  obtain ⟨X12, f12, hX12⟩ := rcells_form s12
  obtain ⟨X13, f13, hX13⟩ := rcells_form s13
  obtain ⟨X17, f17, hX17⟩ := rcells_form s17
  have k0 : ∀ W, Calls Try.prog 81 #[.agg #[.string X0, .bool f0]] W fun e w' => e = .returned (.tuple #[.agg #[.int .u8 (r : Int), .int .u32 (n : Int)], .agg #[.string X1, .bool f1]]) ∧ Below W.heap.size W w' := fun W => by
    have h := ref_TakeDot s0 sm0 W
    rw [h0] at h
    dsimp only at h
    rw [hX0, hX1] at h
    exact h
  have k1 : ∀ W, Calls Try.prog 42 #[.agg #[.string X1, .bool f1]] W fun e w' => e = .returned (.tuple #[.agg #[.int .u32 (x0 : Int), .int .u32 (x1 : Int), .int .u32 (x2 : Int), .int .u32 (x3 : Int), .int .u32 (x4 : Int), .int .u32 (x5 : Int), .int .u32 (x6 : Int), .int .u32 (x7 : Int)], .agg #[.string X2, .bool f2]]) ∧ Below W.heap.size W w' := fun W => by
    have h := ref_TakeVector s1 sm1 W
    rw [h1] at h
    dsimp only at h
    rw [hX1, hX2] at h
    exact h
  have e2 : numsGo [m64, m32] 2 s2 = ([tm, who], s4) := by simp only [numsGo, List.getD_cons_zero, List.getD_cons_succ, h2, h3]; rfl
  have k2 : ∀ W b, W.heap[b]? = some (.cells #[.int .u64 18446744073709551615, .int .u64 4294967295] 47 (0, 0)) → Calls Try.prog 82 #[.agg #[.string X2, .bool f2], .slice (some ⟨b, 0, none⟩) 2 2] W fun e w' => ∃ v, e = .returned (.tuple #[v, .agg #[.string X4, .bool f4]]) ∧ w'.ownsRow W.heap.size 47 1 v 2 (numV [tm, who]) ∧ Below W.heap.size W w' := fun W b hb => by
    have h := ref_nums [m64, m32] (by decide) s2 sm2 b W hb
    rw [show [m64, m32].length = 2 from rfl, e2] at h
    dsimp only at h
    rw [hX2, hX4] at h
    exact h
  have k3 : ∀ W, Calls Try.prog 81 #[.agg #[.string X4, .bool f4]] W fun e w' => e = .returned (.tuple #[.agg #[.int .u8 (cr : Int), .int .u32 (cn : Int)], .agg #[.string X5, .bool f5]]) ∧ Below W.heap.size W w' := fun W => by
    have h := ref_TakeDot s4 sm4 W
    rw [h4] at h
    dsimp only at h
    rw [hX4, hX5] at h
    exact h
  have k4 : ∀ W, Calls Try.prog 43 #[.agg #[.string X5, .bool f5], .int .u64 255] W fun e w' => e = .returned (.tuple #[.int .u64 (kd : Int), .agg #[.string X6, .bool f6]]) ∧ Below W.heap.size W w' := fun W => by
    have h := ref_TakeNum s5 sm5 m8 W
    rw [h5] at h
    dsimp only at h
    rw [hX5, hX6] at h
    exact h
  have k5 : ∀ W, Calls Try.prog 81 #[.agg #[.string X6, .bool f6]] W fun e w' => e = .returned (.tuple #[.agg #[.int .u8 (dr : Int), .int .u32 (dn : Int)], .agg #[.string X7, .bool f7]]) ∧ Below W.heap.size W w' := fun W => by
    have h := ref_TakeDot s6 sm6 W
    rw [h6] at h
    dsimp only at h
    rw [hX6, hX7] at h
    exact h
  have e6 : numsGo [m32, m8, m8, m64] 4 s7 = ([tt, ro, de, cap], s11) := by simp only [numsGo, List.getD_cons_zero, List.getD_cons_succ, h7, h8, h9, h10]; rfl
  have k6 : ∀ W b, W.heap[b]? = some (.cells #[.int .u64 4294967295, .int .u64 255, .int .u64 255, .int .u64 18446744073709551615] 47 (0, 0)) → Calls Try.prog 82 #[.agg #[.string X7, .bool f7], .slice (some ⟨b, 0, none⟩) 4 4] W fun e w' => ∃ v, e = .returned (.tuple #[v, .agg #[.string X11, .bool f11]]) ∧ w'.ownsRow W.heap.size 47 1 v 4 (numV [tt, ro, de, cap]) ∧ Below W.heap.size W w' := fun W b hb => by
    have h := ref_nums [m32, m8, m8, m64] (by decide) s7 sm7 b W hb
    rw [show [m32, m8, m8, m64].length = 4 from rfl, e6] at h
    dsimp only at h
    rw [hX7, hX11] at h
    exact h
  have k7 : ∀ W, Calls Try.prog 81 #[.agg #[.string X11, .bool f11]] W fun e w' => e = .returned (.tuple #[.agg #[.int .u8 (ar : Int), .int .u32 (an : Int)], .agg #[.string X12, .bool f12]]) ∧ Below W.heap.size W w' := fun W => by
    have h := ref_TakeDot s11 sm11 W
    rw [h11] at h
    dsimp only at h
    rw [hX11, hX12] at h
    exact h
  have k8 : ∀ W, Calls Try.prog 81 #[.agg #[.string X12, .bool f12]] W fun e w' => e = .returned (.tuple #[.agg #[.int .u8 (vr : Int), .int .u32 (vn : Int)], .agg #[.string X13, .bool f13]]) ∧ Below W.heap.size W w' := fun W => by
    have h := ref_TakeDot s12 sm12 W
    rw [h12] at h
    dsimp only at h
    rw [hX12, hX13] at h
    exact h
  have e9 : numsGo [m32, m32, m32, 16] 4 s13 = ([it, qt, pr, nl], s17) := by simp only [numsGo, List.getD_cons_zero, List.getD_cons_succ, h13, h14, h15, h16]; rfl
  have k9 : ∀ W b, W.heap[b]? = some (.cells #[.int .u64 4294967295, .int .u64 4294967295, .int .u64 4294967295, .int .u64 16] 47 (0, 0)) → Calls Try.prog 82 #[.agg #[.string X13, .bool f13], .slice (some ⟨b, 0, none⟩) 4 4] W fun e w' => ∃ v, e = .returned (.tuple #[v, .agg #[.string X17, .bool f17]]) ∧ w'.ownsRow W.heap.size 47 1 v 4 (numV [it, qt, pr, nl]) ∧ Below W.heap.size W w' := fun W b hb => by
    have h := ref_nums [m32, m32, m32, 16] (by decide) s13 sm13 b W hb
    rw [show [m32, m32, m32, 16].length = 4 from rfl, e9] at h
    dsimp only at h
    rw [hX13, hX17] at h
    exact h
  have hH : takeH s0 = (⟨r, n, vecOf [x0, x1, x2, x3, x4, x5, x6, x7], tm, who, cr, cn, kd, dr, dn, tt, ro, de, cap, ar, an, vr, vn, it, qt, pr, .slice none 0 0⟩, s16) := by simp only [takeH, h0, h1, h2, h3, h4, h5, h6, h7, h8, h9, h10, h11, h12, h13, h14, h15]
  obtain ⟨oO, hO⟩ : ∃ o, tkO s0 = o := ⟨_, rfl⟩
  obtain ⟨lL, hL⟩ : ∃ l, tkL s0 = l := ⟨_, rfl⟩
  obtain ⟨sS, hS⟩ : ∃ s, tkS s0 = s := ⟨_, rfl⟩
  rw [hO, hL, hS]
  unfold tkO tkS at hO
  unfold tkL tkS at hL
  unfold tkS at hS
  rw [hH] at hO hL hS
  dsimp only at hO hL hS
  unfold takeT at hO hL hS
  rw [h16] at hO hL hS
  dsimp only at hO hL hS
  have HFIN := hid (And.intro hO (And.intro hL hS))
  clear hO hL hS
  rw [hX0]
  have HB0 := hid (below_al4 w (.cells #[.string X0, .bool f0] 78) (.cells #[.int .u8 0, .int .u32 0, .int .u32 0, .int .u32 0, .int .u32 0, .int .u32 0, .int .u32 0, .int .u32 0, .int .u32 0, .int .u32 0, .int .u64 0, .int .u32 0, .int .u8 0, .int .u32 0, .int .u8 0, .int .u8 0, .int .u32 0, .int .u32 0, .int .u8 0, .int .u8 0, .int .u64 0, .int .u8 0, .int .u32 0, .int .u8 0, .int .u32 0, .int .u32 0, .int .u32 0, .int .u32 0, .slice none 0 0] 50) (.cells #[.string ⟨#[]⟩, .bool false] 78) (.cells #[.int .u8 0, .int .u32 0, .int .u32 0, .int .u32 0, .int .u32 0, .int .u32 0, .int .u32 0, .int .u32 0, .int .u32 0, .int .u32 0, .int .u64 0, .int .u32 0, .int .u8 0, .int .u32 0, .int .u8 0, .int .u8 0, .int .u32 0, .int .u32 0, .int .u8 0, .int .u8 0, .int .u64 0, .int .u8 0, .int .u32 0, .int .u8 0, .int .u32 0, .int .u32 0, .int .u32 0, .int .u32 0, .slice none 0 0] 50))
  have HA := al4 w (.cells #[.string X0, .bool f0] 78) (.cells #[.int .u8 0, .int .u32 0, .int .u32 0, .int .u32 0, .int .u32 0, .int .u32 0, .int .u32 0, .int .u32 0, .int .u32 0, .int .u32 0, .int .u64 0, .int .u32 0, .int .u8 0, .int .u32 0, .int .u8 0, .int .u8 0, .int .u32 0, .int .u32 0, .int .u8 0, .int .u8 0, .int .u64 0, .int .u8 0, .int .u32 0, .int .u8 0, .int .u32 0, .int .u32 0, .int .u32 0, .int .u32 0, .slice none 0 0] 50) (.cells #[.string ⟨#[]⟩, .bool false] 78) (.cells #[.int .u8 0, .int .u32 0, .int .u32 0, .int .u32 0, .int .u32 0, .int .u32 0, .int .u32 0, .int .u32 0, .int .u32 0, .int .u32 0, .int .u64 0, .int .u32 0, .int .u8 0, .int .u32 0, .int .u8 0, .int .u8 0, .int .u32 0, .int .u32 0, .int .u8 0, .int .u8 0, .int .u64 0, .int .u8 0, .int .u32 0, .int .u8 0, .int .u32 0, .int .u32 0, .int .u32 0, .int .u32 0, .slice none 0 0] 50)
  have K0 := hid HA.1
  have K1 := hid HA.2.1
  have K2 := hid HA.2.2.1
  have K3 := hid HA.2.2.2
  have HSM := hid sm17
  have HNL16 := hid b16
  have HX := hid hX17
  have HBD := hid (And.intro b2 (And.intro b3 (And.intro b5 (And.intro b7 (And.intro b8 (And.intro b9 (And.intro b10 (And.intro b13 (And.intro b14 (And.intro b15 b16))))))))))
  clear HA hH sm0 sm1 h0 sm2 h1 sm3 h2 sm4 h3 sm5 h4 sm6 h5 sm7 h6 sm8 h7 sm9 h8 sm10 h9 sm11 h10 sm12 h11 sm13 h12 sm14 h13 sm15 h14 sm16 h15 sm17 h16 hX0 hX1 hX2 hX4 hX5 hX6 hX7 hX11 hX12 hX13 hX17 e2 e6 e9 b2 b3 b5 b7 b8 b9 b10 b13 b14 b15 b16
  go_enter Try.func70, Try.ntmps70
  go_upto_region 2 with (fail)
  generalize ((((w.alloc (.cells #[.string X0, .bool f0] 78)).alloc (.cells #[.int .u8 0, .int .u32 0, .int .u32 0, .int .u32 0, .int .u32 0, .int .u32 0, .int .u32 0, .int .u32 0, .int .u32 0, .int .u32 0, .int .u64 0, .int .u32 0, .int .u8 0, .int .u32 0, .int .u8 0, .int .u8 0, .int .u32 0, .int .u32 0, .int .u8 0, .int .u8 0, .int .u64 0, .int .u8 0, .int .u32 0, .int .u8 0, .int .u32 0, .int .u32 0, .int .u32 0, .int .u32 0, .slice none 0 0] 50)).alloc (.cells #[.string ⟨#[]⟩, .bool false] 78)).alloc (.cells #[.int .u8 0, .int .u32 0, .int .u32 0, .int .u32 0, .int .u32 0, .int .u32 0, .int .u32 0, .int .u32 0, .int .u32 0, .int .u32 0, .int .u64 0, .int .u32 0, .int .u8 0, .int .u32 0, .int .u8 0, .int .u8 0, .int .u32 0, .int .u32 0, .int .u8 0, .int .u8 0, .int .u64 0, .int .u8 0, .int .u32 0, .int .u8 0, .int .u32 0, .int .u32 0, .int .u32 0, .int .u32 0, .slice none 0 0] 50)) = w0 at HB0 K0 K1 K2 K3 ⊢
  have r0 := (cells2 K0.out).1
  have r1 := (cells2 K0.out).2
  go_upto_region 3 with (first | (go_at_call 81; (with_reducible refine (k0 _).mono ?_); rintro e w1 ⟨rfl, hB⟩; have hBB := below_next (Below.refl _ w0) hB; have HB1 := hid (below_next HB0.out hBB); have K0' := hid (heap_keep K0.out hB); clear K0; have K0 := K0'; clear K0'; have K1' := hid (heap_keep K1.out hB); clear K1; have K1 := K1'; clear K1'; have K2' := hid (heap_keep K2.out hB); clear K2; have K2 := K2'; clear K2'; have K3' := hid (heap_keep K3.out hB); clear K3; have K3 := K3'; clear K3'; clear hB hBB k0 HB0))
  go_upto_region 4 with (first | (go_at_call 42; (with_reducible refine (k1 _).mono ?_); rintro e w2 ⟨rfl, hB⟩; have hBB := below_next (below_al2 w1 _ _) hB; have HB2 := hid (below_next HB1.out hBB); have K0' := hid (heap_keep (heap_al (heap_al K0.out _) _) hB); clear K0; have K0 := K0'; clear K0'; have K1' := hid (heap_keep (heap_al (heap_al K1.out _) _) hB); clear K1; have K1 := K1'; clear K1'; have K2' := hid (heap_keep (heap_al (heap_al K2.out _) _) hB); clear K2; have K2 := K2'; clear K2'; have K3' := hid (heap_keep (heap_al (heap_al K3.out _) _) hB); clear K3; have K3 := K3'; clear K3'; have D0 := hid (heap_keep (heap_al (heap_alloc_last' w1 _) _) hB); clear hB hBB k1 HB1))
  go_upto_region 5 with (first | (go_at_call 82; (refine (k2 _ _ (heap_last_n _ _ _ (by simp))).mono ?_); rintro e w3 ⟨v, rfl, ho, hB⟩; have hBB := below_next (below_al3 w2 _ _ _) hB; have HB3 := hid (below_next HB2.out hBB); have K0' := hid (heap_keep (heap_al (heap_al (heap_al K0.out _) _) _) hB); clear K0; have K0 := K0'; clear K0'; have K1' := hid (heap_keep (heap_al (heap_al (heap_al K1.out _) _) _) hB); clear K1; have K1 := K1'; clear K1'; have K2' := hid (heap_keep (heap_al (heap_al (heap_al K2.out _) _) _) hB); clear K2; have K2 := K2'; clear K2'; have K3' := hid (heap_keep (heap_al (heap_al (heap_al K3.out _) _) _) hB); clear K3; have K3 := K3'; clear K3'; have D0' := hid (heap_keep (heap_al (heap_al (heap_al D0.out _) _) _) hB); clear D0; have D0 := D0'; clear D0'; have D1 := hid (heap_keep (heap_al (heap_al (heap_alloc_last' w2 _) _) _) hB); obtain ⟨g2, p2, rfl, hgl, hgc⟩ := owns_cells ho rfl (by decide); have G2_0 := hid (hgc 0 _ rfl); have G2_1 := hid (hgc 1 _ rfl); clear ho hgl hgc; clear hB hBB k2 HB2))
  go_upto_region 6 with (first | (go_at_call 81; (with_reducible refine (k3 _).mono ?_); rintro e w4 ⟨rfl, hB⟩; have hBB := below_next (below_al w3 _) hB; have HB4 := hid (below_next HB3.out hBB); have K0' := hid (heap_keep (heap_al K0.out _) hB); clear K0; have K0 := K0'; clear K0'; have K1' := hid (heap_keep (heap_al K1.out _) hB); clear K1; have K1 := K1'; clear K1'; have K2' := hid (heap_keep (heap_al K2.out _) hB); clear K2; have K2 := K2'; clear K2'; have K3' := hid (heap_keep (heap_al K3.out _) hB); clear K3; have K3 := K3'; clear K3'; have D0' := hid (heap_keep (heap_al D0.out _) hB); clear D0; have D0 := D0'; clear D0'; have D1' := hid (heap_keep (heap_al D1.out _) hB); clear D1; have D1 := D1'; clear D1'; have G2_0' := hid (cell_keep hBB G2_0.out); clear G2_0; have G2_0 := G2_0'; clear G2_0'; have G2_1' := hid (cell_keep hBB G2_1.out); clear G2_1; have G2_1 := G2_1'; clear G2_1'; clear hB hBB k3 HB3))
  go_upto_region 7 with (first | (go_at_call 43; (with_reducible refine (k4 _).mono ?_); rintro e w5 ⟨rfl, hB⟩; have hBB := below_next (below_al2 w4 _ _) hB; have HB5 := hid (below_next HB4.out hBB); have K0' := hid (heap_keep (heap_al (heap_al K0.out _) _) hB); clear K0; have K0 := K0'; clear K0'; have K1' := hid (heap_keep (heap_al (heap_al K1.out _) _) hB); clear K1; have K1 := K1'; clear K1'; have K2' := hid (heap_keep (heap_al (heap_al K2.out _) _) hB); clear K2; have K2 := K2'; clear K2'; have K3' := hid (heap_keep (heap_al (heap_al K3.out _) _) hB); clear K3; have K3 := K3'; clear K3'; have D0' := hid (heap_keep (heap_al (heap_al D0.out _) _) hB); clear D0; have D0 := D0'; clear D0'; have D1' := hid (heap_keep (heap_al (heap_al D1.out _) _) hB); clear D1; have D1 := D1'; clear D1'; have D3 := hid (heap_keep (heap_al (heap_alloc_last' w4 _) _) hB); have G2_0' := hid (cell_keep hBB G2_0.out); clear G2_0; have G2_0 := G2_0'; clear G2_0'; have G2_1' := hid (cell_keep hBB G2_1.out); clear G2_1; have G2_1 := G2_1'; clear G2_1'; clear hB hBB k4 HB4))
  go_upto_region 8 with (first | (go_at_call 81; (with_reducible refine (k5 _).mono ?_); rintro e w6 ⟨rfl, hB⟩; have hBB := below_next (below_al w5 _) hB; have HB6 := hid (below_next HB5.out hBB); have K0' := hid (heap_keep (heap_al K0.out _) hB); clear K0; have K0 := K0'; clear K0'; have K1' := hid (heap_keep (heap_al K1.out _) hB); clear K1; have K1 := K1'; clear K1'; have K2' := hid (heap_keep (heap_al K2.out _) hB); clear K2; have K2 := K2'; clear K2'; have K3' := hid (heap_keep (heap_al K3.out _) hB); clear K3; have K3 := K3'; clear K3'; have D0' := hid (heap_keep (heap_al D0.out _) hB); clear D0; have D0 := D0'; clear D0'; have D1' := hid (heap_keep (heap_al D1.out _) hB); clear D1; have D1 := D1'; clear D1'; have D3' := hid (heap_keep (heap_al D3.out _) hB); clear D3; have D3 := D3'; clear D3'; have G2_0' := hid (cell_keep hBB G2_0.out); clear G2_0; have G2_0 := G2_0'; clear G2_0'; have G2_1' := hid (cell_keep hBB G2_1.out); clear G2_1; have G2_1 := G2_1'; clear G2_1'; clear hB hBB k5 HB5))
  go_upto_region 9 with (first | (go_at_call 82; (refine (k6 _ _ (heap_last_n _ _ _ (by simp))).mono ?_); rintro e w7 ⟨v, rfl, ho, hB⟩; have hBB := below_next (below_al3 w6 _ _ _) hB; have HB7 := hid (below_next HB6.out hBB); have K0' := hid (heap_keep (heap_al (heap_al (heap_al K0.out _) _) _) hB); clear K0; have K0 := K0'; clear K0'; have K1' := hid (heap_keep (heap_al (heap_al (heap_al K1.out _) _) _) hB); clear K1; have K1 := K1'; clear K1'; have K2' := hid (heap_keep (heap_al (heap_al (heap_al K2.out _) _) _) hB); clear K2; have K2 := K2'; clear K2'; have K3' := hid (heap_keep (heap_al (heap_al (heap_al K3.out _) _) _) hB); clear K3; have K3 := K3'; clear K3'; have D0' := hid (heap_keep (heap_al (heap_al (heap_al D0.out _) _) _) hB); clear D0; have D0 := D0'; clear D0'; have D1' := hid (heap_keep (heap_al (heap_al (heap_al D1.out _) _) _) hB); clear D1; have D1 := D1'; clear D1'; have D3' := hid (heap_keep (heap_al (heap_al (heap_al D3.out _) _) _) hB); clear D3; have D3 := D3'; clear D3'; have D5 := hid (heap_keep (heap_al (heap_al (heap_alloc_last' w6 _) _) _) hB); have G2_0' := hid (cell_keep hBB G2_0.out); clear G2_0; have G2_0 := G2_0'; clear G2_0'; have G2_1' := hid (cell_keep hBB G2_1.out); clear G2_1; have G2_1 := G2_1'; clear G2_1'; obtain ⟨g6, p6, rfl, hgl, hgc⟩ := owns_cells ho rfl (by decide); have G6_0 := hid (hgc 0 _ rfl); have G6_1 := hid (hgc 1 _ rfl); have G6_2 := hid (hgc 2 _ rfl); have G6_3 := hid (hgc 3 _ rfl); clear ho hgl hgc; clear hB hBB k6 HB6))
  go_upto_region 10 with (first | (go_at_call 81; (with_reducible refine (k7 _).mono ?_); rintro e w8 ⟨rfl, hB⟩; have hBB := below_next (below_al w7 _) hB; have HB8 := hid (below_next HB7.out hBB); have K0' := hid (heap_keep (heap_al K0.out _) hB); clear K0; have K0 := K0'; clear K0'; have K1' := hid (heap_keep (heap_al K1.out _) hB); clear K1; have K1 := K1'; clear K1'; have K2' := hid (heap_keep (heap_al K2.out _) hB); clear K2; have K2 := K2'; clear K2'; have K3' := hid (heap_keep (heap_al K3.out _) hB); clear K3; have K3 := K3'; clear K3'; have D0' := hid (heap_keep (heap_al D0.out _) hB); clear D0; have D0 := D0'; clear D0'; have D1' := hid (heap_keep (heap_al D1.out _) hB); clear D1; have D1 := D1'; clear D1'; have D3' := hid (heap_keep (heap_al D3.out _) hB); clear D3; have D3 := D3'; clear D3'; have D5' := hid (heap_keep (heap_al D5.out _) hB); clear D5; have D5 := D5'; clear D5'; have G2_0' := hid (cell_keep hBB G2_0.out); clear G2_0; have G2_0 := G2_0'; clear G2_0'; have G2_1' := hid (cell_keep hBB G2_1.out); clear G2_1; have G2_1 := G2_1'; clear G2_1'; have G6_0' := hid (cell_keep hBB G6_0.out); clear G6_0; have G6_0 := G6_0'; clear G6_0'; have G6_1' := hid (cell_keep hBB G6_1.out); clear G6_1; have G6_1 := G6_1'; clear G6_1'; have G6_2' := hid (cell_keep hBB G6_2.out); clear G6_2; have G6_2 := G6_2'; clear G6_2'; have G6_3' := hid (cell_keep hBB G6_3.out); clear G6_3; have G6_3 := G6_3'; clear G6_3'; clear hB hBB k7 HB7))
  go_upto_region 11 with (first | (go_at_call 81; (with_reducible refine (k8 _).mono ?_); rintro e w9 ⟨rfl, hB⟩; have hBB := below_next (below_al2 w8 _ _) hB; have HB9 := hid (below_next HB8.out hBB); have K0' := hid (heap_keep (heap_al (heap_al K0.out _) _) hB); clear K0; have K0 := K0'; clear K0'; have K1' := hid (heap_keep (heap_al (heap_al K1.out _) _) hB); clear K1; have K1 := K1'; clear K1'; have K2' := hid (heap_keep (heap_al (heap_al K2.out _) _) hB); clear K2; have K2 := K2'; clear K2'; have K3' := hid (heap_keep (heap_al (heap_al K3.out _) _) hB); clear K3; have K3 := K3'; clear K3'; have D0' := hid (heap_keep (heap_al (heap_al D0.out _) _) hB); clear D0; have D0 := D0'; clear D0'; have D1' := hid (heap_keep (heap_al (heap_al D1.out _) _) hB); clear D1; have D1 := D1'; clear D1'; have D3' := hid (heap_keep (heap_al (heap_al D3.out _) _) hB); clear D3; have D3 := D3'; clear D3'; have D5' := hid (heap_keep (heap_al (heap_al D5.out _) _) hB); clear D5; have D5 := D5'; clear D5'; have D7 := hid (heap_keep (heap_al (heap_alloc_last' w8 _) _) hB); have G2_0' := hid (cell_keep hBB G2_0.out); clear G2_0; have G2_0 := G2_0'; clear G2_0'; have G2_1' := hid (cell_keep hBB G2_1.out); clear G2_1; have G2_1 := G2_1'; clear G2_1'; have G6_0' := hid (cell_keep hBB G6_0.out); clear G6_0; have G6_0 := G6_0'; clear G6_0'; have G6_1' := hid (cell_keep hBB G6_1.out); clear G6_1; have G6_1 := G6_1'; clear G6_1'; have G6_2' := hid (cell_keep hBB G6_2.out); clear G6_2; have G6_2 := G6_2'; clear G6_2'; have G6_3' := hid (cell_keep hBB G6_3.out); clear G6_3; have G6_3 := G6_3'; clear G6_3'; clear hB hBB k8 HB8))
  go_upto_region 12 with (first | (go_at_call 82; (refine (k9 _ _ (heap_last_n _ _ _ (by simp))).mono ?_); rintro e w10 ⟨v, rfl, ho, hB⟩; have hBB := below_next (below_al3 w9 _ _ _) hB; have HB10 := hid (below_next HB9.out hBB); have K0' := hid (heap_keep (heap_al (heap_al (heap_al K0.out _) _) _) hB); clear K0; have K0 := K0'; clear K0'; have K1' := hid (heap_keep (heap_al (heap_al (heap_al K1.out _) _) _) hB); clear K1; have K1 := K1'; clear K1'; have K2' := hid (heap_keep (heap_al (heap_al (heap_al K2.out _) _) _) hB); clear K2; have K2 := K2'; clear K2'; have K3' := hid (heap_keep (heap_al (heap_al (heap_al K3.out _) _) _) hB); clear K3; have K3 := K3'; clear K3'; have D0' := hid (heap_keep (heap_al (heap_al (heap_al D0.out _) _) _) hB); clear D0; have D0 := D0'; clear D0'; have D1' := hid (heap_keep (heap_al (heap_al (heap_al D1.out _) _) _) hB); clear D1; have D1 := D1'; clear D1'; have D3' := hid (heap_keep (heap_al (heap_al (heap_al D3.out _) _) _) hB); clear D3; have D3 := D3'; clear D3'; have D5' := hid (heap_keep (heap_al (heap_al (heap_al D5.out _) _) _) hB); clear D5; have D5 := D5'; clear D5'; have D7' := hid (heap_keep (heap_al (heap_al (heap_al D7.out _) _) _) hB); clear D7; have D7 := D7'; clear D7'; have D8 := hid (heap_keep (heap_al (heap_al (heap_alloc_last' w9 _) _) _) hB); have G2_0' := hid (cell_keep hBB G2_0.out); clear G2_0; have G2_0 := G2_0'; clear G2_0'; have G2_1' := hid (cell_keep hBB G2_1.out); clear G2_1; have G2_1 := G2_1'; clear G2_1'; have G6_0' := hid (cell_keep hBB G6_0.out); clear G6_0; have G6_0 := G6_0'; clear G6_0'; have G6_1' := hid (cell_keep hBB G6_1.out); clear G6_1; have G6_1 := G6_1'; clear G6_1'; have G6_2' := hid (cell_keep hBB G6_2.out); clear G6_2; have G6_2 := G6_2'; clear G6_2'; have G6_3' := hid (cell_keep hBB G6_3.out); clear G6_3; have G6_3 := G6_3'; clear G6_3'; obtain ⟨g9, p9, rfl, hgl, hgc⟩ := owns_cells ho rfl (by decide); have G9_0 := hid (hgc 0 _ rfl); have G9_1 := hid (hgc 1 _ rfl); have G9_2 := hid (hgc 2 _ rfl); have G9_3 := hid (hgc 3 _ rfl); have HGL := hid hgl; clear ho hgl hgc; clear hB hBB k9 HB9))
  have E0 := hid (heap_alloc_last' w10 (.cells #[.string X17, .bool f17] 78))
  have E1 := hid (heap_al K1.out (.cells #[.string X17, .bool f17] 78))
  have E2 := hid (heap_al K2.out (.cells #[.string X17, .bool f17] 78))
  have E3 := hid (heap_al K3.out (.cells #[.string X17, .bool f17] 78))
  have HBB := hid (below_al w10 (.cells #[.string X17, .bool f17] 78))
  have HBW := hid (below_next HB10.out HBB.out)
  have hs10 : (w10.alloc (.cells #[.string X17, .bool f17] 78)).heap.size = w10.heap.size + 1 := by simp
  have HS10 := hid hs10
  have hgl9 := HGL.out
  have HG9 := hid (show g9 < w10.heap.size ∧ g9 ≠ w.heap.size + 1 + 1 + 1 ∧ w.heap.size + 1 + 1 + 1 < w10.heap.size from by
    obtain ⟨cur, hc⟩ := hgl9
    refine ⟨lt_of_heap hc, fun e => ?_, lt_of_heap K3.out⟩
    have h3 := K3.out
    rw [← e, hc] at h3
    cases h3)
  clear hs10 hgl9 HGL
  generalize w10.alloc (.cells #[.string X17, .bool f17] 78) = V at E0 E1 E2 E3 HBB HBW HS10 ⊢
  refine wp_region_still_tail_w 43 (by kernel_rfl) (by kernel_rfl) ?_
  intro wd hwd
  have HWD := hid (show Below V.heap.size V wd from hwd ▸ below_dr V)
  have hk := below_next HBB.out HWD.out
  have D0a := cell_keep hk (cells2 D0.out).1
  have D0b := cell_keep hk (cells2 D0.out).2
  have D3a := cell_keep hk (cells2 D3.out).1
  have D3b := cell_keep hk (cells2 D3.out).2
  have D5a := cell_keep hk (cells2 D5.out).1
  have D5b := cell_keep hk (cells2 D5.out).2
  have D7a := cell_keep hk (cells2 D7.out).1
  have D7b := cell_keep hk (cells2 D7.out).2
  have D8a := cell_keep hk (cells2 D8.out).1
  have D8b := cell_keep hk (cells2 D8.out).2
  have D1_0 := cell_keep hk ((cell_of_heap (j := 0) D1.out).trans rfl)
  have D1_1 := cell_keep hk ((cell_of_heap (j := 1) D1.out).trans rfl)
  have D1_2 := cell_keep hk ((cell_of_heap (j := 2) D1.out).trans rfl)
  have D1_3 := cell_keep hk ((cell_of_heap (j := 3) D1.out).trans rfl)
  have D1_4 := cell_keep hk ((cell_of_heap (j := 4) D1.out).trans rfl)
  have D1_5 := cell_keep hk ((cell_of_heap (j := 5) D1.out).trans rfl)
  have D1_6 := cell_keep hk ((cell_of_heap (j := 6) D1.out).trans rfl)
  have D1_7 := cell_keep hk ((cell_of_heap (j := 7) D1.out).trans rfl)
  have G2_0c := cell_keep hk G2_0.out
  have G2_1c := cell_keep hk G2_1.out
  have G6_0c := cell_keep hk G6_0.out
  have G6_1c := cell_keep hk G6_1.out
  have G6_2c := cell_keep hk G6_2.out
  have G6_3c := cell_keep hk G6_3.out
  have G9_0c := cell_keep hk G9_0.out
  have G9_1c := cell_keep hk G9_1.out
  have G9_2c := cell_keep hk G9_2.out
  have G9_3c := cell_keep hk G9_3.out
  have hb := HBD.out
  have u3 : IntKind.u32.wrap (who : Int) = (who : Int) := by rw [wrap_u32]; omega
  have u5 : IntKind.u8.wrap (kd : Int) = (kd : Int) := by rw [wrap_u8]; omega
  have u7 : IntKind.u32.wrap (tt : Int) = (tt : Int) := by rw [wrap_u32]; omega
  have u8 : IntKind.u8.wrap (ro : Int) = (ro : Int) := by rw [wrap_u8]; omega
  have u9 : IntKind.u8.wrap (de : Int) = (de : Int) := by rw [wrap_u8]; omega
  have u13 : IntKind.u32.wrap (it : Int) = (it : Int) := by rw [wrap_u32]; omega
  have u14 : IntKind.u32.wrap (qt : Int) = (qt : Int) := by rw [wrap_u32]; omega
  have u15 : IntKind.u32.wrap (pr : Int) = (pr : Int) := by rw [wrap_u32]; omega
  clear hb hwd hk
  simp only [List.take_succ_cons, List.take_zero, List.drop_succ_cons, List.drop_zero]
  repeat still_step
  refine wpStill_nil ?_
  go_upto_region 14 with (first
    | (refine wpList_store_row rfl _ _ _ rfl (w.heap.size + 1 + 1 + 1) (oc (⟨r, n, vecOf [x0, x1, x2, x3, x4, x5, x6, x7], tm, who, cr, cn, kd, dr, dn, tt, ro, de, cap, ar, an, vr, vn, it, qt, pr, .slice none 0 0⟩)) rfl rfl 50 (oc zeroO) ?_ (opSize _) rfl (oneO _ rfl) ?_; (focus exact heap_keep E3.out HWD.out)))
  have HT0 := hid (show TS w.heap.size w10.heap.size g9 w (wd.setRow (w.heap.size + 1 + 1 + 1) (oc (⟨r, n, vecOf [x0, x1, x2, x3, x4, x5, x6, x7], tm, who, cr, cn, kd, dr, dn, tt, ro, de, cap, ar, an, vr, vn, it, qt, pr, .slice none 0 0⟩))) s17 (.slice none 0 0) [] #[.int .u8 (r : Int), .int .u32 (n : Int), .int .u32 (x0 : Int), .int .u32 (x1 : Int), .int .u32 (x2 : Int), .int .u32 (x3 : Int), .int .u32 (x4 : Int), .int .u32 (x5 : Int), .int .u32 (x6 : Int), .int .u32 (x7 : Int), .int .u64 (tm : Int), .int .u32 (who : Int), .int .u8 (cr : Int), .int .u32 (cn : Int), .int .u8 (kd : Int), .int .u8 (dr : Int), .int .u32 (dn : Int), .int .u32 (tt : Int), .int .u8 (ro : Int), .int .u8 (de : Int), .int .u64 (cap : Int), .int .u8 (ar : Int), .int .u32 (an : Int), .int .u8 (vr : Int), .int .u32 (vn : Int), .int .u32 (it : Int), .int .u32 (qt : Int), .int .u32 (pr : Int), .slice none 0 0] nl from
    ⟨row_ne (heap_keep E1.out HWD.out) (by omega), row_ne (heap_keep E2.out HWD.out) (by omega), setRow_heap _ _ _ _ _ _ (heap_keep E3.out HWD.out), by rw [HX.out]; exact row_ne (heap_keep E0.out HWD.out) (by have := HG9.out; omega), ⟨rfl, .inl ⟨rfl, rfl⟩⟩,
      (World.cell?_of_block (a := ⟨g9, 3, none⟩) (row_ne rfl (by have := HG9.out; show w.heap.size + 1 + 1 + 1 ≠ g9; omega))).trans (cell_keep (below_next HBB.out HWD.out) G9_3.out), below_row (below_next HBW.out HWD.out) (by omega) _, HG9.out.2.2, HG9.out.1, HG9.out.2.1⟩)
  generalize wd.setRow (w.heap.size + 1 + 1 + 1) (oc (⟨r, n, vecOf [x0, x1, x2, x3, x4, x5, x6, x7], tm, who, cr, cn, kd, dr, dn, tt, ro, de, cap, ar, an, vr, vn, it, qt, pr, .slice none 0 0⟩)) = wL at HT0 ⊢
  clear E0 E1 E2 E3 HBB HBW HS10 HWD D0a D0b D3a D3b D5a D5b D7a D7b D8a D8b D1_0 D1_1 D1_2 D1_3 D1_4 D1_5 D1_6 D1_7 G2_0c G2_1c G6_0c G6_1c G6_2c G6_3c G9_0c G9_1c G9_2c G9_3c u3 u5 u7 u8 u9 u13 u14 u15 K0 K1 K2 K3 D0 D1 D3 D5 D7 D8 G2_0 G2_1 G6_0 G6_1 G6_2 G6_3 G9_0 G9_1 G9_2 G9_3 HBD HB10 r0 r1
  have hcntL := HT0.out.cnt
  obtain ⟨i0, hi, hz0, hz1, hz2⟩ := info_parts infoClaim
  have hnl : nl ≤ 16 := HNL16.out
  go_loopw [25] (fun i wr => ∃ k : Nat, k ≤ nl ∧ i = .int .u64 k ∧ ∃ v, TS w.heap.size w10.heap.size g9 w wr (takeLs k s17).2 v (takeLs k s17).1 #[.int .u8 (r : Int), .int .u32 (n : Int), .int .u32 (x0 : Int), .int .u32 (x1 : Int), .int .u32 (x2 : Int), .int .u32 (x3 : Int), .int .u32 (x4 : Int), .int .u32 (x5 : Int), .int .u32 (x6 : Int), .int .u32 (x7 : Int), .int .u64 (tm : Int), .int .u32 (who : Int), .int .u8 (cr : Int), .int .u32 (cn : Int), .int .u8 (kd : Int), .int .u8 (dr : Int), .int .u32 (dn : Int), .int .u32 (tt : Int), .int .u8 (ro : Int), .int .u8 (de : Int), .int .u64 (cap : Int), .int .u8 (ar : Int), .int .u32 (an : Int), .int .u8 (vr : Int), .int .u32 (vn : Int), .int .u32 (it : Int), .int .u32 (qt : Int), .int .u32 (pr : Int), v] nl) (fun i _ => nl - (intOf i).toNat)
  case atStart => exact ⟨0, by omega, rfl, .slice none 0 0, HT0.out⟩
  case round =>
    obtain ⟨k, hk, rfl, v, hT⟩ := hrel
    obtain ⟨W0, rfl⟩ : ∃ W, W = wr := ⟨_, rfl⟩
    have hcnt := hT.cnt
    by_cases hlt : k < nl
    · have t1 : decide ((k : Int) < (nl : Int)) = true := decide_eq_true (by omega)
      have hlen := takeLs_len k s17
      have hsmk := small_takeLs HSM.out k
      obtain ⟨lk, sk, hk2⟩ : ∃ a b, takeLs k s17 = (a, b) := ⟨_, _, rfl⟩
      have HK2 := hid hk2
      rw [hk2] at hT hlen hsmk
      dsimp only at hT hlen hsmk
      cases sk with
      | none =>
        have HNONE := hid (show (takeLs nl s17).2 = none from by have := takeLs_none s17 k (nl - k) (by rw [hk2]); rwa [show k + (nl - k) = nl by omega] at this)
        have HT := hid hT
        clear hT hk2 hlen hsmk
        have hrow := HT.out.row
        have c0 := (cells2 hrow).1
        have c1 := (cells2 hrow).2
        have HONE := hid (show (zeroO).lv.oneCell' = true from rfl)
        clear hrow
        go_upto_region 21 with (fail)
        clear c0 c1 hcnt
        have HTD := hid (HT.out.keep (below_dr W0))
        refine wp_region_noPanic ?_
        refine wp_region_ord (S := (fun w' => w'.cell? ⟨w10.heap.size, 0, none⟩ = some (.string ⟨#[]⟩) ∧ w'.cell? ⟨w10.heap.size, 1, none⟩ = some (.bool false) ∧ OpAt w' (w.heap.size + 1 + 1 + 1) (setL (⟨r, n, vecOf [x0, x1, x2, x3, x4, x5, x6, x7], tm, who, cr, cn, kd, dr, dn, tt, ro, de, cap, ar, an, vr, vn, it, qt, pr, .slice none 0 0⟩) v))) [(0, 0), (1, 0), (2, 1), (3, 7)] [(0, 0), (1, 1), (2, 3), (3, 7)] [0, 1, 2, 3] (by kernel_rfl) (by kernel_rfl) (by kernel_rfl) (by kernel_rfl) rfl rfl (fun _ _ _ _ _ h => h) ⟨(cells2 HTD.out.row).1, (cells2 HTD.out.row).2, HTD.out.op⟩ (fun hHeld => ?_)
        refine held_take (v := ?_) (at_drop rfl) rfl rfl ?_ ?_
        rotate_left
        · (intro w' hSw; clear hSw; go_simp; try with_reducible rfl)
        try simp only [Act.put, List.setIfInBounds_toArray, List.set_cons_zero, List.set_cons_succ]
        refine held_take (v := ?_) (at_drop rfl) rfl rfl ?_ ?_
        rotate_left
        · (intro w' hSw; obtain ⟨hS0, hS1, _⟩ := hSw; go_simp; try with_reducible rfl)
        try simp only [Act.put, List.setIfInBounds_toArray, List.set_cons_zero, List.set_cons_succ]
        refine held_op (at_drop rfl) rfl rfl (fun K hK => ?_)
        refine wp_store_row 50 _ _ rfl (w.heap.size + 1) (oc zeroO) rfl rfl 50 (oc zeroO) HTD.out.res (opSize _) rfl (oneO _ HONE.out) ?_
        refine hK.out _ _ ?_ (fun hNew => ?_)
        · exact ⟨(World.cell?_of_block (a := ⟨w10.heap.size, 0, none⟩) (row_ne rfl (by have := HTD.out.h1; show w.heap.size + 1 ≠ w10.heap.size; omega))).trans hHeld.1, (World.cell?_of_block (a := ⟨w10.heap.size, 1, none⟩) (row_ne rfl (by have := HTD.out.h1; show w.heap.size + 1 ≠ w10.heap.size; omega))).trans hHeld.2.1, row_ne hHeld.2.2 (by omega)⟩
        clear hHeld hK K
        have hHeld := hNew
        clear hNew
        try simp only [Act.put, List.setIfInBounds_toArray, List.set_cons_zero, List.set_cons_succ]
        refine held_op (at_drop rfl) rfl rfl (fun K hK => ?_)
        refine wp_store_row 78 _ _ rfl (w.heap.size + 1 + 1) (rcells none) rfl rfl 78 (rcells none) (row_ne HTD.out.rres (by omega)) (by kernel_rfl) rfl (one_row none) ?_
        refine hK.out _ _ ?_ (fun hNew => ?_)
        · exact ⟨(World.cell?_of_block (a := ⟨w10.heap.size, 0, none⟩) (row_ne rfl (by have := HTD.out.h1; show w.heap.size + 1 + 1 ≠ w10.heap.size; omega))).trans hHeld.1, (World.cell?_of_block (a := ⟨w10.heap.size, 1, none⟩) (row_ne rfl (by have := HTD.out.h1; show w.heap.size + 1 + 1 ≠ w10.heap.size; omega))).trans hHeld.2.1, row_ne hHeld.2.2 (by omega)⟩
        clear hHeld hK K hNew
        try simp only [Act.put, List.setIfInBounds_toArray, List.set_cons_zero, List.set_cons_succ]
        refine NoPanic.normal ?_
        go_wp2
        exact bodyPost_ret (results_two_rows rfl _ _ (w.heap.size + 1) (w.heap.size + 1 + 1) 50 78 (oc zeroO) (rcells none) (0, 0) (0, 0) _ _ rfl (row_ne (setRow_heap _ _ _ _ _ _ HTD.out.res) (by omega)) Try.underlying50 rfl (opSize _) rfl (setRow_heap _ _ _ _ _ _ (row_ne HTD.out.rres (by omega))) Try.underlying78 rfl (by kernel_rfl)) rfl ⟨.slice none 0 0, by rw [← HFIN.out.1, ← HFIN.out.2.2, HNONE.out]; rfl, by rw [← HFIN.out.2.1, HNONE.out]; exact ClaimsF.nil _ _, below_row (below_row HTD.out.below (by omega) _) (by omega) _⟩
      | some rk =>
        obtain ⟨a1, b1, t1', e1⟩ : ∃ a b s, takeDot (some rk) = ((a, b), s) := ⟨_, _, _, rfl⟩
        obtain ⟨a2, b2, t2', e2⟩ : ∃ a b s, takeDot t1' = ((a, b), s) := ⟨_, _, _, rfl⟩
        have hnext : takeLs (k + 1) s17 = (lk ++ [((a1, b1), (a2, b2))], t2') := by rw [takeLs, hk2]; dsimp only; rw [e1]; dsimp only; rw [e2]
        have hsm1 : Small t1' := by have := small_takeDot hsmk; rw [e1] at this; exact this
        obtain ⟨Y1, y1, hY1⟩ := rcells_form t1'
        obtain ⟨Y2, y2, hY2⟩ := rcells_form t2'
        have kA : ∀ W, Calls Try.prog 81 #[.agg #[.string (ba rk), .bool true]] W fun e w' => e = .returned (.tuple #[.agg #[.int .u8 (a1 : Int), .int .u32 (b1 : Int)], .agg #[.string Y1, .bool y1]]) ∧ Below W.heap.size W w' := fun W => by
          have h := ref_TakeDot (some rk) hsmk W
          rw [e1] at h
          dsimp only at h
          rw [hY1] at h
          exact h
        have kB : ∀ W, Calls Try.prog 81 #[.agg #[.string Y1, .bool y1]] W fun e w' => e = .returned (.tuple #[.agg #[.int .u8 (a2 : Int), .int .u32 (b2 : Int)], .agg #[.string Y2, .bool y2]]) ∧ Below W.heap.size W w' := fun W => by
          have h := ref_TakeDot t1' hsm1 W
          rw [e2] at h
          dsimp only at h
          rw [hY1, hY2] at h
          exact h
        have hrow := hT.row
        have HRE := hid (show rcells (some rk) = #[.string (ba rk), .bool true] from rfl)
        have c0 : W0.cell? ⟨w10.heap.size, 0, none⟩ = some (.string (ba rk)) := (cells2 hrow).1
        have c1 : W0.cell? ⟨w10.heap.size, 1, none⟩ = some (.bool true) := (cells2 hrow).2
        have HT := hid hT
        have HN := hid (And.intro hnext (And.intro hlen hY2))
        have ulen : IntKind.u64.wrap ((k : Int) + 1) = ((k + 1 : Nat) : Int) := by rw [wrap_u64]; omega
        clear hT hk2 hlen hsmk e1 e2 hnext hsm1 hY1 hY2 hrow
        generalize ba rk = X at kA c0 c1 HRE
        go_upto_region 18 with (first
          | (go_at_call 81; (with_reducible refine (kA _).mono ?_); rintro e wa ⟨rfl, hB⟩; have HTa := hid (HT.out.keep hB); clear hB c0 c1 kA)
          | (go_at_call 81; (with_reducible refine (kB _).mono ?_); rintro e wb ⟨rfl, hB⟩; have HTb := hid (HTa.out.keep (below_next (below_al2 wa _ _) hB)); have DA := hid (heap_keep (heap_al (heap_alloc_last' wa _) _) hB); clear hB kB))
        have RB := hid (last2 wb (.cells #[.int .u8 (a2 : Int), .int .u32 (b2 : Int)] 46) (.cells #[.string Y2, .bool y2] 78))
        have DB := hid (heap_al (heap_alloc_last' wb (.cells #[.int .u8 (a2 : Int), .int .u32 (b2 : Int)] 46)) (.cells #[.string Y2, .bool y2] 78))
        have DA2 := hid (heap_al (heap_al DA.out (.cells #[.int .u8 (a2 : Int), .int .u32 (b2 : Int)] 46)) (.cells #[.string Y2, .bool y2] 78))
        have HTc := hid (HTb.out.keep (below_al2 wb (.cells #[.int .u8 (a2 : Int), .int .u32 (b2 : Int)] 46) (.cells #[.string Y2, .bool y2] 78)))
        have hneA : w10.heap.size < wa.heap.size := lt_of_heap HTa.out.row
        have hneB : w10.heap.size < wb.heap.size := lt_of_heap HTb.out.row
        have HNE := hid (And.intro hneA hneB)
        clear DA hneA hneB hcnt
        generalize (wb.alloc (.cells #[.int .u8 (a2 : Int), .int .u32 (b2 : Int)] 46)).alloc (.cells #[.string Y2, .bool y2] 78) = wc at RB DB DA2 HTc ⊢
        have hrow : wc.heap[w10.heap.size]? = some (.cells #[.string X, .bool true] 78 (0, 0)) := by have := HTc.out.row; rwa [HRE.out] at this
        have c0 := (cells2 hrow).1
        have c1 := (cells2 hrow).2
        have c2 := fun j => freeV hrow j
        have d0 := (cells2 RB.out).1
        have d1 := (cells2 RB.out).2
        have HROW := hid hrow
        clear hrow
        go_upto_region 19 with (fail)
        have HTe := hid (TS.put HTc.out HRE.out HN.out.2.2)
        have DA3 := hid (heap_n (b' := w10.heap.size) (k := 1) (v := .bool y2) (heap_n (b' := w10.heap.size) (k := 0) (v := .string Y2) DA2.out (by have := HNE.out.1; omega)) (by have := HNE.out.1; omega))
        have DB3 := hid (heap_n (b' := w10.heap.size) (k := 1) (v := .bool y2) (heap_n (b' := w10.heap.size) (k := 0) (v := .string Y2) DB.out (by have := HNE.out.2; omega)) (by have := HNE.out.2; omega))
        clear c0 c1 c2 d0 d1 RB DB DA2 HTc HROW
        generalize (wc.setCell ⟨w10.heap.size, 0, none⟩ (.string Y2)).setCell ⟨w10.heap.size, 1, none⟩ (.bool y2) = we at HTe DA3 DB3 ⊢
        have a0 := (cells2 DA3.out).1
        have a1' := (cells2 DA3.out).2
        have b0 := (cells2 DB3.out).1
        have b1' := (cells2 DB3.out).2
        have o28 := (cell_of_heap (j := 28) HTe.out.op).trans (show _ = some v from rfl)
        have HLT := hid (lt_of_heap HTe.out.row)
        go_wp2_with (first
          | (at_builtin; refine wpList_append_own _ rfl (.tmp 149) (.tmp 153) 48 rfl (w10.heap.size + 1) 92 i0 (.agg #[.int .u8 0, .int .u32 0, .int .u8 0, .int .u32 0]) 4 16 Try.underlying48 hi hz0 hz1 hz2 rfl (by decide) v _ _ rfl (HTe.out.out.alloc _) ⟨we.heap.size, 0, none⟩ 1 1 (cl ((a1, b1), (a2, b2))).toList rfl rfl (cells_new4 _ _ _ rfl) (one_claim _) (by have := HN.out.2.1; unfold maxLen; omega) (by have := HN.out.2.1; omega) (size_alloc_le HLT.out _) ?_; intro v3 w3 hown3 hgr _; obtain ⟨p3, q3, rfl⟩ := owns_form hown3; have HB3 := hid (below_app1 (B := w10.heap.size + 1) HLT.out HTe.out.out hgr); have ho3 := owns_more (x := ((a1, b1), (a2, b2))) hown3; have HTf := hid (TS.base HTe.out HB3.out ho3); have f28 := (cell_of_heap (j := 28) HTf.out.op).trans (show _ = some v from rfl); have zf := freeV HTf.out.op 28; clear hown3 hgr a0 a1' b0 b1' o28))
        go_roundw
        case rel => exact ⟨k + 1, by omega, by go_num, .slice p3 (lk.length + 1) q3, by rw [HN.out.1]; exact HTf.out.line rfl⟩
        case measure => simp [intOf]; omega
    · obtain rfl : k = nl := by omega
      have t1 : decide ((k : Int) < (k : Int)) = false := decide_eq_false (by omega)
      obtain ⟨sk, hsk⟩ : ∃ s, (takeLs k s17).2 = s := ⟨_, rfl⟩
      cases sk with
      | none =>
        have HNONE := hid hsk
        rw [hsk] at hT
        have HT := hid hT
        clear hT hsk
        have hrow := HT.out.row
        have c0 := (cells2 hrow).1
        have c1 := (cells2 hrow).2
        have HONE := hid (show (zeroO).lv.oneCell' = true from rfl)
        clear hrow
        go_upto_region 21 with (fail)
        clear c0 c1 hcnt
        have HTD := hid (HT.out.keep (below_dr W0))
        refine wp_region_noPanic ?_
        refine wp_region_ord (S := (fun w' => w'.cell? ⟨w10.heap.size, 0, none⟩ = some (.string ⟨#[]⟩) ∧ w'.cell? ⟨w10.heap.size, 1, none⟩ = some (.bool false) ∧ OpAt w' (w.heap.size + 1 + 1 + 1) (setL (⟨r, n, vecOf [x0, x1, x2, x3, x4, x5, x6, x7], tm, who, cr, cn, kd, dr, dn, tt, ro, de, cap, ar, an, vr, vn, it, qt, pr, .slice none 0 0⟩) v))) [(0, 0), (1, 0), (2, 1), (3, 7)] [(0, 0), (1, 1), (2, 3), (3, 7)] [0, 1, 2, 3] (by kernel_rfl) (by kernel_rfl) (by kernel_rfl) (by kernel_rfl) rfl rfl (fun _ _ _ _ _ h => h) ⟨(cells2 HTD.out.row).1, (cells2 HTD.out.row).2, HTD.out.op⟩ (fun hHeld => ?_)
        refine held_take (v := ?_) (at_drop rfl) rfl rfl ?_ ?_
        rotate_left
        · (intro w' hSw; clear hSw; go_simp; try with_reducible rfl)
        try simp only [Act.put, List.setIfInBounds_toArray, List.set_cons_zero, List.set_cons_succ]
        refine held_take (v := ?_) (at_drop rfl) rfl rfl ?_ ?_
        rotate_left
        · (intro w' hSw; obtain ⟨hS0, hS1, _⟩ := hSw; go_simp; try with_reducible rfl)
        try simp only [Act.put, List.setIfInBounds_toArray, List.set_cons_zero, List.set_cons_succ]
        refine held_op (at_drop rfl) rfl rfl (fun K hK => ?_)
        refine wp_store_row 50 _ _ rfl (w.heap.size + 1) (oc zeroO) rfl rfl 50 (oc zeroO) HTD.out.res (opSize _) rfl (oneO _ HONE.out) ?_
        refine hK.out _ _ ?_ (fun hNew => ?_)
        · exact ⟨(World.cell?_of_block (a := ⟨w10.heap.size, 0, none⟩) (row_ne rfl (by have := HTD.out.h1; show w.heap.size + 1 ≠ w10.heap.size; omega))).trans hHeld.1, (World.cell?_of_block (a := ⟨w10.heap.size, 1, none⟩) (row_ne rfl (by have := HTD.out.h1; show w.heap.size + 1 ≠ w10.heap.size; omega))).trans hHeld.2.1, row_ne hHeld.2.2 (by omega)⟩
        clear hHeld hK K
        have hHeld := hNew
        clear hNew
        try simp only [Act.put, List.setIfInBounds_toArray, List.set_cons_zero, List.set_cons_succ]
        refine held_op (at_drop rfl) rfl rfl (fun K hK => ?_)
        refine wp_store_row 78 _ _ rfl (w.heap.size + 1 + 1) (rcells none) rfl rfl 78 (rcells none) (row_ne HTD.out.rres (by omega)) (by kernel_rfl) rfl (one_row none) ?_
        refine hK.out _ _ ?_ (fun hNew => ?_)
        · exact ⟨(World.cell?_of_block (a := ⟨w10.heap.size, 0, none⟩) (row_ne rfl (by have := HTD.out.h1; show w.heap.size + 1 + 1 ≠ w10.heap.size; omega))).trans hHeld.1, (World.cell?_of_block (a := ⟨w10.heap.size, 1, none⟩) (row_ne rfl (by have := HTD.out.h1; show w.heap.size + 1 + 1 ≠ w10.heap.size; omega))).trans hHeld.2.1, row_ne hHeld.2.2 (by omega)⟩
        clear hHeld hK K hNew
        try simp only [Act.put, List.setIfInBounds_toArray, List.set_cons_zero, List.set_cons_succ]
        refine NoPanic.normal ?_
        go_wp2
        exact bodyPost_ret (results_two_rows rfl _ _ (w.heap.size + 1) (w.heap.size + 1 + 1) 50 78 (oc zeroO) (rcells none) (0, 0) (0, 0) _ _ rfl (row_ne (setRow_heap _ _ _ _ _ _ HTD.out.res) (by omega)) Try.underlying50 rfl (opSize _) rfl (setRow_heap _ _ _ _ _ _ (row_ne HTD.out.rres (by omega))) Try.underlying78 rfl (by kernel_rfl)) rfl ⟨.slice none 0 0, by rw [← HFIN.out.1, ← HFIN.out.2.2, HNONE.out]; rfl, by rw [← HFIN.out.2.1, HNONE.out]; exact ClaimsF.nil _ _, below_row (below_row HTD.out.below (by omega) _) (by omega) _⟩
      | some rr =>
        have HSOME := hid hsk
        rw [hsk] at hT
        have HT := hid hT
        clear hT hsk
        have hrow := HT.out.row
        have c0 := (cells2 hrow).1
        have c1 := (cells2 hrow).2
        obtain ⟨p3, q3, rfl⟩ := owns_formG HT.out.out
        have HONE := hid (show (setL (⟨r, n, vecOf [x0, x1, x2, x3, x4, x5, x6, x7], tm, who, cr, cn, kd, dr, dn, tt, ro, de, cap, ar, an, vr, vn, it, qt, pr, .slice none 0 0⟩) (.slice p3 (takeLs k s17).1.length q3)).lv.oneCell' = true from rfl)
        clear hrow
        go_upto_region 22 with (fail)
        clear c0 c1 hcnt
        have HTD := hid (HT.out.keep (below_dr W0))
        refine wp_region_noPanic ?_
        refine wp_region_ord (S := (fun w' => w'.cell? ⟨w10.heap.size, 0, none⟩ = some (.string (ba rr)) ∧ w'.cell? ⟨w10.heap.size, 1, none⟩ = some (.bool true) ∧ OpAt w' (w.heap.size + 1 + 1 + 1) (setL (⟨r, n, vecOf [x0, x1, x2, x3, x4, x5, x6, x7], tm, who, cr, cn, kd, dr, dn, tt, ro, de, cap, ar, an, vr, vn, it, qt, pr, .slice none 0 0⟩) (.slice p3 (takeLs k s17).1.length q3)))) [(0, 0), (1, 0), (2, 1), (3, 7)] [(0, 0), (1, 1), (2, 3), (3, 7)] [0, 1, 2, 3] (by kernel_rfl) (by kernel_rfl) (by kernel_rfl) (by kernel_rfl) rfl rfl (fun _ _ _ _ _ h => h) ⟨(cells2 HTD.out.row).1, (cells2 HTD.out.row).2, HTD.out.op⟩ (fun hHeld => ?_)
        refine held_take (v := .agg (oc (setL (⟨r, n, vecOf [x0, x1, x2, x3, x4, x5, x6, x7], tm, who, cr, cn, kd, dr, dn, tt, ro, de, cap, ar, an, vr, vn, it, qt, pr, .slice none 0 0⟩) (.slice p3 (takeLs k s17).1.length q3)))) (at_drop rfl) rfl rfl (fun w' hSw => run_load_op _ rfl (w.heap.size + 1 + 1 + 1) rfl _ hSw.2.2) ?_
        try simp only [Act.put, List.setIfInBounds_toArray, List.set_cons_zero, List.set_cons_succ]
        refine held_take (v := ?_) (at_drop rfl) rfl rfl ?_ ?_
        rotate_left
        · (intro w' hSw; obtain ⟨hS0, hS1, _⟩ := hSw; go_simp; try with_reducible rfl)
        try simp only [Act.put, List.setIfInBounds_toArray, List.set_cons_zero, List.set_cons_succ]
        refine held_op (at_drop rfl) rfl rfl (fun K hK => ?_)
        refine wp_store_row 50 _ _ rfl (w.heap.size + 1) (oc (setL (⟨r, n, vecOf [x0, x1, x2, x3, x4, x5, x6, x7], tm, who, cr, cn, kd, dr, dn, tt, ro, de, cap, ar, an, vr, vn, it, qt, pr, .slice none 0 0⟩) (.slice p3 (takeLs k s17).1.length q3))) rfl rfl 50 (oc zeroO) HTD.out.res (opSize _) rfl (oneO _ HONE.out) ?_
        refine hK.out _ _ ?_ (fun hNew => ?_)
        · exact ⟨(World.cell?_of_block (a := ⟨w10.heap.size, 0, none⟩) (row_ne rfl (by have := HTD.out.h1; show w.heap.size + 1 ≠ w10.heap.size; omega))).trans hHeld.1, (World.cell?_of_block (a := ⟨w10.heap.size, 1, none⟩) (row_ne rfl (by have := HTD.out.h1; show w.heap.size + 1 ≠ w10.heap.size; omega))).trans hHeld.2.1, row_ne hHeld.2.2 (by omega)⟩
        clear hHeld hK K
        have hHeld := hNew
        clear hNew
        try simp only [Act.put, List.setIfInBounds_toArray, List.set_cons_zero, List.set_cons_succ]
        refine held_op (at_drop rfl) rfl rfl (fun K hK => ?_)
        refine wp_store_row 78 _ _ rfl (w.heap.size + 1 + 1) (#[.string (ba rr), .bool true]) rfl rfl 78 (rcells none) (row_ne HTD.out.rres (by omega)) (by kernel_rfl) rfl (one_row (some rr)) ?_
        refine hK.out _ _ ?_ (fun hNew => ?_)
        · exact ⟨(World.cell?_of_block (a := ⟨w10.heap.size, 0, none⟩) (row_ne rfl (by have := HTD.out.h1; show w.heap.size + 1 + 1 ≠ w10.heap.size; omega))).trans hHeld.1, (World.cell?_of_block (a := ⟨w10.heap.size, 1, none⟩) (row_ne rfl (by have := HTD.out.h1; show w.heap.size + 1 + 1 ≠ w10.heap.size; omega))).trans hHeld.2.1, row_ne hHeld.2.2 (by omega)⟩
        clear hHeld hK K hNew
        try simp only [Act.put, List.setIfInBounds_toArray, List.set_cons_zero, List.set_cons_succ]
        refine NoPanic.normal ?_
        go_wp2
        exact bodyPost_ret (results_two_rows rfl _ _ (w.heap.size + 1) (w.heap.size + 1 + 1) 50 78 (oc (setL (⟨r, n, vecOf [x0, x1, x2, x3, x4, x5, x6, x7], tm, who, cr, cn, kd, dr, dn, tt, ro, de, cap, ar, an, vr, vn, it, qt, pr, .slice none 0 0⟩) (.slice p3 (takeLs k s17).1.length q3))) (#[.string (ba rr), .bool true]) (0, 0) (0, 0) _ _ rfl (row_ne (setRow_heap _ _ _ _ _ _ HTD.out.res) (by omega)) Try.underlying50 rfl (opSize _) rfl (setRow_heap _ _ _ _ _ _ (row_ne HTD.out.rres (by omega))) Try.underlying78 rfl (by kernel_rfl)) rfl ⟨_, by rw [← HFIN.out.1, ← HFIN.out.2.2, HSOME.out]; rfl, by rw [← HFIN.out.2.1, HSOME.out]; exact owns_claimsF (owns_rowG (owns_rowG HTD.out.out (by have := HTD.out.h1; omega)) (by have := HTD.out.h1; omega)) (takeLs_ok k s17) (by have := HTD.out.h1; omega), below_row (below_row HTD.out.below (by omega) _) (by omega) _⟩

end Go.Proofs.Ytagjgknkkbkjgaa.V
