/-
  Dots, from package dot (layer 3): valid ones, rows of them in memory, dot.Range; rows compared.
-/
import Derived.Test.YtckfdjfcikljaaaProg
import Derived.Test.YtckfdjfcikljaaaLater
import Derived.LoopTactic
import Derived.Maps.OwnIn
import Derived.Laws.StructEq
import Derived.Maps.AppendAt
import Derived.Laws.OwnMore
import Derived.Laws.AppendOwnNone
import Derived.Laws.MakeOwn
import Derived.Sort.Grow
import Derived.Outline
namespace Go.Proofs.Ytckfdjfcikljaaa
set_option linter.unusedVariables false
set_option linter.unusedSimpArgs false
open Go Go.RowKit Go.Maps Go.Sort

theorem hid {p : Prop} (h : p) : Hid p := h

theorem ret_int {k : IntKind} {a b : Int} (h : a = b) : Ending.returned (.int k a) = .returned (.int k b) := by rw [h]

/-- A dot: its replica and its number. -/
abbrev Dot := Nat × Nat

def Dot.enc (d : Dot) : List Value := [.int .u8 (d.1 : Int), .int .u32 (d.2 : Int)]

def Dot.ok (d : Dot) : Prop := d.1 < 256 ∧ d.2 < 4294967296

/-- What lay before reads behind a call as it read. -/
theorem bcell {W w1 : World} (hb : Below W.heap.size W w1) : (∀ b o, b < W.heap.size → w1.cell? ⟨b, o, none⟩ = W.cell? ⟨b, o, none⟩) ∧ (∀ b o, b < W.heap.size → w1.frozen? ⟨b, o, none⟩ = W.frozen? ⟨b, o, none⟩) :=
  ⟨fun b o h => hb.cell (p := ⟨b, o, none⟩) h, fun b o h => hb.frozen (p := ⟨b, o, none⟩) h⟩

/-- dot.May. -/
def mayD (d : Dot) : Bool := decide (d.1 < 8) && decide (d.2 ≠ 0)

theorem dot_May (d : Dot) (w : World) :
    Calls Try.prog 31 #[.agg #[.int .u8 (d.1 : Int), .int .u32 (d.2 : Int)]] w fun e w' => e = .returned (.bool (mayD d)) ∧ Below w.heap.size w w' := by
  obtain ⟨r, n⟩ := d
  by_cases h1 : r < 8
  · by_cases h2 : n = 0
    · subst h2
      go_enter Try.func31, Try.ntmps31
      go_wp2
      go_ret
      exact ⟨by simp [mayD], (Below.refl _ _).alloc (Nat.le_refl _) _⟩
    · have h2' : ((n : Int) == 0) = false := by simpa using h2
      have h3' : ((n : Int) != 0) = true := by simpa using h2
      go_enter Try.func31, Try.ntmps31
      go_wp2
      go_ret
      exact ⟨by simp [mayD, h1, h2], (Below.refl _ _).alloc (Nat.le_refl _) _⟩
  · go_enter Try.func31, Try.ntmps31
    go_wp2
    go_ret
    exact ⟨by simp [mayD, h1], (Below.refl _ _).alloc (Nat.le_refl _) _⟩

theorem ref_May (d : Dot) (w : World) :
    Calls Try.prog 32 #[.agg #[.int .u8 (d.1 : Int), .int .u32 (d.2 : Int)]] w fun e w' => e = .returned (.bool (mayD d)) ∧ Below w.heap.size w w' := by
  obtain ⟨r, n⟩ := d
  by_cases h1 : r < 8
  · by_cases h2 : n = 0
    · subst h2
      go_enter Try.func32, Try.ntmps32
      go_wp2
      go_ret
      exact ⟨by simp [mayD], (Below.refl _ _).alloc (Nat.le_refl _) _⟩
    · go_enter Try.func32, Try.ntmps32
      go_wp2
      go_ret
      exact ⟨by simp [mayD, h1, h2]; omega, (Below.refl _ _).alloc (Nat.le_refl _) _⟩
  · go_enter Try.func32, Try.ntmps32
    go_wp2
    go_ret
    exact ⟨by simp [mayD, h1], (Below.refl _ _).alloc (Nat.le_refl _) _⟩

theorem ret_pair {k l : IntKind} {a b c : Int} (h : a = b) : Ending.returned (.tuple #[.int k a, .int l c]) = .returned (.tuple #[.int k b, .int l c]) := by rw [h]

theorem ret_u64 {a b : Int} (h : a = b) : Ending.returned (.int .u64 a) = .returned (.int .u64 b) := by rw [h]

theorem below_drewN (B : Nat) (w : World) (q : Nat) : Below B w (w.drewN q) := ⟨rfl, rfl, rfl, Nat.le_refl _, fun _ _ => rfl⟩

theorem results_row_tmp {P : Program} {fn : Func} {u p : Tmp} {ty : TypeId} (h : fn.results = #[.cell p ty, .tmp u]) (tmps : Array Value) (w : World) (g : Nat) (t : TypeId) (cs : Array Value) (fr : Nat × Nat) (d : TypeDesc) (v : Value)
    (hv : tmps.getD u undef = v) (hp : tmps.getD p undef = .pointer (some ⟨g, 0, none⟩)) (hg : w.heap[g]? = some (.cells cs t fr))
    (hu : P.underlying ty = some d) (hd : (match d with | .struct _ | .array _ _ => true | _ => false) = true) (hi : (P.info? ty).map (·.size) = some cs.size) :
    (results fn tmps).run P w = .ok (.tuple #[.agg cs, v]) w := by
  have hp' : tmps[p]?.getD undef = .pointer (some ⟨g, 0, none⟩) := by simpa using hp
  have hv' : tmps[u]?.getD undef = v := by simpa using hv
  simp [results, h, hp', hv', asAddr, run_loadVar_row w g t ty cs fr d hg hu hd hi]

theorem heap_alloc_last' (w : World) (o : Obj) : (w.alloc o).heap[w.heap.size]? = some o := by
  show (w.heap.push o)[w.heap.size]? = _
  simp

/-- The cells of a row of dots. -/
def flat (l : List Dot) : List Value := l.flatMap Dot.enc

theorem flat_snoc (l : List Dot) (r n : Nat) : flat (l ++ [(r, n)]) = flat l ++ [.int .u8 (r : Int), .int .u32 (n : Int)] := by simp [flat, Dot.enc]

theorem infoDot : (Try.prog.info? 26).map (fun i => (i.zero, i.size, i.bytes)) = some (some (.agg #[.int .u8 0, .int .u32 0]), 2, 8) := by kernel_rfl

theorem cells_two_new (W : World) (u v : Value) (t : TypeId) : ∀ j z, [u, v][j]? = some z → (W.alloc (.cells #[u, v] t)).cell? ((⟨W.heap.size, 0, none⟩ : Addr).add j) = some z := by
  intro j z h
  match j, h with
  | 0, h => simp at h; subst h; simp [Addr.add]
  | 1, h => simp at h; subst h; simp [Addr.add]
  | j + 2, h => simp at h

/-- A slice that reads as these dots. -/
def IsDots (w : World) (a : Option Addr) (len cap : Nat) (xs : List Dot) : Prop :=
  xs.length = len ∧ len ≤ cap ∧ cap ≤ maxLen ∧ (∀ x ∈ xs, x.ok) ∧
    match a with
    | none => len = 0 ∧ cap = 0
    | some ad => ∀ i x, xs[i]? = some x → w.cell? (ad.add (i * 2)) = some (.int .u8 (x.1 : Int)) ∧ w.cell? ((ad.add (i * 2)).add 1) = some (.int .u32 (x.2 : Int))

theorem cell_lt {w : World} {a : Addr} {v : Value} (h : w.cell? a = some v) : a.block < w.heap.size := World.block_lt_of_cell? w a h

theorem cell_keep {w w' : World} {a : Addr} {v : Value} (hb : Below w.heap.size w w') (h : w.cell? a = some v) : w'.cell? a = some v := by
  rw [← h]; exact World.cell?_of_block (hb.block _ (cell_lt h))

theorem IsDots.keep {w w' : World} {a : Option Addr} {len cap : Nat} {xs : List Dot} (h : IsDots w a len cap xs) (hb : Below w.heap.size w w') : IsDots w' a len cap xs := by
  obtain ⟨h1, h2, h3, h4, h5⟩ := h
  refine ⟨h1, h2, h3, h4, ?_⟩
  cases a with
  | none => exact h5
  | some ad => exact fun i x hx => ⟨cell_keep hb (h5 i x hx).1, cell_keep hb (h5 i x hx).2⟩

theorem IsDots.at {w : World} {ad : Addr} {len cap : Nat} {xs : List Dot} (h : IsDots w (some ad) len cap xs) (i : Nat) (hi : i < len) :
    ∃ (r n B O : Nat) (sp : Option Nat), xs[i]? = some (r, n) ∧ r < 256 ∧ n < 4294967296 ∧ ad.add (i * 2) = ⟨B, O, sp⟩ ∧ w.cell? ⟨B, O, sp⟩ = some (.int .u8 (r : Int)) ∧ w.cell? ⟨B, O + 1, none⟩ = some (.int .u32 (n : Int)) := by
  obtain ⟨h1, h2, h3, h4, h5⟩ := h
  have hx : xs[i]? = some (xs[i]'(by omega)) := List.getElem?_eq_getElem (by omega)
  have hc := h5 i _ hx
  have hok := h4 _ (List.mem_of_getElem? hx)
  generalize xs[i]'(by omega) = x at hx hc hok
  obtain ⟨r, n⟩ := x
  obtain ⟨A, hA⟩ : ∃ A, A = ad.add (i * 2) := ⟨_, rfl⟩
  rw [← hA] at hc
  obtain ⟨B, O, sp⟩ := A
  refine ⟨r, n, B, O, sp, hx, hok.1, hok.2, hA.symm, hc.1, ?_⟩
  have h := hc.2
  unfold Addr.add at h
  rw [if_neg (by omega)] at h
  exact h

theorem IsDots.none_len {w : World} {len cap : Nat} {xs : List Dot} (h : IsDots w none len cap xs) : len = 0 := h.2.2.2.2.1

theorem IsDots.none_cap {w : World} {len cap : Nat} {xs : List Dot} (h : IsDots w none len cap xs) : cap = 0 := h.2.2.2.2.2

theorem flat_length (l : List Dot) : (flat l).length = l.length * 2 := by
  induction l with
  | nil => rfl
  | cons d r ih => simp [flat, Dot.enc] at ih ⊢; omega

theorem flat_cons (d : Dot) (r : List Dot) : flat (d :: r) = .int .u8 (d.1 : Int) :: .int .u32 (d.2 : Int) :: flat r := by simp [flat, Dot.enc]

theorem flat_get : ∀ (l : List Dot) (i : Nat) (x : Dot), l[i]? = some x → (flat l)[i * 2]? = some (.int .u8 (x.1 : Int)) ∧ (flat l)[i * 2 + 1]? = some (.int .u32 (x.2 : Int))
  | [], i, x, h => by simp at h
  | d :: r, 0, x, h => by simp at h; subst h; rw [flat_cons]; simp
  | d :: r, i + 1, x, h => by
    have h' : r[i]? = some x := by simpa using h
    obtain ⟨h1, h2⟩ := flat_get r i x h'
    rw [flat_cons, show (i + 1) * 2 = i * 2 + 1 + 1 by omega]
    simp only [List.getElem?_cons_succ]
    exact ⟨h1, h2⟩

theorem flat_append (l m : List Dot) : flat (l ++ m) = flat l ++ flat m := by simp [flat]

/-- A slice that owns dots reads as them. -/
theorem owns_isDots {W : World} {base : Nat} {v : Value} {l : List Dot} (h : W.ownsRow base 26 2 v l.length (flat l)) (hok : ∀ d ∈ l, d.ok) :
    ∃ a cap, v = .slice a l.length cap ∧ IsDots W a l.length cap l := by
  rcases h.2 with ⟨rfl, h0⟩ | ⟨g, cap, cur, rfl, _, hg, hcap, hm, hsz, ht⟩
  · rw [h0]
    exact ⟨none, 0, rfl, h0, Nat.le_refl _, Nat.zero_le _, hok, rfl, rfl⟩
  · refine ⟨_, cap, rfl, rfl, hcap, hm, hok, fun i x hx => ?_⟩
    obtain ⟨h0, h1⟩ := flat_get l i x hx
    rw [← ht] at h0 h1
    have hi : i < l.length := (List.getElem?_eq_some_iff.1 hx).1
    rw [List.getElem?_take] at h0 h1
    rw [if_pos (by omega)] at h0 h1
    have hc : ∀ j u, cur.toList[j]? = some u → W.cell? ⟨g, j, none⟩ = some u := fun j u hj => by
      simp [World.cell?, hg]; simpa using hj
    have e0 : (⟨g, 0, none⟩ : Addr).add (i * 2) = ⟨g, i * 2, none⟩ := by
      unfold Addr.add
      by_cases hz : i * 2 = 0
      · rw [if_pos hz, hz]
      · rw [if_neg hz]; simp
    rw [e0]
    refine ⟨hc _ _ h0, ?_⟩
    have e1 : (⟨g, i * 2, none⟩ : Addr).add 1 = ⟨g, i * 2 + 1, none⟩ := by unfold Addr.add; rw [if_neg (by omega)]
    rw [e1]; exact hc _ _ h1

/-- A slice value that reads as these dots. -/
def DotsV (w : World) (v : Value) (l : List Dot) : Prop := ∃ a len cap, v = .slice a len cap ∧ IsDots w a len cap l

theorem DotsV.keep {w w' : World} {v : Value} {l : List Dot} (h : DotsV w v l) (hb : Below w.heap.size w w') : DotsV w' v l := by
  obtain ⟨a, len, cap, e, h⟩ := h
  exact ⟨a, len, cap, e, h.keep hb⟩

/-- Block g holds N cells, the first of them those of the dots c. -/
def RowAt (W : World) (g N : Nat) (c : List Dot) : Prop := ∃ cur, W.heap[g]? = some (.cells cur 26 (0, 0)) ∧ cur.size = N ∧ c.length * 2 ≤ N ∧ cur.toList.take (c.length * 2) = flat c

theorem RowAt.lt {W : World} {g N : Nat} {c : List Dot} (h : RowAt W g N c) : g < W.heap.size := by
  obtain ⟨cur, hg, _⟩ := h
  exact (Array.getElem?_eq_some_iff.1 hg).1

theorem RowAt.keep {W W' : World} {g N : Nat} {c : List Dot} (h : RowAt W g N c) (hb : Below W.heap.size W W') : RowAt W' g N c := by
  have hl := h.lt
  obtain ⟨cur, hg, r⟩ := h
  exact ⟨cur, (hb.block g hl).trans hg, r⟩

theorem RowAt.at {W : World} {g N : Nat} {c : List Dot} (h : RowAt W g N c) {i : Nat} {x : Dot} (hx : c[i]? = some x) :
    W.cell? ⟨g, i * 2, none⟩ = some (.int .u8 (x.1 : Int)) ∧ W.cell? ⟨g, i * 2 + 1, none⟩ = some (.int .u32 (x.2 : Int)) := by
  obtain ⟨cur, hg, hN, hle, ht⟩ := h
  obtain ⟨h0, h1⟩ := flat_get c i x hx
  have hi : i < c.length := (List.getElem?_eq_some_iff.1 hx).1
  rw [← ht, List.getElem?_take, if_pos (by omega)] at h0 h1
  constructor
  · simp [World.cell?, hg]; simpa using h0
  · simp [World.cell?, hg]; simpa using h1

theorem RowAt.free {W : World} {g N : Nat} {c : List Dot} (h : RowAt W g N c) (j : Nat) : W.frozen? ⟨g, j, none⟩ = false := by
  obtain ⟨cur, hg, _⟩ := h
  simp [World.frozen?, hg]

theorem flat_set : ∀ (c : List Dot) (i : Nat) (r n : Nat), i < c.length → flat (c.set i (r, n)) = ((flat c).set (i * 2) (.int .u8 (r : Int))).set (i * 2 + 1) (.int .u32 (n : Int))
  | [], i, _, _, h => by simp at h
  | d :: t, 0, r, n, _ => by simp [flat_cons]
  | d :: t, i + 1, r, n, h => by
    have ih := flat_set t i r n (by simpa using h)
    rw [List.set_cons_succ, flat_cons, ih, flat_cons, show (i + 1) * 2 = i * 2 + 1 + 1 by omega]
    simp only [List.set_cons_succ]

theorem RowAt.set {W : World} {g N : Nat} {c : List Dot} (h : RowAt W g N c) {i : Nat} (hi : i < c.length) (r n : Nat) :
    RowAt ((W.setCell ⟨g, i * 2, none⟩ (.int .u8 (r : Int))).setCell ⟨g, i * 2 + 1, none⟩ (.int .u32 (n : Int))) g N (c.set i (r, n)) := by
  obtain ⟨cur, hg, hN, hle, ht⟩ := h
  refine ⟨(cur.setIfInBounds (i * 2) (.int .u8 (r : Int))).setIfInBounds (i * 2 + 1) (.int .u32 (n : Int)), heap_setCell_same _ _ _ _ _ _ (heap_setCell_same _ _ _ _ _ _ hg), by simp [hN], by simpa using hle, ?_⟩
  rw [flat_set c i r n hi, ← ht]
  simp only [Array.toList_setIfInBounds, List.length_set]
  rw [List.take_set, List.take_set]

theorem RowAt.owns {W : World} {g cap B0 : Nat} {c : List Dot} (h : RowAt W g (cap * 2) c) (hg : B0 ≤ g) (hc : cap ≤ maxLen) : W.ownsRow B0 26 2 (.slice (some ⟨g, 0, none⟩) c.length cap) c.length (flat c) := by
  obtain ⟨cur, h1, h2, h3, h4⟩ := h
  exact ⟨flat_length c, .inr ⟨g, cap, cur, rfl, hg, h1, by omega, hc, h2, h4⟩⟩

theorem owns_below {W W' : World} {B : Nat} {v : Value} {n : Nat} {xs : List Value} (h : W.ownsRow B 26 2 v n xs) (hb : Below W.heap.size W W') : W'.ownsRow B 26 2 v n xs := by
  refine ⟨h.1, ?_⟩
  rcases h.2 with hn | ⟨g, cap, cur, hv, hbg, hg, rest⟩
  · exact .inl hn
  · exact .inr ⟨g, cap, cur, hv, hbg, (hb.block g (Array.getElem?_eq_some_iff.1 hg).1).trans hg, rest⟩

theorem ownsRow_base {W : World} {base base' : Nat} {e : TypeId} {size : Nat} {v : Value} {k : Nat} {xs : List Value} (h : W.ownsRow base e size v k xs) (hb : base' ≤ base) : W.ownsRow base' e size v k xs := by
  refine ⟨h.1, ?_⟩
  rcases h.2 with hn | ⟨g, cap, cur, hv, hbg, rest⟩
  · exact .inl hn
  · exact .inr ⟨g, cap, cur, hv, Nat.le_trans hb hbg, rest⟩

/-- Are two dots one? -/
def eqB (a b : Dot) : Bool := decide (a = b)

theorem eqB_true {a b : Dot} (h : a = b) : eqB a b = true := by simp [eqB, h]

theorem eqB_false {a b : Dot} (h : a ≠ b) : eqB a b = false := by simp [eqB, h]

theorem eq_cells (r n s m : Int) (w : World) : (Op.equalIn 10000 26 (.agg #[.int .u8 r, .int .u32 n]) (.agg #[.int .u8 s, .int .u32 m])).run Try.prog w = .ok (r == s && n == m) w := by
  have hf : Try.prog.underlying 26 = some (.struct (Try.prog.fieldsOf 26)) := by simp [Program.fieldsOf, Try.underlying26]
  have hp : Try.prog.stoodInHeld 26 = false := by kernel_rfl
  have u1 := Try.underlying5
  have u2 := Try.underlying22
  rw [show (10000 : Nat) = 9999 + 1 from rfl, run_equalIn_struct w 9999 26 _ _ hf hp]
  simp only [Program.fieldsOf, Try.underlying26, Op.eqFields]
  go_simp
  by_cases h0 : r = s
  · by_cases h1 : n = m <;> simp [h0, h1]
  · simp [h0]

theorem eq_dots (a b : Dot) (w : World) : (Op.equalIn 10000 26 (.agg #[.int .u8 (a.1 : Int), .int .u32 (a.2 : Int)]) (.agg #[.int .u8 (b.1 : Int), .int .u32 (b.2 : Int)])).run Try.prog w = .ok (eqB a b) w := by
  refine (eq_cells _ _ _ _ w).trans ?_
  congr 1
  unfold eqB
  rw [Bool.eq_iff_iff]
  simp only [Bool.and_eq_true, beq_iff_eq, decide_eq_true_eq, Int.natCast_inj]
  exact ⟨fun h => Prod.ext h.1 h.2, fun h => by rw [h]; exact ⟨rfl, rfl⟩⟩

theorem run_eql (r n s m : Nat) (w : World) : (binOp .eql 26 (.agg #[.int .u8 (r : Int), .int .u32 (n : Int)]) (.agg #[.int .u8 (s : Int), .int .u32 (m : Int)])).run Try.prog w = .ok (.bool (eqB (r, n) (s, m))) w := by
  have h := eq_dots (r, n) (s, m) w
  simp only [binOp]
  simp [Op.equal, Op.maxDepth]
  rw [h]; rfl

theorem run_neq (r n s m : Nat) (w : World) : (binOp .neq 26 (.agg #[.int .u8 (r : Int), .int .u32 (n : Int)]) (.agg #[.int .u8 (s : Int), .int .u32 (m : Int)])).run Try.prog w = .ok (.bool (!eqB (r, n) (s, m))) w := by
  have h := eq_dots (r, n) (s, m) w
  simp only [binOp]
  simp [Op.equal, Op.maxDepth]
  rw [h]; rfl

def SameTo (xs ys : List Dot) (k : Nat) : Prop := xs.take k = ys.take k

theorem SameTo.step {xs ys : List Dot} {k : Nat} {x : Dot} (h : SameTo xs ys k) (hx : xs[k]? = some x) (hy : ys[k]? = some x) : SameTo xs ys (k + 1) := by
  have h1 := (List.getElem?_eq_some_iff.1 hx)
  have h2 := (List.getElem?_eq_some_iff.1 hy)
  unfold SameTo at *
  rw [List.take_succ_eq_append_getElem h1.1, List.take_succ_eq_append_getElem h2.1, h, h1.2, h2.2]

/-- Are two rows the same? -/
def sameB (xs ys : List Dot) : Bool := decide (xs = ys)

set_option maxHeartbeats 1000000 in
theorem ref_Same (a a' : Option Addr) (len cap len' cap' : Nat) (xs ys : List Dot) (w : World) (hI : IsDots w a len cap xs) (hI' : IsDots w a' len' cap' ys) :
    Calls Try.prog 22 #[.slice a len cap, .slice a' len' cap'] w fun e w' => e = .returned (.bool (sameB xs ys)) ∧ Below w.heap.size w w' := by
  have hcap : len ≤ 9223372036854775807 := by have := hI.2.1; have := hI.2.2.1; unfold maxLen at this; omega
  have hcap' : len' ≤ 9223372036854775807 := by have := hI'.2.1; have := hI'.2.2.1; unfold maxLen at this; omega
  have hlen := hI.1
  have hlen' := hI'.1
  have HL := hid (And.intro hlen hlen')
  clear hlen hlen'
  by_cases hll : len = len'
  · subst hll
    have HI := hid (And.intro hI hI')
    clear hI hI'
    go_enter Try.func22, Try.ntmps22
    go_wp2
    go_loopw [5] (fun i wr => ∃ k : Nat, k ≤ len ∧ i = .int .i64 k ∧ SameTo xs ys k ∧ Below w.heap.size w wr) (fun i _ => len - (intOf i).toNat)
    case atStart => exact ⟨0, by omega, rfl, by simp [SameTo], Below.refl _ _⟩
    case round =>
      obtain ⟨k, hk, rfl, hsame, hB⟩ := hrel
      by_cases hlt : k < len
      · cases a with
        | none => have := HI.out.1.none_len; omega
        | some ad =>
          cases a' with
          | none => have := HI.out.2.none_len; omega
          | some ad' =>
            obtain ⟨r, m, B, O, sp, hx, _, _, hA, hc0, hc1⟩ := (HI.out.1.keep hB).at k hlt
            obtain ⟨s, q, B', O', sp', hy, _, _, hA', hd0, hd1⟩ := (HI.out.2.keep hB).at k hlt
            have HX := hid (And.intro hx (And.intro hy hsame))
            clear hx hy hsame
            by_cases he : (r, m) = (s, q)
            · have heq : ∀ W, (binOp .neq 26 (.agg #[.int .u8 (r : Int), .int .u32 (m : Int)]) (.agg #[.int .u8 (s : Int), .int .u32 (q : Int)])).run Try.prog W = .ok (.bool false) W := fun W => by rw [run_neq, eqB_true he]; rfl
              have HE := hid he
              clear he
              go_wp2
              go_quiet (fail)
              go_wp2
              go_roundw
              case rel => exact ⟨k + 1, by omega, by go_num, HX.out.2.2.step HX.out.1 (by rw [HE.out]; exact HX.out.2.1), hB.trans (below_drewN _ _ _)⟩
              case measure => simp [intOf]; omega
            · have heq : ∀ W, (binOp .neq 26 (.agg #[.int .u8 (r : Int), .int .u32 (m : Int)]) (.agg #[.int .u8 (s : Int), .int .u32 (q : Int)])).run Try.prog W = .ok (.bool true) W := fun W => by rw [run_neq, eqB_false he]; rfl
              have HE := hid he
              clear he
              go_wp2
              go_quiet (fail)
              go_wp2
              go_ret
              have hne : sameB xs ys = false := by
                unfold sameB
                rw [decide_eq_false_iff_not]
                intro e
                have h1 := HX.out.1
                rw [e, HX.out.2.1] at h1
                exact HE.out (Option.some.inj h1).symm
              exact ⟨by rw [hne]; rfl, hB.trans (below_drewN _ _ _)⟩
      · obtain rfl : k = len := by omega
        have he : sameB xs ys = true := by
          unfold sameB SameTo at *
          rw [List.take_of_length_le (by rw [HL.out.1]; exact Nat.le_refl _), List.take_of_length_le (by rw [HL.out.2]; exact Nat.le_refl _)] at hsame
          simp [hsame]
        have HE := hid he
        clear he hsame
        go_wp2
        go_ret
        exact ⟨by rw [HE.out]; rfl, hB⟩
  · have he : sameB xs ys = false := by
      unfold sameB
      rw [decide_eq_false_iff_not]
      intro e
      exact hll (by rw [← HL.out.1, ← HL.out.2, e])
    have hne : ((len : Int) == len') = false := by simp; omega
    have hne' : ((len : Int) != len') = true := by simp; omega
    have HE := hid he
    clear he hI hI'
    go_enter Try.func22, Try.ntmps22
    go_wp2
    go_ret
    exact ⟨by rw [HE.out]; rfl, Below.refl _ _⟩

theorem one_two (a b : Int) : ∀ u ∈ [Value.int .u8 a, Value.int .u32 b], u.oneCell' = true := by simp [Value.oneCell']

theorem owns_dotsV {W : World} {base : Nat} {v : Value} {l : List Dot} (h : W.ownsRow base 26 2 v l.length (flat l)) (hok : ∀ d ∈ l, d.ok) : DotsV W v l := by
  obtain ⟨a, cap, hv, hI⟩ := owns_isDots h hok
  exact ⟨a, l.length, cap, hv, hI⟩

/-- The dots of a replica from one number on. -/
def dotsFrom (r f n : Nat) : List Dot := (List.range n).map fun i => (r, f + i)

/-- A range's dots, and its error. -/
def rngD (r f t : Nat) : List Dot := if mayD (r, f) = true ∧ f ≤ t ∧ t - f + 1 ≤ 65536 then dotsFrom r f (t - f + 1) else []

def rngE (r f t : Nat) : Int := if mayD (r, f) = true then (if f ≤ t ∧ ¬ t - f + 1 ≤ 65536 then 3 else 0) else 2

def RngPost (w : World) (r f t : Nat) (e : Ending) (w' : World) : Prop :=
  ∃ v, e = .returned (.tuple #[v, .int .i64 (rngE r f t)]) ∧ w'.ownsRow w.heap.size 26 2 v (rngD r f t).length (flat (rngD r f t)) ∧ Below w.heap.size w w'

theorem made_size (n : Nat) : (madeCells (Value.agg #[.int .u8 0, .int .u32 0]).cells (n * 2)).size = n * 2 := by simp [madeCells]

theorem made_row (n : Nat) : (madeCells (Value.agg #[.int .u8 0, .int .u32 0]).cells (n * 2)).toList = flat (List.replicate n ((0, 0) : Dot)) := by
  induction n with
  | zero => simp [madeCells, flat]
  | succ n ih =>
    rw [List.replicate_succ', flat_snoc, ← ih, show (n + 1) * 2 = n * 2 + 1 + 1 by omega]
    simp [madeCells, Array.range_succ, Value.cells]

theorem dotsFrom_length (r f k : Nat) : (dotsFrom r f k).length = k := by simp [dotsFrom]

theorem dotsFrom_succ (r f k : Nat) : dotsFrom r f (k + 1) = dotsFrom r f k ++ [(r, f + k)] := by simp [dotsFrom, List.range_succ]

def half (r f k n : Nat) : List Dot := dotsFrom r f k ++ List.replicate (n - k) (0, 0)

theorem half_length {r f k n : Nat} (h : k ≤ n) : (half r f k n).length = n := by simp [half, dotsFrom_length]; omega

theorem half_get {r f k n : Nat} (h : k < n) : (half r f k n)[k]? = some (0, 0) := by
  unfold half
  rw [List.getElem?_append_right (by rw [dotsFrom_length]; exact Nat.le_refl _), dotsFrom_length, Nat.sub_self, List.getElem?_replicate, if_pos (by omega)]

theorem half_set {r f k n : Nat} (h : k < n) : (half r f k n).set k (r, f + k) = half r f (k + 1) n := by
  unfold half
  rw [List.set_append_right _ _ (by rw [dotsFrom_length]; exact Nat.le_refl _), dotsFrom_length, Nat.sub_self, dotsFrom_succ, show n - k = (n - (k + 1)) + 1 by omega, List.replicate_succ, List.set_cons_zero, List.append_assoc]
  rfl

theorem run_make_dots (n : Nat) (hn : n ≤ 65536) (W : World) : (Instr.makeSlice 40 (.int .u32 (n : Int)) (.int .u32 (n : Int))).run Try.prog W = .ok (.slice (some ⟨W.heap.size, 0, none⟩) n n) (W.alloc (.cells (madeCells (Value.agg #[.int .u8 0, .int .u32 0]).cells (n * 2)) 26)) := by
  obtain ⟨i0, hi, hz0, hz1, hz2⟩ := info_parts infoDot
  have h := run_makeSlice (P := Try.prog) W 40 26 i0 (.agg #[.int .u8 0, .int .u32 0]) Try.underlying40 hi hz0 .u32 .u32 (n : Int) (n : Int) (by omega) (Int.le_refl _) (by rw [hz1]; simp; omega) (by rw [hz2]; omega) (by omega)
  rw [hz1] at h
  simpa using h

set_option maxRecDepth 100000 in
set_option maxHeartbeats 2000000 in
theorem dot_Range (r f t : Nat) (hr : r < 256) (hf : f < 4294967296) (ht : t < 4294967296) (w : World) :
    Calls Try.prog 34 #[.int .u8 (r : Int), .int .u32 (f : Int), .int .u32 (t : Int)] w (RngPost w r f t) := by
  have hmay := fun W => dot_May (r, f) W
  dsimp only at hmay
  cases hb : mayD (r, f)
  · rw [hb] at hmay
    have hE := hid (show rngD r f t = [] ∧ rngE r f t = 2 by simp [rngD, rngE, hb])
    clear hb
    go_enter Try.func34, Try.ntmps34
    go_wp2_with (go_at_call 31; refine (hmay _).mono ?_; rintro e w1 ⟨rfl, hB⟩)
    go_ret2
    refine ⟨_, by rw [hE.out.2]; rfl, ?_, hB⟩
    rw [hE.out.1]
    exact World.ownsRow_nil _ _ _ _
  · rw [hb] at hmay
    have hf1 : 1 ≤ f := by simp [mayD] at hb; omega
    by_cases hlt : t < f
    · have hE := hid (show rngD r f t = [] ∧ rngE r f t = 0 by
        have : ¬ f ≤ t := by omega
        simp [rngD, rngE, hb, this])
      clear hb
      go_enter Try.func34, Try.ntmps34
      go_wp2_with (go_at_call 31; refine (hmay _).mono ?_; rintro e w1 ⟨rfl, hB⟩)
      go_ret2
      refine ⟨_, by rw [hE.out.2]; rfl, ?_, hB⟩
      rw [hE.out.1]
      exact World.ownsRow_nil _ _ _ _
    · obtain ⟨n, hn⟩ : ∃ n, n = t - f + 1 := ⟨_, rfl⟩
      have htn : t = f + n - 1 := by omega
      have hn1 : 1 ≤ n := by omega
      by_cases hbig : n ≤ 65536
      · have hE := hid (show rngD r f t = dotsFrom r f n ∧ rngE r f t = 0 by
          have h1 : f ≤ t := by omega
          have h2 : t - f + 1 ≤ 65536 := by omega
          simp [rngD, rngE, hb, h1, h2, hn])
        have HN := hid (And.intro hn htn)
        clear hb
        have e1 : (t : Int) - f + 1 = n := by omega
        clear hn htn
        have hmk := fun W => run_make_dots n hbig W
        generalize hcs : madeCells (Value.agg #[.int .u8 0, .int .u32 0]).cells (n * 2) = cs at hmk
        have HCS := hid hcs
        clear hcs
        go_enter Try.func34, Try.ntmps34
        go_wp2_with (go_at_call 31; refine (hmay _).mono ?_; rintro e w1 ⟨rfl, hB⟩)
        go_loopw [29] (fun i wr => ∃ k : Nat, k ≤ n ∧ i = .int .i64 k ∧ RowAt wr w1.heap.size (n * 2) (half r f k n) ∧ Below w.heap.size w wr) (fun i _ => n - (intOf i).toNat)
        case atStart =>
          refine ⟨0, by omega, rfl, ⟨cs, heap_alloc_last' _ _, ?_, by rw [half_length (by omega)]; exact Nat.le_refl _, ?_⟩, hB.alloc hB.size _⟩
          · rw [← HCS.out]; exact made_size n
          · have e := made_row n
            rw [HCS.out] at e
            rw [half_length (by omega), e, show half r f 0 n = List.replicate n (0, 0) by simp [half, dotsFrom]]
            exact List.take_of_length_le (by rw [flat_length]; simp)
        case round =>
          obtain ⟨k, hk, rfl, hrow, hBr⟩ := hrel
          by_cases hkn : k < n
          · obtain ⟨o0, o1⟩ := hrow.at (half_get hkn)
            have f0 := hrow.free (k * 2)
            have f1 := hrow.free (k * 2 + 1)
            have hbn : (f : Int) + k ≤ 4294967295 := by have h1 := HN.out.2; omega
            have hst := hrow.set (i := k) (by rw [half_length hk]; exact hkn) r (f + k)
            rw [half_set hkn, Int.natCast_add] at hst
            have HST := hid hst
            clear hst hrow
            go_wp2
            go_roundw
            case rel => exact ⟨k + 1, by omega, by go_num, HST.out, (hBr.setCell (p := ⟨w1.heap.size, k * 2, none⟩) hB.size _).setCell (p := ⟨w1.heap.size, k * 2 + 1, none⟩) hB.size _⟩
            case measure => simp [intOf]; omega
          · obtain rfl : k = n := by omega
            have HR := hid hrow
            clear hrow
            go_wp2
            go_ret2
            refine ⟨_, by rw [hE.out.2]; rfl, ?_, hBr⟩
            rw [hE.out.1, dotsFrom_length]
            have h := HR.out.owns hB.size (by unfold maxLen; omega)
            rw [half_length (Nat.le_refl _)] at h
            simpa [half] using h
      · have hE := hid (show rngD r f t = [] ∧ rngE r f t = 3 by
          have h1 : f ≤ t := by omega
          have h2 : ¬ t - f + 1 ≤ 65536 := by omega
          simp [rngD, rngE, hb, h1, h2])
        have e1 : 65536 < (t : Int) - f + 1 := by omega
        clear hb hn htn hn1 hbig n
        go_enter Try.func34, Try.ntmps34
        go_wp2_with (go_at_call 31; refine (hmay _).mono ?_; rintro e w1 ⟨rfl, hB⟩)
        go_ret2
        refine ⟨_, by rw [hE.out.2]; rfl, ?_, hB⟩
        rw [hE.out.1]
        exact World.ownsRow_nil _ _ _ _

theorem st0 {W w' : World} (h : Below W.heap.size W w') : Below W.heap.size W w' := h

theorem st1 {W w' : World} {a : Obj} (h : Below (W.alloc a).heap.size (W.alloc a) w') : Below W.heap.size W w' := ((Below.refl _ W).alloc (Nat.le_refl _) a).trans (h.mono (by simp))

theorem st2 {W w' : World} {a b : Obj} (h : Below ((W.alloc a).alloc b).heap.size ((W.alloc a).alloc b) w') : Below W.heap.size W w' := st1 (st1 h)

theorem st3 {W w' : World} {a b c : Obj} (h : Below (((W.alloc a).alloc b).alloc c).heap.size (((W.alloc a).alloc b).alloc c) w') : Below W.heap.size W w' := st1 (st2 h)

theorem st4 {W w' : World} {a b c d : Obj} (h : Below ((((W.alloc a).alloc b).alloc c).alloc d).heap.size ((((W.alloc a).alloc b).alloc c).alloc d) w') : Below W.heap.size W w' := st1 (st3 h)

theorem new_dots (W : World) (l : List Dot) (cs : Array Value) (hcs : cs = (flat l).toArray) (hok : ∀ d ∈ l, d.ok) (hl : l.length ≤ 1000000) :
    IsDots (W.alloc (.cells cs 26)) (some ⟨W.heap.size, 0, none⟩) l.length l.length l := by
  have ho : (W.alloc (.cells cs 26)).ownsRow W.heap.size 26 2 (.slice (some ⟨W.heap.size, 0, none⟩) l.length l.length) l.length (flat l) :=
    ⟨flat_length l, .inr ⟨W.heap.size, l.length, cs, rfl, Nat.le_refl _, heap_alloc_last' _ _, Nat.le_refl _, by unfold maxLen; omega, by rw [hcs]; simp [flat_length], by rw [hcs]; exact List.take_of_length_le (by simp [flat_length])⟩⟩
  obtain ⟨a, cap, hv, hI⟩ := owns_isDots ho hok
  cases hv
  exact hI

theorem new_dotsV (W : World) (l : List Dot) (cs : Array Value) (n : Nat) (hn : n = l.length) (hcs : cs = (flat l).toArray) (hok : ∀ d ∈ l, d.ok) (hl : l.length ≤ 1000000) :
    DotsV (W.alloc (.cells cs 26)) (.slice (some ⟨W.heap.size, 0, none⟩) n n) l := by
  subst hn
  exact ⟨_, _, _, rfl, new_dots W l cs hcs hok hl⟩

theorem ref_SameV (v v' : Value) (xs ys : List Dot) (w : World) (h : DotsV w v xs) (h' : DotsV w v' ys) :
    Calls Try.prog 22 #[v, v'] w fun e w' => e = .returned (.bool (sameB xs ys)) ∧ Below w.heap.size w w' := by
  obtain ⟨a, len, cap, rfl, hI⟩ := h
  obtain ⟨a', len', cap', rfl, hI'⟩ := h'
  exact ref_Same a a' len cap len' cap' xs ys w hI hI'

theorem DotsV.al {w : World} {v : Value} {l : List Dot} (h : DotsV w v l) (o : Obj) : DotsV (w.alloc o) v l := h.keep ((Below.refl _ _).alloc (Nat.le_refl _) o)

theorem DotsV.ok {w : World} {v : Value} {l : List Dot} (h : DotsV w v l) : ∀ d ∈ l, d.ok := by obtain ⟨a, len, cap, _, hI⟩ := h; exact hI.2.2.2.1

theorem below_al (W : World) (o : Obj) : Below W.heap.size W (W.alloc o) := (Below.refl _ _).alloc (Nat.le_refl _) o

theorem below_dr (W : World) : Below W.heap.size W W.drew := (Below.refl _ _).drew

theorem DotsV.dr {w : World} {v : Value} {l : List Dot} (h : DotsV w v l) : DotsV w.drew v l := h.keep (below_dr w)

theorem size_alloc_le {w : World} {B : Nat} (h : B ≤ w.heap.size) (o : Obj) : B ≤ (w.alloc o).heap.size := by simp; omega

theorem add_add (ad : Addr) (x y : Nat) : (ad.add x).add y = ad.add (x + y) := by
  unfold Addr.add
  by_cases hx : x = 0
  · subst hx; simp
  · by_cases hy : y = 0
    · subst hy; simp [hx]
    · rw [if_neg hy, if_neg hx, if_neg (by omega)]; simp [Nat.add_assoc]

theorem rest_cells {w : World} {ad : Addr} {len cap : Nat} {l : List Dot} (h : IsDots w (some ad) len cap l) (k : Nat) : ∀ j u, (flat (l.drop k))[j]? = some u → w.cell? ((ad.add (k * 2)).add j) = some u := by
  intro j u hu
  have h5 := h.2.2.2.2
  have hj : j < (flat (l.drop k)).length := (List.getElem?_eq_some_iff.1 hu).1
  rw [flat_length] at hj
  have hi : j / 2 < (l.drop k).length := by omega
  have hx : (l.drop k)[j / 2]? = some (l.drop k)[j / 2] := List.getElem?_eq_getElem hi
  have hx' : l[k + j / 2]? = some (l.drop k)[j / 2] := by rw [← hx, List.getElem?_drop]
  obtain ⟨g0, g1⟩ := flat_get _ _ _ hx
  obtain ⟨c0, c1⟩ := h5 _ _ hx'
  rw [add_add]
  rcases Nat.mod_two_eq_zero_or_one j with hm | hm
  · rw [show j / 2 * 2 = j by omega] at g0
    rw [show (k + j / 2) * 2 = k * 2 + j by omega] at c0
    rw [c0, ← hu, g0]
  · rw [show j / 2 * 2 + 1 = j by omega] at g1
    rw [add_add, show (k + j / 2) * 2 + 1 = k * 2 + j by omega] at c1
    rw [c1, ← hu, g1]

theorem nil_cells (w : World) (ad : Addr) : ∀ (j : Nat) (u : Value), ([] : List Value)[j]? = some u → w.cell? (ad.add j) = some u := by simp

theorem nil_one : ∀ u ∈ ([] : List Value), u.oneCell' = true := by simp

theorem flat_one (l : List Dot) : ∀ u ∈ flat l, u.oneCell' = true := by
  intro u hu
  simp only [flat, List.mem_flatMap] at hu
  obtain ⟨d, _, hd⟩ := hu
  simp [Dot.enc] at hd
  rcases hd with rfl | rfl <;> rfl

theorem flat_take_succ {l : List Dot} {k r n : Nat} (hx : l[k]? = some (r, n)) : flat (l.take (k + 1)) = flat (l.take k) ++ [.int .u8 (r : Int), .int .u32 (n : Int)] := by
  have hk : k < l.length := (List.getElem?_eq_some_iff.1 hx).1
  rw [List.take_succ_eq_append_getElem hk, (List.getElem?_eq_some_iff.1 hx).2, flat_snoc]

/-- append(s, x...), both dots. -/
theorem wpList_append_dots {w : World} {ops : Array Oper} {rest : List Oper} {o : Oper} {a : Act} {Q : Exit → Act → World → Prop} (hgd : o.guard = none) (s x : Operand)
    (ho : o.op = .call { callee := .builtin .append, args := #[s, x], argTypes := #[40, 40] })
    (base : Nat) (v : Value) (c : List Dot) (hs : a.eval s = v) (hown : w.ownsRow base 26 2 v c.length (flat c))
    (ad : Option Addr) (len cap : Nat) (xs : List Dot) (hx : a.eval x = .slice ad len cap) (hI : IsDots w ad len cap xs) (hb : c.length + len ≤ 10000000) (hbase : base ≤ w.heap.size)
    (h : ∀ v' w', w'.ownsRow base 26 2 v' (c ++ xs).length (flat (c ++ xs)) → Below base w w' → wpList Try.prog ops Q rest (a.put o.dst v') w') : wpList Try.prog ops Q (o :: rest) a w := by
  obtain ⟨i0, hi, hz0, hz1, hz2⟩ := info_parts infoDot
  cases ad with
  | none =>
    obtain rfl : len = 0 := hI.none_len
    obtain rfl : cap = 0 := hI.none_cap
    obtain rfl : xs = [] := List.length_eq_zero_iff.1 hI.1
    exact wpList_append_own_none hgd s x 40 ho base 26 i0 2 Try.underlying40 hi v c.length (flat c) hs hown hx (h v w (by simpa using hown) (Below.refl _ _))
  | some ad =>
    have hlx : xs.length = len := hI.1
    have hr := rest_cells hI 0
    rw [List.drop_zero] at hr
    have e0 : ad.add (0 * 2) = ad := by simp [Addr.add]
    rw [e0] at hr
    refine wpList_append_own w hgd s x 40 ho base 26 i0 (.agg #[.int .u8 0, .int .u32 0]) 2 8 Try.underlying40 hi hz0 hz1 hz2 rfl Nat.zero_lt_two v c.length (flat c) hs hown ad len cap (flat xs) hx (by rw [flat_length, hlx]) hr (flat_one xs)
      (by unfold maxLen; omega) (by omega) hbase (fun v' w' h1 h2 _ => h v' w' ?_ ?_)
    · rw [flat_append, List.length_append, hlx]; exact h1
    · exact (Below.refl base w).grown h2 hbase (fun j e => (hown.lt j e).1)

theorem wp_region_later_n {P : Program} {id : Nat} {Q : Exit → Act → World → Prop} {a : Act} {w : World} {l : List Oper} (hm : P.follows .mixedOrders = true) (hB : Region.lexB .any l.toArray = true)
    (h : ∀ wd, wd = w → wpQuiet P l.toArray (fun w' => ∃ p : Later wd.heap.size wd, w' = p.val) (fun a' => ∀ w', (∃ p : Later wd.heap.size wd, w' = p.val) → Q .normal a' w') l a) : (Code.region id l.toArray true).wp P Q a w :=
  wp_region_later w.heap.size hm hB (h w rfl)

end Go.Proofs.Ytckfdjfcikljaaa
