/-
  Dots, from package dot (layer 3): valid ones, rows of them in memory, dot.Range; rows compared.
-/
import Derived.Test.YtfnmekmgjcjglaaDoorProg
import Derived.Test.YtfnmekmgjcjglaaDoorYLater
import Derived.LoopTactic
import Derived.Maps.OwnIn
import Derived.Laws.StructEq
import Derived.Maps.AppendAt
import Derived.Laws.OwnMore
import Derived.Laws.AppendOwnNone
import Derived.Laws.MakeOwn
import Derived.Sort.Grow
import Derived.Outline
import Derived.DeepKeys
import Derived.Deep.WholeRow
namespace Go.Proofs.YtfnmekmgjcjglaaDoor.V
set_option linter.unusedVariables false
set_option linter.unusedSimpArgs false
open Go Go.RowKit Go.Maps Go.Sort
set_option maxRecDepth 100000
set_option linter.unusedVariables false
set_option linter.unusedSimpArgs false
set_option maxRecDepth 100000
set_option linter.unusedVariables false
set_option linter.unusedSimpArgs false
theorem hid {p : Prop} (h : p) : Hid p := h
theorem ret_int {k : IntKind} {a b : Int} (h : a = b) : Ending.returned (.int k a) = .returned (.int k b) := by rw [h]
/-- A dot: its replica and its number. -/
abbrev Dot := Nat × Nat
def Dot.enc (d : Dot) : List Value := [.int .u8 (d.1 : Int), .int .u32 (d.2 : Int)]
def Dot.ok (d : Dot) : Prop := d.1 < 256 ∧ d.2 < 4294967296
/-- dot.May. -/
def mayD (d : Dot) : Bool := decide (d.1 < 8) && decide (d.2 ≠ 0)
theorem dot_May (d : Dot) (w : World) :
    Calls Tryd.prog 63 #[.agg #[.int .u8 (d.1 : Int), .int .u32 (d.2 : Int)]] w fun e w' => e = .returned (.bool (mayD d)) ∧ Below w.heap.size w w' := by
  obtain ⟨r, n⟩ := d
  by_cases h1 : r < 8
  · by_cases h2 : n = 0
    · subst h2
      go_enter Tryd.func63, Tryd.ntmps63
      go_wp2
      go_ret
      exact ⟨by simp [mayD], (Below.refl _ _).alloc (Nat.le_refl _) _⟩
    · have h2' : ((n : Int) == 0) = false := by simpa using h2
      have h3' : ((n : Int) != 0) = true := by simpa using h2
      go_enter Tryd.func63, Tryd.ntmps63
      go_wp2
      go_ret
      exact ⟨by simp [mayD, h1, h2], (Below.refl _ _).alloc (Nat.le_refl _) _⟩
  · go_enter Tryd.func63, Tryd.ntmps63
    go_wp2
    go_ret
    exact ⟨by simp [mayD, h1], (Below.refl _ _).alloc (Nat.le_refl _) _⟩
theorem below_drewN (B : Nat) (w : World) (q : Nat) : Below B w (w.drewN q) := ⟨rfl, rfl, rfl, Nat.le_refl _, fun _ _ => rfl⟩
theorem results_row_tmp {P : Program} {fn : Func} {u p : Tmp} {ty : TypeId} (h : fn.results = #[.cell p ty, .tmp u]) (tmps : Array Value) (w : World) (g : Nat) (t : TypeId) (cs : Array Value) (fr : Nat × Nat) (d : TypeDesc) (v : Value)
    (hv : tmps.getD u undef = v) (hp : tmps.getD p undef = .pointer (some ⟨g, 0, none⟩)) (hg : w.heap[g]? = some (.cells cs t fr))
    (hu : P.underlying ty = some d) (hd : (match d with | .struct _ | .array _ _ => true | _ => false) = true) (hi : (P.info? ty).map (·.size) = some cs.size) :
    (results fn tmps).run P w = .ok (.tuple #[.agg cs, v]) w := by
  have hp' : tmps[p]?.getD undef = .pointer (some ⟨g, 0, none⟩) := by simpa using hp
  have hv' : tmps[u]?.getD undef = v := by simpa using hv
  simp [results, h, hp', hv', asAddr, run_loadVar_row w g t ty cs fr d hg hu hd hi]
theorem heap_alloc_last' (w : World) (o : Obj) : (w.alloc o).heap[w.heap.size]? = some o := by
  show (w.heap.push o)[w.heap.size]? = _
  simp
/-- The cells of a row of dots. -/
def flat (l : List Dot) : List Value := l.flatMap Dot.enc
/-- A slice that reads as these dots. -/
def IsDots (w : World) (a : Option Addr) (len cap : Nat) (xs : List Dot) : Prop :=
  xs.length = len ∧ len ≤ cap ∧ cap ≤ maxLen ∧ (∀ x ∈ xs, x.ok) ∧
    match a with
    | none => len = 0 ∧ cap = 0
    | some ad => ∀ i x, xs[i]? = some x → w.cell? (ad.add (i * 2)) = some (.int .u8 (x.1 : Int)) ∧ w.cell? ((ad.add (i * 2)).add 1) = some (.int .u32 (x.2 : Int))
theorem cell_lt {w : World} {a : Addr} {v : Value} (h : w.cell? a = some v) : a.block < w.heap.size := World.block_lt_of_cell? w a h
theorem cell_keep {w w' : World} {a : Addr} {v : Value} (hb : Below w.heap.size w w') (h : w.cell? a = some v) : w'.cell? a = some v := by
  rw [← h]; exact World.cell?_of_block (hb.block _ (cell_lt h))
theorem IsDots.keep {w w' : World} {a : Option Addr} {len cap : Nat} {xs : List Dot} (h : IsDots w a len cap xs) (hb : Below w.heap.size w w') : IsDots w' a len cap xs := by
  obtain ⟨h1, h2, h3, h4, h5⟩ := h
  refine ⟨h1, h2, h3, h4, ?_⟩
  cases a with
  | none => exact h5
  | some ad => exact fun i x hx => ⟨cell_keep hb (h5 i x hx).1, cell_keep hb (h5 i x hx).2⟩
theorem IsDots.at {w : World} {ad : Addr} {len cap : Nat} {xs : List Dot} (h : IsDots w (some ad) len cap xs) (i : Nat) (hi : i < len) :
    ∃ (r n B O : Nat) (sp : Option Nat), xs[i]? = some (r, n) ∧ r < 256 ∧ n < 4294967296 ∧ ad.add (i * 2) = ⟨B, O, sp⟩ ∧ w.cell? ⟨B, O, sp⟩ = some (.int .u8 (r : Int)) ∧ w.cell? ⟨B, O + 1, none⟩ = some (.int .u32 (n : Int)) := by
  obtain ⟨h1, h2, h3, h4, h5⟩ := h
  have hx : xs[i]? = some (xs[i]'(by omega)) := List.getElem?_eq_getElem (by omega)
  have hc := h5 i _ hx
  have hok := h4 _ (List.mem_of_getElem? hx)
  generalize xs[i]'(by omega) = x at hx hc hok
  obtain ⟨r, n⟩ := x
  obtain ⟨A, hA⟩ : ∃ A, A = ad.add (i * 2) := ⟨_, rfl⟩
  rw [← hA] at hc
  obtain ⟨B, O, sp⟩ := A
  refine ⟨r, n, B, O, sp, hx, hok.1, hok.2, hA.symm, hc.1, ?_⟩
  have h := hc.2
  unfold Addr.add at h
  rw [if_neg (by omega)] at h
  exact h
theorem IsDots.none_len {w : World} {len cap : Nat} {xs : List Dot} (h : IsDots w none len cap xs) : len = 0 := h.2.2.2.2.1
theorem flat_length (l : List Dot) : (flat l).length = l.length * 2 := by
  induction l with
  | nil => rfl
  | cons d r ih => simp [flat, Dot.enc] at ih ⊢; omega
theorem flat_cons (d : Dot) (r : List Dot) : flat (d :: r) = .int .u8 (d.1 : Int) :: .int .u32 (d.2 : Int) :: flat r := by simp [flat, Dot.enc]
theorem flat_get : ∀ (l : List Dot) (i : Nat) (x : Dot), l[i]? = some x → (flat l)[i * 2]? = some (.int .u8 (x.1 : Int)) ∧ (flat l)[i * 2 + 1]? = some (.int .u32 (x.2 : Int))
  | [], i, x, h => by simp at h
  | d :: r, 0, x, h => by simp at h; subst h; rw [flat_cons]; simp
  | d :: r, i + 1, x, h => by
    have h' : r[i]? = some x := by simpa using h
    obtain ⟨h1, h2⟩ := flat_get r i x h'
    rw [flat_cons, show (i + 1) * 2 = i * 2 + 1 + 1 by omega]
    simp only [List.getElem?_cons_succ]
    exact ⟨h1, h2⟩
/-- A slice value that reads as these dots. -/
def DotsV (w : World) (v : Value) (l : List Dot) : Prop := ∃ a len cap, v = .slice a len cap ∧ IsDots w a len cap l
theorem DotsV.keep {w w' : World} {v : Value} {l : List Dot} (h : DotsV w v l) (hb : Below w.heap.size w w') : DotsV w' v l := by
  obtain ⟨a, len, cap, e, h⟩ := h
  exact ⟨a, len, cap, e, h.keep hb⟩
/-- Block g holds N cells, the first of them those of the dots c. -/
def RowAt (W : World) (g N : Nat) (c : List Dot) : Prop := ∃ cur, W.heap[g]? = some (.cells cur 46 (0, 0)) ∧ cur.size = N ∧ c.length * 2 ≤ N ∧ cur.toList.take (c.length * 2) = flat c
theorem RowAt.lt {W : World} {g N : Nat} {c : List Dot} (h : RowAt W g N c) : g < W.heap.size := by
  obtain ⟨cur, hg, _⟩ := h
  exact (Array.getElem?_eq_some_iff.1 hg).1
theorem RowAt.keep {W W' : World} {g N : Nat} {c : List Dot} (h : RowAt W g N c) (hb : Below W.heap.size W W') : RowAt W' g N c := by
  have hl := h.lt
  obtain ⟨cur, hg, r⟩ := h
  exact ⟨cur, (hb.block g hl).trans hg, r⟩
theorem RowAt.at {W : World} {g N : Nat} {c : List Dot} (h : RowAt W g N c) {i : Nat} {x : Dot} (hx : c[i]? = some x) :
    W.cell? ⟨g, i * 2, none⟩ = some (.int .u8 (x.1 : Int)) ∧ W.cell? ⟨g, i * 2 + 1, none⟩ = some (.int .u32 (x.2 : Int)) := by
  obtain ⟨cur, hg, hN, hle, ht⟩ := h
  obtain ⟨h0, h1⟩ := flat_get c i x hx
  have hi : i < c.length := (List.getElem?_eq_some_iff.1 hx).1
  rw [← ht, List.getElem?_take, if_pos (by omega)] at h0 h1
  constructor
  · simp [World.cell?, hg]; simpa using h0
  · simp [World.cell?, hg]; simpa using h1
theorem RowAt.free {W : World} {g N : Nat} {c : List Dot} (h : RowAt W g N c) (j : Nat) : W.frozen? ⟨g, j, none⟩ = false := by
  obtain ⟨cur, hg, _⟩ := h
  simp [World.frozen?, hg]
theorem flat_set : ∀ (c : List Dot) (i : Nat) (r n : Nat), i < c.length → flat (c.set i (r, n)) = ((flat c).set (i * 2) (.int .u8 (r : Int))).set (i * 2 + 1) (.int .u32 (n : Int))
  | [], i, _, _, h => by simp at h
  | d :: t, 0, r, n, _ => by simp [flat_cons]
  | d :: t, i + 1, r, n, h => by
    have ih := flat_set t i r n (by simpa using h)
    rw [List.set_cons_succ, flat_cons, ih, flat_cons, show (i + 1) * 2 = i * 2 + 1 + 1 by omega]
    simp only [List.set_cons_succ]
theorem RowAt.set {W : World} {g N : Nat} {c : List Dot} (h : RowAt W g N c) {i : Nat} (hi : i < c.length) (r n : Nat) :
    RowAt ((W.setCell ⟨g, i * 2, none⟩ (.int .u8 (r : Int))).setCell ⟨g, i * 2 + 1, none⟩ (.int .u32 (n : Int))) g N (c.set i (r, n)) := by
  obtain ⟨cur, hg, hN, hle, ht⟩ := h
  refine ⟨(cur.setIfInBounds (i * 2) (.int .u8 (r : Int))).setIfInBounds (i * 2 + 1) (.int .u32 (n : Int)), heap_setCell_same _ _ _ _ _ _ (heap_setCell_same _ _ _ _ _ _ hg), by simp [hN], by simpa using hle, ?_⟩
  rw [flat_set c i r n hi, ← ht]
  simp only [Array.toList_setIfInBounds, List.length_set]
  rw [List.take_set, List.take_set]
theorem RowAt.owns {W : World} {g cap B0 : Nat} {c : List Dot} (h : RowAt W g (cap * 2) c) (hg : B0 ≤ g) (hc : cap ≤ maxLen) : W.ownsRow B0 46 2 (.slice (some ⟨g, 0, none⟩) c.length cap) c.length (flat c) := by
  obtain ⟨cur, h1, h2, h3, h4⟩ := h
  exact ⟨flat_length c, .inr ⟨g, cap, cur, rfl, hg, h1, by omega, hc, h2, h4⟩⟩
/-- Are two dots one? -/
def eqB (a b : Dot) : Bool := decide (a = b)
theorem eq_cells (r n s m : Int) (w : World) : (Op.equalIn 10000 46 (.agg #[.int .u8 r, .int .u32 n]) (.agg #[.int .u8 s, .int .u32 m])).run Tryd.prog w = .ok (r == s && n == m) w := by
  have hf : Tryd.prog.underlying 46 = some (.struct (Tryd.prog.fieldsOf 46)) := by simp [Program.fieldsOf, Tryd.underlying46]
  have hp : Tryd.prog.stoodInHeld 46 = false := by kernel_rfl
  have u1 := Tryd.underlying5
  have u2 := Tryd.underlying28
  rw [show (10000 : Nat) = 9999 + 1 from rfl, run_equalIn_struct w 9999 46 _ _ hf hp]
  simp only [Program.fieldsOf, Tryd.underlying46, Op.eqFields]
  go_simp
  by_cases h0 : r = s
  · by_cases h1 : n = m <;> simp [h0, h1]
  · simp [h0]
theorem eq_dots (a b : Dot) (w : World) : (Op.equalIn 10000 46 (.agg #[.int .u8 (a.1 : Int), .int .u32 (a.2 : Int)]) (.agg #[.int .u8 (b.1 : Int), .int .u32 (b.2 : Int)])).run Tryd.prog w = .ok (eqB a b) w := by
  refine (eq_cells _ _ _ _ w).trans ?_
  congr 1
  unfold eqB
  rw [Bool.eq_iff_iff]
  simp only [Bool.and_eq_true, beq_iff_eq, decide_eq_true_eq, Int.natCast_inj]
  exact ⟨fun h => Prod.ext h.1 h.2, fun h => by rw [h]; exact ⟨rfl, rfl⟩⟩
theorem run_eql (r n s m : Nat) (w : World) : (binOp .eql 46 (.agg #[.int .u8 (r : Int), .int .u32 (n : Int)]) (.agg #[.int .u8 (s : Int), .int .u32 (m : Int)])).run Tryd.prog w = .ok (.bool (eqB (r, n) (s, m))) w := by
  have h := eq_dots (r, n) (s, m) w
  simp only [binOp]
  simp [Op.equal, Op.maxDepth]
  rw [h]; rfl
def SameTo (xs ys : List Dot) (k : Nat) : Prop := xs.take k = ys.take k
theorem SameTo.step {xs ys : List Dot} {k : Nat} {x : Dot} (h : SameTo xs ys k) (hx : xs[k]? = some x) (hy : ys[k]? = some x) : SameTo xs ys (k + 1) := by
  have h1 := (List.getElem?_eq_some_iff.1 hx)
  have h2 := (List.getElem?_eq_some_iff.1 hy)
  unfold SameTo at *
  rw [List.take_succ_eq_append_getElem h1.1, List.take_succ_eq_append_getElem h2.1, h, h1.2, h2.2]
/-- Are two rows the same? -/
def sameB (xs ys : List Dot) : Bool := decide (xs = ys)
/-- The dots of a replica from one number on. -/
def dotsFrom (r f n : Nat) : List Dot := (List.range n).map fun i => (r, f + i)
/-- A range's dots, and its error. -/
def rngD (r f t : Nat) : List Dot := if mayD (r, f) = true ∧ f ≤ t ∧ t - f + 1 ≤ 65536 then dotsFrom r f (t - f + 1) else []
def rngE (r f t : Nat) : Int := if mayD (r, f) = true then (if f ≤ t ∧ ¬ t - f + 1 ≤ 65536 then 3 else 0) else 2
def RngPost (w : World) (r f t : Nat) (e : Ending) (w' : World) : Prop :=
  ∃ v, e = .returned (.tuple #[v, .int .i64 (rngE r f t)]) ∧ w'.ownsRow w.heap.size 46 2 v (rngD r f t).length (flat (rngD r f t)) ∧ Below w.heap.size w w'
def half (r f k n : Nat) : List Dot := dotsFrom r f k ++ List.replicate (n - k) (0, 0)
theorem DotsV.al {w : World} {v : Value} {l : List Dot} (h : DotsV w v l) (o : Obj) : DotsV (w.alloc o) v l := h.keep ((Below.refl _ _).alloc (Nat.le_refl _) o)
theorem DotsV.ok {w : World} {v : Value} {l : List Dot} (h : DotsV w v l) : ∀ d ∈ l, d.ok := by obtain ⟨a, len, cap, _, hI⟩ := h; exact hI.2.2.2.1
theorem below_al (W : World) (o : Obj) : Below W.heap.size W (W.alloc o) := (Below.refl _ _).alloc (Nat.le_refl _) o
theorem below_dr (W : World) : Below W.heap.size W W.drew := (Below.refl _ _).drew
theorem DotsV.dr {w : World} {v : Value} {l : List Dot} (h : DotsV w v l) : DotsV w.drew v l := h.keep (below_dr w)
theorem wp_region_later_n {P : Program} {id : Nat} {Q : Exit → Act → World → Prop} {a : Act} {w : World} {l : List Oper} (hm : P.follows .mixedOrders = true) (hB : Region.lexB .any l.toArray = true)
    (h : ∀ wd, wd = w → wpQuiet P l.toArray (fun w' => ∃ p : Later wd.heap.size wd, w' = p.val) (fun a' => ∀ w', (∃ p : Later wd.heap.size wd, w' = p.val) → Q .normal a' w') l a) : (Code.region id l.toArray true).wp P Q a w :=
  wp_region_later w.heap.size hm hB (h w rfl)
end Go.Proofs.YtfnmekmgjcjglaaDoor.V
namespace Go.Proofs.YtfnmekmgjcjglaaDoor.V
set_option linter.unusedVariables false
set_option linter.unusedSimpArgs false
open Go Go.RowKit Go.Maps Go.Sort
set_option maxRecDepth 100000
set_option linter.unusedVariables false
set_option linter.unusedSimpArgs false
set_option maxRecDepth 100000
set_option linter.unusedVariables false
set_option linter.unusedSimpArgs false
abbrev Vec := Nat → Nat
def okV (v : Vec) : Prop := (∀ i, v i < 4294967296) ∧ ∀ i, 8 ≤ i → v i = 0
def vc (v : Vec) : Array Value := #[.int .u32 (v 0 : Int), .int .u32 (v 1 : Int), .int .u32 (v 2 : Int), .int .u32 (v 3 : Int), .int .u32 (v 4 : Int), .int .u32 (v 5 : Int), .int .u32 (v 6 : Int), .int .u32 (v 7 : Int)]
def zeroV : Vec := fun _ => 0
theorem ok_zero : okV zeroV := ⟨fun _ => by simp [zeroV], fun _ _ => rfl⟩
def upd (v : Vec) (k n : Nat) : Vec := fun i => if i = k then n else v i
theorem ok_upd {v : Vec} (hv : okV v) {k n : Nat} (hk : k < 8) (hn : n < 4294967296) : okV (upd v k n) := by
  refine ⟨fun i => ?_, fun i hi => ?_⟩
  · unfold upd; split
    · exact hn
    · exact hv.1 i
  · unfold upd; rw [if_neg (by omega)]; exact hv.2 i hi
theorem vc_get (v : Vec) {k : Nat} (hk : k < 8) : (vc v)[k]? = some (.int .u32 (v k : Int)) := by
  match k, hk with
  | 0, _ => rfl
  | 1, _ => rfl
  | 2, _ => rfl
  | 3, _ => rfl
  | 4, _ => rfl
  | 5, _ => rfl
  | 6, _ => rfl
  | 7, _ => rfl
theorem vc_set (v : Vec) {k : Nat} (hk : k < 8) (n : Nat) : (vc v).setIfInBounds k (.int .u32 (n : Int)) = vc (upd v k n) := by
  match k, hk with
  | 0, _ => rfl
  | 1, _ => rfl
  | 2, _ => rfl
  | 3, _ => rfl
  | 4, _ => rfl
  | 5, _ => rfl
  | 6, _ => rfl
  | 7, _ => rfl
theorem cellV {w : World} {b : Nat} {v : Vec} {t : TypeId} {fr : Nat × Nat} (h : w.heap[b]? = some (.cells (vc v) t fr)) {k : Nat} (hk : k < 8) : w.cell? ⟨b, k, none⟩ = some (.int .u32 (v k : Int)) := by
  simp [World.cell?, h]; simpa using vc_get v hk
theorem freeV {w : World} {b : Nat} {cs : Array Value} {t : TypeId} (h : w.heap[b]? = some (.cells cs t (0, 0))) (k : Nat) : w.frozen? ⟨b, k, none⟩ = false := by
  simp [World.frozen?, h]
theorem lt_of_heap {w : World} {g : Nat} {o : Obj} (h : w.heap[g]? = some o) : g < w.heap.size := (Array.getElem?_eq_some_iff.1 h).1
theorem heap_keep {w w' : World} {g : Nat} {o : Obj} (h : w.heap[g]? = some o) (hb : Below w.heap.size w w') : w'.heap[g]? = some o := (hb.block _ (lt_of_heap h)).trans h
theorem heap_al {w : World} {g : Nat} {o : Obj} (h : w.heap[g]? = some o) (o' : Obj) : (w.alloc o').heap[g]? = some o := heap_keep h (below_al _ _)
theorem heap_set {w : World} {b : Nat} {v : Vec} {t : TypeId} (h : w.heap[b]? = some (.cells (vc v) t (0, 0))) {k : Nat} (hk : k < 8) (n : Nat) : (w.setCell ⟨b, k, none⟩ (.int .u32 (n : Int))).heap[b]? = some (.cells (vc (upd v k n)) t (0, 0)) := by
  rw [heap_setCell_same _ _ _ _ _ _ h, vc_set v hk]
/-! ### compared -/
theorem all8 (p : Nat → Prop) : (∀ i, i < 8 → p i) ↔ p 0 ∧ p 1 ∧ p 2 ∧ p 3 ∧ p 4 ∧ p 5 ∧ p 6 ∧ p 7 := by
  constructor
  · intro h; exact ⟨h 0 (by omega), h 1 (by omega), h 2 (by omega), h 3 (by omega), h 4 (by omega), h 5 (by omega), h 6 (by omega), h 7 (by omega)⟩
  · rintro ⟨h0, h1, h2, h3, h4, h5, h6, h7⟩ i hi
    match i, hi with
    | 0, _ => exact h0
    | 1, _ => exact h1
    | 2, _ => exact h2
    | 3, _ => exact h3
    | 4, _ => exact h4
    | 5, _ => exact h5
    | 6, _ => exact h6
    | 7, _ => exact h7
def eqV (v u : Vec) : Bool := decide (v 0 = u 0 ∧ v 1 = u 1 ∧ v 2 = u 2 ∧ v 3 = u 3 ∧ v 4 = u 4 ∧ v 5 = u 5 ∧ v 6 = u 6 ∧ v 7 = u 7)
theorem eqV_refl (v : Vec) : eqV v v = true := by simp [eqV]
theorem u32_info : (Tryd.prog.info? 28).map (fun i => (i.zero, i.size)) = some (some (.int .u32 0), 1) := by kernel_rfl
theorem eq_vec8 (a0 a1 a2 a3 a4 a5 a6 a7 b0 b1 b2 b3 b4 b5 b6 b7 : Int) (w : World) : (Op.equalIn 10000 30 (.agg #[.int .u32 a0, .int .u32 a1, .int .u32 a2, .int .u32 a3, .int .u32 a4, .int .u32 a5, .int .u32 a6, .int .u32 a7]) (.agg #[.int .u32 b0, .int .u32 b1, .int .u32 b2, .int .u32 b3, .int .u32 b4, .int .u32 b5, .int .u32 b6, .int .u32 b7])).run Tryd.prog w = .ok (a0 == b0 && a1 == b1 && a2 == b2 && a3 == b3 && a4 == b4 && a5 == b5 && a6 == b6 && a7 == b7) w := by
  obtain ⟨hz, hi⟩ := zero_of_info u32_info
  have u3 := Tryd.underlying28
  rw [show (10000 : Nat) = 9999 + 1 from rfl, Op.equalIn]
  simp only [Sem.run_bind, run_underlying Tryd.underlying30, Result.andThen_ok]
  simp only [Std.Legacy.Range.forIn_eq_forIn_range', Std.Legacy.Range.size, Nat.sub_zero, Nat.add_sub_cancel, Nat.div_one, List.range'_succ, List.range'_zero, List.forIn_cons, List.forIn_nil]
  go_simp
  by_cases h0 : a0 = b0
  · by_cases h1 : a1 = b1
    · by_cases h2 : a2 = b2
      · by_cases h3 : a3 = b3
        · by_cases h4 : a4 = b4
          · by_cases h5 : a5 = b5
            · by_cases h6 : a6 = b6
              · by_cases h7 : a7 = b7
                · simp [h0, h1, h2, h3, h4, h5, h6, h7]
                · simp [h0, h1, h2, h3, h4, h5, h6, h7]
              · simp [h0, h1, h2, h3, h4, h5, h6]
            · simp [h0, h1, h2, h3, h4, h5]
          · simp [h0, h1, h2, h3, h4]
        · simp [h0, h1, h2, h3]
      · simp [h0, h1, h2]
    · simp [h0, h1]
  · simp [h0]
theorem eq_vec (v u : Vec) (w : World) : (Op.equalIn 10000 30 (.agg #[.int .u32 (v 0 : Int), .int .u32 (v 1 : Int), .int .u32 (v 2 : Int), .int .u32 (v 3 : Int), .int .u32 (v 4 : Int), .int .u32 (v 5 : Int), .int .u32 (v 6 : Int), .int .u32 (v 7 : Int)]) (.agg #[.int .u32 (u 0 : Int), .int .u32 (u 1 : Int), .int .u32 (u 2 : Int), .int .u32 (u 3 : Int), .int .u32 (u 4 : Int), .int .u32 (u 5 : Int), .int .u32 (u 6 : Int), .int .u32 (u 7 : Int)])).run Tryd.prog w = .ok (eqV v u) w := by
  refine (eq_vec8 _ _ _ _ _ _ _ _ _ _ _ _ _ _ _ _ w).trans ?_
  congr 1
  rw [Bool.eq_iff_iff]
  unfold eqV
  rw [decide_eq_true_eq]
  simp only [Bool.and_eq_true, beq_iff_eq, Int.natCast_inj, and_assoc]
theorem run_eqlV (v u : Vec) (w : World) : (binOp .eql 30 (.agg #[.int .u32 (v 0 : Int), .int .u32 (v 1 : Int), .int .u32 (v 2 : Int), .int .u32 (v 3 : Int), .int .u32 (v 4 : Int), .int .u32 (v 5 : Int), .int .u32 (v 6 : Int), .int .u32 (v 7 : Int)]) (.agg #[.int .u32 (u 0 : Int), .int .u32 (u 1 : Int), .int .u32 (u 2 : Int), .int .u32 (u 3 : Int), .int .u32 (u 4 : Int), .int .u32 (u 5 : Int), .int .u32 (u 6 : Int), .int .u32 (u 7 : Int)])).run Tryd.prog w = .ok (.bool (eqV v u)) w := by
  have h := eq_vec v u w
  simp only [binOp]
  simp [Op.equal, Op.maxDepth]
  rw [h]; rfl
theorem eqlV {v u : Vec} {b : Bool} (h : eqV v u = b) (w : World) : (binOp .eql 30 (.agg #[.int .u32 (v 0 : Int), .int .u32 (v 1 : Int), .int .u32 (v 2 : Int), .int .u32 (v 3 : Int), .int .u32 (v 4 : Int), .int .u32 (v 5 : Int), .int .u32 (v 6 : Int), .int .u32 (v 7 : Int)]) (.agg #[.int .u32 (u 0 : Int), .int .u32 (u 1 : Int), .int .u32 (u 2 : Int), .int .u32 (u 3 : Int), .int .u32 (u 4 : Int), .int .u32 (u 5 : Int), .int .u32 (u 6 : Int), .int .u32 (u 7 : Int)])).run Tryd.prog w = .ok (.bool b) w := by rw [run_eqlV, h]
/-! ### rows of vectors -/
def Vec.enc (v : Vec) : List Value := (vc v).toList
def flatV (l : List Vec) : List Value := l.flatMap fun v => (vc v).toList
/-- A slice that reads as these vectors. -/
def IsVecs (w : World) (a : Option Addr) (len cap : Nat) (xs : List Vec) : Prop :=
  xs.length = len ∧ len ≤ cap ∧ cap ≤ maxLen ∧ (∀ x ∈ xs, okV x) ∧
    match a with
    | none => len = 0 ∧ cap = 0
    | some ad => ∀ i x, xs[i]? = some x → ∀ k, k < 8 → w.cell? ((ad.add (i * 8)).add k) = some (.int .u32 (x k : Int))
theorem IsVecs.keep {w w' : World} {a : Option Addr} {len cap : Nat} {xs : List Vec} (h : IsVecs w a len cap xs) (hb : Below w.heap.size w w') : IsVecs w' a len cap xs := by
  obtain ⟨h1, h2, h3, h4, h5⟩ := h
  refine ⟨h1, h2, h3, h4, ?_⟩
  cases a with
  | none => exact h5
  | some ad => exact fun i x hx k hk => cell_keep hb (h5 i x hx k hk)
theorem IsVecs.at {w : World} {ad : Addr} {len cap : Nat} {xs : List Vec} (h : IsVecs w (some ad) len cap xs) (i : Nat) (hi : i < len) :
    ∃ (x : Vec) (B O : Nat) (sp : Option Nat), xs[i]? = some x ∧ okV x ∧ ad.add (i * 8) = ⟨B, O, sp⟩ ∧ (∀ k, k < 8 → w.cell? ((⟨B, O, sp⟩ : Addr).add k) = some (.int .u32 (x k : Int))) ∧ w.cell? ⟨B, O, sp⟩ = some (.int .u32 (x 0 : Int)) ∧ w.cell? ⟨B, O + 1, none⟩ = some (.int .u32 (x 1 : Int)) ∧ w.cell? ⟨B, O + 2, none⟩ = some (.int .u32 (x 2 : Int)) ∧ w.cell? ⟨B, O + 3, none⟩ = some (.int .u32 (x 3 : Int)) ∧ w.cell? ⟨B, O + 4, none⟩ = some (.int .u32 (x 4 : Int)) ∧ w.cell? ⟨B, O + 5, none⟩ = some (.int .u32 (x 5 : Int)) ∧ w.cell? ⟨B, O + 6, none⟩ = some (.int .u32 (x 6 : Int)) ∧ w.cell? ⟨B, O + 7, none⟩ = some (.int .u32 (x 7 : Int)) := by
  obtain ⟨h1, h2, h3, h4, h5⟩ := h
  have hx : xs[i]? = some (xs[i]'(by omega)) := List.getElem?_eq_getElem (by omega)
  have hc := h5 i _ hx
  have hok := h4 _ (List.mem_of_getElem? hx)
  generalize xs[i]'(by omega) = x at hx hc hok
  obtain ⟨A, hA⟩ : ∃ A, A = ad.add (i * 8) := ⟨_, rfl⟩
  rw [← hA] at hc
  obtain ⟨B, O, sp⟩ := A
  have e : ∀ k, 0 < k → k < 8 → w.cell? ⟨B, O + k, none⟩ = some (.int .u32 (x k : Int)) := fun k h0 hk => by
    have h := hc k hk
    unfold Addr.add at h
    rw [if_neg (by omega)] at h
    exact h
  exact ⟨x, B, O, sp, hx, hok, hA.symm, hc, hc 0 (by omega), e 1 (by omega) (by omega), e 2 (by omega) (by omega), e 3 (by omega) (by omega), e 4 (by omega) (by omega), e 5 (by omega) (by omega), e 6 (by omega) (by omega), e 7 (by omega) (by omega)⟩
theorem IsVecs.none_len {w : World} {len cap : Nat} {xs : List Vec} (h : IsVecs w none len cap xs) : len = 0 := h.2.2.2.2.1
theorem add8 (g j : Nat) : (⟨g, 0, none⟩ : Addr).add j = ⟨g, j, none⟩ := by
  unfold Addr.add
  by_cases h : j = 0
  · rw [if_pos h, h]
  · rw [if_neg h]; simp
theorem add88 (g o j : Nat) : (⟨g, o, none⟩ : Addr).add j = ⟨g, o + j, none⟩ := by
  unfold Addr.add
  by_cases h : j = 0
  · rw [if_pos h, h]; rfl
  · rw [if_neg h]
def VecsV (w : World) (v : Value) (l : List Vec) : Prop := ∃ a len cap, v = .slice a len cap ∧ IsVecs w a len cap l
theorem VecsV.keep {w w' : World} {v : Value} {l : List Vec} (h : VecsV w v l) (hb : Below w.heap.size w w') : VecsV w' v l := by
  obtain ⟨a, len, cap, e, h⟩ := h
  exact ⟨a, len, cap, e, h.keep hb⟩
theorem VecsV.al {w : World} {v : Value} {l : List Vec} (h : VecsV w v l) (o : Obj) : VecsV (w.alloc o) v l := h.keep (below_al _ _)
theorem VecsV.dr {w : World} {v : Value} {l : List Vec} (h : VecsV w v l) : VecsV w.drew v l := h.keep (below_dr _)
end Go.Proofs.YtfnmekmgjcjglaaDoor.V
