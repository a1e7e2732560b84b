/-
  Vectors: eight numbers; rows of them in memory.
-/
import Derived.Test.YtckfdjfcikljaaaVDot
import Derived.DeepKeys
import Derived.Deep.WholeRow
namespace Go.Proofs.Ytckfdjfcikljaaa
set_option linter.unusedVariables false
set_option linter.unusedSimpArgs false
open Go Go.RowKit Go.Maps Go.Sort

abbrev Vec := Nat → Nat
def okV (v : Vec) : Prop := (∀ i, v i < 4294967296) ∧ ∀ i, 8 ≤ i → v i = 0
def vc (v : Vec) : Array Value := #[.int .u32 (v 0 : Int), .int .u32 (v 1 : Int), .int .u32 (v 2 : Int), .int .u32 (v 3 : Int), .int .u32 (v 4 : Int), .int .u32 (v 5 : Int), .int .u32 (v 6 : Int), .int .u32 (v 7 : Int)]
def zeroV : Vec := fun _ => 0
theorem ok_zero : okV zeroV := ⟨fun _ => by simp [zeroV], fun _ _ => rfl⟩
theorem ext8 {v u : Vec} (hv : okV v) (hu : okV u) (h : ∀ i, i < 8 → v i = u i) : v = u := by
  funext i
  by_cases hi : i < 8
  · exact h i hi
  · rw [hv.2 i (by omega), hu.2 i (by omega)]
def upd (v : Vec) (k n : Nat) : Vec := fun i => if i = k then n else v i
theorem ok_upd {v : Vec} (hv : okV v) {k n : Nat} (hk : k < 8) (hn : n < 4294967296) : okV (upd v k n) := by
  refine ⟨fun i => ?_, fun i hi => ?_⟩
  · unfold upd; split
    · exact hn
    · exact hv.1 i
  · unfold upd; rw [if_neg (by omega)]; exact hv.2 i hi

theorem vc_get (v : Vec) {k : Nat} (hk : k < 8) : (vc v)[k]? = some (.int .u32 (v k : Int)) := by
  match k, hk with
  | 0, _ => rfl
  | 1, _ => rfl
  | 2, _ => rfl
  | 3, _ => rfl
  | 4, _ => rfl
  | 5, _ => rfl
  | 6, _ => rfl
  | 7, _ => rfl
theorem vc_size (v : Vec) : (vc v).size = 8 := rfl
theorem vc_ext {v u : Vec} (h : ∀ i, i < 8 → v i = u i) : vc v = vc u := by
  unfold vc
  rw [h 0 (by omega), h 1 (by omega), h 2 (by omega), h 3 (by omega), h 4 (by omega), h 5 (by omega), h 6 (by omega), h 7 (by omega)]
theorem vc_set (v : Vec) {k : Nat} (hk : k < 8) (n : Nat) : (vc v).setIfInBounds k (.int .u32 (n : Int)) = vc (upd v k n) := by
  match k, hk with
  | 0, _ => rfl
  | 1, _ => rfl
  | 2, _ => rfl
  | 3, _ => rfl
  | 4, _ => rfl
  | 5, _ => rfl
  | 6, _ => rfl
  | 7, _ => rfl

theorem cellV {w : World} {b : Nat} {v : Vec} {t : TypeId} {fr : Nat × Nat} (h : w.heap[b]? = some (.cells (vc v) t fr)) {k : Nat} (hk : k < 8) : w.cell? ⟨b, k, none⟩ = some (.int .u32 (v k : Int)) := by
  simp [World.cell?, h]; simpa using vc_get v hk
theorem freeV {w : World} {b : Nat} {cs : Array Value} {t : TypeId} (h : w.heap[b]? = some (.cells cs t (0, 0))) (k : Nat) : w.frozen? ⟨b, k, none⟩ = false := by
  simp [World.frozen?, h]
theorem cells8 {w : World} {b : Nat} {v : Vec} {t : TypeId} {fr : Nat × Nat} (h : w.heap[b]? = some (.cells (vc v) t fr)) :
    w.cell? ⟨b, 0, none⟩ = some (.int .u32 (v 0 : Int)) ∧ w.cell? ⟨b, 1, none⟩ = some (.int .u32 (v 1 : Int)) ∧ w.cell? ⟨b, 2, none⟩ = some (.int .u32 (v 2 : Int)) ∧ w.cell? ⟨b, 3, none⟩ = some (.int .u32 (v 3 : Int)) ∧ w.cell? ⟨b, 4, none⟩ = some (.int .u32 (v 4 : Int)) ∧ w.cell? ⟨b, 5, none⟩ = some (.int .u32 (v 5 : Int)) ∧ w.cell? ⟨b, 6, none⟩ = some (.int .u32 (v 6 : Int)) ∧ w.cell? ⟨b, 7, none⟩ = some (.int .u32 (v 7 : Int)) :=
  ⟨cellV h (by omega), cellV h (by omega), cellV h (by omega), cellV h (by omega), cellV h (by omega), cellV h (by omega), cellV h (by omega), cellV h (by omega)⟩

theorem lt_of_heap {w : World} {g : Nat} {o : Obj} (h : w.heap[g]? = some o) : g < w.heap.size := (Array.getElem?_eq_some_iff.1 h).1
theorem heap_keep {w w' : World} {g : Nat} {o : Obj} (h : w.heap[g]? = some o) (hb : Below w.heap.size w w') : w'.heap[g]? = some o := (hb.block _ (lt_of_heap h)).trans h
theorem heap_al {w : World} {g : Nat} {o : Obj} (h : w.heap[g]? = some o) (o' : Obj) : (w.alloc o').heap[g]? = some o := heap_keep h (below_al _ _)
theorem heap_set {w : World} {b : Nat} {v : Vec} {t : TypeId} (h : w.heap[b]? = some (.cells (vc v) t (0, 0))) {k : Nat} (hk : k < 8) (n : Nat) : (w.setCell ⟨b, k, none⟩ (.int .u32 (n : Int))).heap[b]? = some (.cells (vc (upd v k n)) t (0, 0)) := by
  rw [heap_setCell_same _ _ _ _ _ _ h, vc_set v hk]
theorem set8_heap {w : World} {g : Nat} {cs : Array Value} {t : TypeId} {z0 z1 z2 z3 z4 z5 z6 z7 : Value} (h : w.heap[g]? = some (.cells cs t (0, 0))) (hc : cs = #[z0, z1, z2, z3, z4, z5, z6, z7]) (a0 a1 a2 a3 a4 a5 a6 a7 : Value) :
    ((((((((w.setCell ⟨g, 0, none⟩ a0).setCell ⟨g, 1, none⟩ a1).setCell ⟨g, 2, none⟩ a2).setCell ⟨g, 3, none⟩ a3).setCell ⟨g, 4, none⟩ a4).setCell ⟨g, 5, none⟩ a5).setCell ⟨g, 6, none⟩ a6).setCell ⟨g, 7, none⟩ a7).heap[g]? = some (.cells #[a0, a1, a2, a3, a4, a5, a6, a7] t (0, 0)) := by
  subst hc
  have h0 : (w.setCell ⟨g, 0, none⟩ a0).heap[g]? = some (.cells #[a0, z1, z2, z3, z4, z5, z6, z7] t (0, 0)) := by rw [heap_setCell_same w g 0 _ _ a0 h]; simp
  have h1 : ((w.setCell ⟨g, 0, none⟩ a0).setCell ⟨g, 1, none⟩ a1).heap[g]? = some (.cells #[a0, a1, z2, z3, z4, z5, z6, z7] t (0, 0)) := by rw [heap_setCell_same (w.setCell ⟨g, 0, none⟩ a0) g 1 _ _ a1 h0]; simp
  have h2 : (((w.setCell ⟨g, 0, none⟩ a0).setCell ⟨g, 1, none⟩ a1).setCell ⟨g, 2, none⟩ a2).heap[g]? = some (.cells #[a0, a1, a2, z3, z4, z5, z6, z7] t (0, 0)) := by rw [heap_setCell_same ((w.setCell ⟨g, 0, none⟩ a0).setCell ⟨g, 1, none⟩ a1) g 2 _ _ a2 h1]; simp
  have h3 : ((((w.setCell ⟨g, 0, none⟩ a0).setCell ⟨g, 1, none⟩ a1).setCell ⟨g, 2, none⟩ a2).setCell ⟨g, 3, none⟩ a3).heap[g]? = some (.cells #[a0, a1, a2, a3, z4, z5, z6, z7] t (0, 0)) := by rw [heap_setCell_same (((w.setCell ⟨g, 0, none⟩ a0).setCell ⟨g, 1, none⟩ a1).setCell ⟨g, 2, none⟩ a2) g 3 _ _ a3 h2]; simp
  have h4 : (((((w.setCell ⟨g, 0, none⟩ a0).setCell ⟨g, 1, none⟩ a1).setCell ⟨g, 2, none⟩ a2).setCell ⟨g, 3, none⟩ a3).setCell ⟨g, 4, none⟩ a4).heap[g]? = some (.cells #[a0, a1, a2, a3, a4, z5, z6, z7] t (0, 0)) := by rw [heap_setCell_same ((((w.setCell ⟨g, 0, none⟩ a0).setCell ⟨g, 1, none⟩ a1).setCell ⟨g, 2, none⟩ a2).setCell ⟨g, 3, none⟩ a3) g 4 _ _ a4 h3]; simp
  have h5 : ((((((w.setCell ⟨g, 0, none⟩ a0).setCell ⟨g, 1, none⟩ a1).setCell ⟨g, 2, none⟩ a2).setCell ⟨g, 3, none⟩ a3).setCell ⟨g, 4, none⟩ a4).setCell ⟨g, 5, none⟩ a5).heap[g]? = some (.cells #[a0, a1, a2, a3, a4, a5, z6, z7] t (0, 0)) := by rw [heap_setCell_same (((((w.setCell ⟨g, 0, none⟩ a0).setCell ⟨g, 1, none⟩ a1).setCell ⟨g, 2, none⟩ a2).setCell ⟨g, 3, none⟩ a3).setCell ⟨g, 4, none⟩ a4) g 5 _ _ a5 h4]; simp
  have h6 : (((((((w.setCell ⟨g, 0, none⟩ a0).setCell ⟨g, 1, none⟩ a1).setCell ⟨g, 2, none⟩ a2).setCell ⟨g, 3, none⟩ a3).setCell ⟨g, 4, none⟩ a4).setCell ⟨g, 5, none⟩ a5).setCell ⟨g, 6, none⟩ a6).heap[g]? = some (.cells #[a0, a1, a2, a3, a4, a5, a6, z7] t (0, 0)) := by rw [heap_setCell_same ((((((w.setCell ⟨g, 0, none⟩ a0).setCell ⟨g, 1, none⟩ a1).setCell ⟨g, 2, none⟩ a2).setCell ⟨g, 3, none⟩ a3).setCell ⟨g, 4, none⟩ a4).setCell ⟨g, 5, none⟩ a5) g 6 _ _ a6 h5]; simp
  have h7 : ((((((((w.setCell ⟨g, 0, none⟩ a0).setCell ⟨g, 1, none⟩ a1).setCell ⟨g, 2, none⟩ a2).setCell ⟨g, 3, none⟩ a3).setCell ⟨g, 4, none⟩ a4).setCell ⟨g, 5, none⟩ a5).setCell ⟨g, 6, none⟩ a6).setCell ⟨g, 7, none⟩ a7).heap[g]? = some (.cells #[a0, a1, a2, a3, a4, a5, a6, a7] t (0, 0)) := by rw [heap_setCell_same (((((((w.setCell ⟨g, 0, none⟩ a0).setCell ⟨g, 1, none⟩ a1).setCell ⟨g, 2, none⟩ a2).setCell ⟨g, 3, none⟩ a3).setCell ⟨g, 4, none⟩ a4).setCell ⟨g, 5, none⟩ a5).setCell ⟨g, 6, none⟩ a6) g 7 _ _ a7 h6]; simp
  exact h7
theorem heap_set8 {w : World} {b : Nat} {cs : Array Value} {t : TypeId} (h : w.heap[b]? = some (.cells cs t (0, 0))) (hs : cs.size = 8) (v : Vec) :
    ((((((((w.setCell ⟨b, 0, none⟩ (.int .u32 (v 0 : Int))).setCell ⟨b, 1, none⟩ (.int .u32 (v 1 : Int))).setCell ⟨b, 2, none⟩ (.int .u32 (v 2 : Int))).setCell ⟨b, 3, none⟩ (.int .u32 (v 3 : Int))).setCell ⟨b, 4, none⟩ (.int .u32 (v 4 : Int))).setCell ⟨b, 5, none⟩ (.int .u32 (v 5 : Int))).setCell ⟨b, 6, none⟩ (.int .u32 (v 6 : Int))).setCell ⟨b, 7, none⟩ (.int .u32 (v 7 : Int))).heap[b]? = some (.cells (vc v) t (0, 0)) := by
  obtain ⟨l⟩ := cs
  match l, hs with
  | [c0, c1, c2, c3, c4, c5, c6, c7], _ => exact set8_heap h rfl _ _ _ _ _ _ _ _

/-! ### compared -/
theorem all8 (p : Nat → Prop) : (∀ i, i < 8 → p i) ↔ p 0 ∧ p 1 ∧ p 2 ∧ p 3 ∧ p 4 ∧ p 5 ∧ p 6 ∧ p 7 := by
  constructor
  · intro h; exact ⟨h 0 (by omega), h 1 (by omega), h 2 (by omega), h 3 (by omega), h 4 (by omega), h 5 (by omega), h 6 (by omega), h 7 (by omega)⟩
  · rintro ⟨h0, h1, h2, h3, h4, h5, h6, h7⟩ i hi
    match i, hi with
    | 0, _ => exact h0
    | 1, _ => exact h1
    | 2, _ => exact h2
    | 3, _ => exact h3
    | 4, _ => exact h4
    | 5, _ => exact h5
    | 6, _ => exact h6
    | 7, _ => exact h7

def eqV (v u : Vec) : Bool := decide (v 0 = u 0 ∧ v 1 = u 1 ∧ v 2 = u 2 ∧ v 3 = u 3 ∧ v 4 = u 4 ∧ v 5 = u 5 ∧ v 6 = u 6 ∧ v 7 = u 7)
theorem eqV_refl (v : Vec) : eqV v v = true := by simp [eqV]
theorem eqV_iff {v u : Vec} (hv : okV v) (hu : okV u) : eqV v u = true ↔ v = u := by
  simp only [eqV, decide_eq_true_eq]
  exact ⟨fun h => ext8 hv hu ((all8 fun i => v i = u i).2 h), fun h => by rw [h]; exact (all8 fun i => u i = u i).1 fun _ _ => rfl⟩
theorem eqV_false {v u : Vec} (hv : okV v) (hu : okV u) (h : v ≠ u) : eqV v u = false := by
  cases hb : eqV v u
  · rfl
  · exact absurd ((eqV_iff hv hu).1 hb) h

theorem u32_info : (Try.prog.info? 22).map (fun i => (i.zero, i.size)) = some (some (.int .u32 0), 1) := by kernel_rfl
theorem eq_vec8 (a0 a1 a2 a3 a4 a5 a6 a7 b0 b1 b2 b3 b4 b5 b6 b7 : Int) (w : World) : (Op.equalIn 10000 24 (.agg #[.int .u32 a0, .int .u32 a1, .int .u32 a2, .int .u32 a3, .int .u32 a4, .int .u32 a5, .int .u32 a6, .int .u32 a7]) (.agg #[.int .u32 b0, .int .u32 b1, .int .u32 b2, .int .u32 b3, .int .u32 b4, .int .u32 b5, .int .u32 b6, .int .u32 b7])).run Try.prog w = .ok (a0 == b0 && a1 == b1 && a2 == b2 && a3 == b3 && a4 == b4 && a5 == b5 && a6 == b6 && a7 == b7) w := by
  obtain ⟨hz, hi⟩ := zero_of_info u32_info
  have u3 := Try.underlying22
  rw [show (10000 : Nat) = 9999 + 1 from rfl, Op.equalIn]
  simp only [Sem.run_bind, run_underlying Try.underlying24, Result.andThen_ok]
  simp only [Std.Legacy.Range.forIn_eq_forIn_range', Std.Legacy.Range.size, Nat.sub_zero, Nat.add_sub_cancel, Nat.div_one, List.range'_succ, List.range'_zero, List.forIn_cons, List.forIn_nil]
  go_simp
  by_cases h0 : a0 = b0
  · by_cases h1 : a1 = b1
    · by_cases h2 : a2 = b2
      · by_cases h3 : a3 = b3
        · by_cases h4 : a4 = b4
          · by_cases h5 : a5 = b5
            · by_cases h6 : a6 = b6
              · by_cases h7 : a7 = b7
                · simp [h0, h1, h2, h3, h4, h5, h6, h7]
                · simp [h0, h1, h2, h3, h4, h5, h6, h7]
              · simp [h0, h1, h2, h3, h4, h5, h6]
            · simp [h0, h1, h2, h3, h4, h5]
          · simp [h0, h1, h2, h3, h4]
        · simp [h0, h1, h2, h3]
      · simp [h0, h1, h2]
    · simp [h0, h1]
  · simp [h0]

theorem eq_vec (v u : Vec) (w : World) : (Op.equalIn 10000 24 (.agg #[.int .u32 (v 0 : Int), .int .u32 (v 1 : Int), .int .u32 (v 2 : Int), .int .u32 (v 3 : Int), .int .u32 (v 4 : Int), .int .u32 (v 5 : Int), .int .u32 (v 6 : Int), .int .u32 (v 7 : Int)]) (.agg #[.int .u32 (u 0 : Int), .int .u32 (u 1 : Int), .int .u32 (u 2 : Int), .int .u32 (u 3 : Int), .int .u32 (u 4 : Int), .int .u32 (u 5 : Int), .int .u32 (u 6 : Int), .int .u32 (u 7 : Int)])).run Try.prog w = .ok (eqV v u) w := by
  refine (eq_vec8 _ _ _ _ _ _ _ _ _ _ _ _ _ _ _ _ w).trans ?_
  congr 1
  rw [Bool.eq_iff_iff]
  unfold eqV
  rw [decide_eq_true_eq]
  simp only [Bool.and_eq_true, beq_iff_eq, Int.natCast_inj, and_assoc]
theorem run_eqlV (v u : Vec) (w : World) : (binOp .eql 24 (.agg #[.int .u32 (v 0 : Int), .int .u32 (v 1 : Int), .int .u32 (v 2 : Int), .int .u32 (v 3 : Int), .int .u32 (v 4 : Int), .int .u32 (v 5 : Int), .int .u32 (v 6 : Int), .int .u32 (v 7 : Int)]) (.agg #[.int .u32 (u 0 : Int), .int .u32 (u 1 : Int), .int .u32 (u 2 : Int), .int .u32 (u 3 : Int), .int .u32 (u 4 : Int), .int .u32 (u 5 : Int), .int .u32 (u 6 : Int), .int .u32 (u 7 : Int)])).run Try.prog w = .ok (.bool (eqV v u)) w := by
  have h := eq_vec v u w
  simp only [binOp]
  simp [Op.equal, Op.maxDepth]
  rw [h]; rfl
theorem run_neqV (v u : Vec) (w : World) : (binOp .neq 24 (.agg #[.int .u32 (v 0 : Int), .int .u32 (v 1 : Int), .int .u32 (v 2 : Int), .int .u32 (v 3 : Int), .int .u32 (v 4 : Int), .int .u32 (v 5 : Int), .int .u32 (v 6 : Int), .int .u32 (v 7 : Int)]) (.agg #[.int .u32 (u 0 : Int), .int .u32 (u 1 : Int), .int .u32 (u 2 : Int), .int .u32 (u 3 : Int), .int .u32 (u 4 : Int), .int .u32 (u 5 : Int), .int .u32 (u 6 : Int), .int .u32 (u 7 : Int)])).run Try.prog w = .ok (.bool (!eqV v u)) w := by
  have h := eq_vec v u w
  simp only [binOp]
  simp [Op.equal, Op.maxDepth]
  rw [h]; rfl
theorem eqlV {v u : Vec} {b : Bool} (h : eqV v u = b) (w : World) : (binOp .eql 24 (.agg #[.int .u32 (v 0 : Int), .int .u32 (v 1 : Int), .int .u32 (v 2 : Int), .int .u32 (v 3 : Int), .int .u32 (v 4 : Int), .int .u32 (v 5 : Int), .int .u32 (v 6 : Int), .int .u32 (v 7 : Int)]) (.agg #[.int .u32 (u 0 : Int), .int .u32 (u 1 : Int), .int .u32 (u 2 : Int), .int .u32 (u 3 : Int), .int .u32 (u 4 : Int), .int .u32 (u 5 : Int), .int .u32 (u 6 : Int), .int .u32 (u 7 : Int)])).run Try.prog w = .ok (.bool b) w := by rw [run_eqlV, h]
theorem neqV {v u : Vec} {b : Bool} (h : eqV v u = b) (w : World) : (binOp .neq 24 (.agg #[.int .u32 (v 0 : Int), .int .u32 (v 1 : Int), .int .u32 (v 2 : Int), .int .u32 (v 3 : Int), .int .u32 (v 4 : Int), .int .u32 (v 5 : Int), .int .u32 (v 6 : Int), .int .u32 (v 7 : Int)]) (.agg #[.int .u32 (u 0 : Int), .int .u32 (u 1 : Int), .int .u32 (u 2 : Int), .int .u32 (u 3 : Int), .int .u32 (u 4 : Int), .int .u32 (u 5 : Int), .int .u32 (u 6 : Int), .int .u32 (u 7 : Int)])).run Try.prog w = .ok (.bool (!b)) w := by rw [run_neqV, h]

/-! ### rows of vectors -/
def Vec.enc (v : Vec) : List Value := (vc v).toList
def flatV (l : List Vec) : List Value := l.flatMap fun v => (vc v).toList
theorem flatV_cons (v : Vec) (r : List Vec) : flatV (v :: r) = (vc v).toList ++ flatV r := rfl
theorem flatV_append (l m : List Vec) : flatV (l ++ m) = flatV l ++ flatV m := by simp [flatV]
theorem flatV_length (l : List Vec) : (flatV l).length = l.length * 8 := by
  induction l with
  | nil => rfl
  | cons d r ih =>
    rw [flatV_cons, List.length_append, ih, List.length_cons, Array.length_toList, vc_size]; omega
theorem flatV_get : ∀ (l : List Vec) (i : Nat) (x : Vec), l[i]? = some x → ∀ k, k < 8 → (flatV l)[i * 8 + k]? = some (.int .u32 (x k : Int))
  | [], i, x, h, k, hk => by simp at h
  | d :: r, 0, x, h, k, hk => by
    simp at h; subst h
    rw [flatV_cons, List.getElem?_append_left (by rw [Array.length_toList, vc_size]; omega)]
    simpa using vc_get d hk
  | d :: r, i + 1, x, h, k, hk => by
    have h' : r[i]? = some x := by simpa using h
    have := flatV_get r i x h' k hk
    rw [flatV_cons, List.getElem?_append_right (by rw [Array.length_toList, vc_size]; omega), Array.length_toList, vc_size, show (i + 1) * 8 + k - 8 = i * 8 + k by omega]
    exact this
theorem flatV_one (l : List Vec) : ∀ u ∈ flatV l, u.oneCell' = true := by
  intro u hu
  simp only [flatV, List.mem_flatMap] at hu
  obtain ⟨d, _, hd⟩ := hu
  simp [vc] at hd
  rcases hd with rfl | rfl | rfl | rfl | rfl | rfl | rfl | rfl <;> rfl

/-- A slice that reads as these vectors. -/
def IsVecs (w : World) (a : Option Addr) (len cap : Nat) (xs : List Vec) : Prop :=
  xs.length = len ∧ len ≤ cap ∧ cap ≤ maxLen ∧ (∀ x ∈ xs, okV x) ∧
    match a with
    | none => len = 0 ∧ cap = 0
    | some ad => ∀ i x, xs[i]? = some x → ∀ k, k < 8 → w.cell? ((ad.add (i * 8)).add k) = some (.int .u32 (x k : Int))
theorem IsVecs.keep {w w' : World} {a : Option Addr} {len cap : Nat} {xs : List Vec} (h : IsVecs w a len cap xs) (hb : Below w.heap.size w w') : IsVecs w' a len cap xs := by
  obtain ⟨h1, h2, h3, h4, h5⟩ := h
  refine ⟨h1, h2, h3, h4, ?_⟩
  cases a with
  | none => exact h5
  | some ad => exact fun i x hx k hk => cell_keep hb (h5 i x hx k hk)
theorem IsVecs.at {w : World} {ad : Addr} {len cap : Nat} {xs : List Vec} (h : IsVecs w (some ad) len cap xs) (i : Nat) (hi : i < len) :
    ∃ (x : Vec) (B O : Nat) (sp : Option Nat), xs[i]? = some x ∧ okV x ∧ ad.add (i * 8) = ⟨B, O, sp⟩ ∧ (∀ k, k < 8 → w.cell? ((⟨B, O, sp⟩ : Addr).add k) = some (.int .u32 (x k : Int))) ∧ w.cell? ⟨B, O, sp⟩ = some (.int .u32 (x 0 : Int)) ∧ w.cell? ⟨B, O + 1, none⟩ = some (.int .u32 (x 1 : Int)) ∧ w.cell? ⟨B, O + 2, none⟩ = some (.int .u32 (x 2 : Int)) ∧ w.cell? ⟨B, O + 3, none⟩ = some (.int .u32 (x 3 : Int)) ∧ w.cell? ⟨B, O + 4, none⟩ = some (.int .u32 (x 4 : Int)) ∧ w.cell? ⟨B, O + 5, none⟩ = some (.int .u32 (x 5 : Int)) ∧ w.cell? ⟨B, O + 6, none⟩ = some (.int .u32 (x 6 : Int)) ∧ w.cell? ⟨B, O + 7, none⟩ = some (.int .u32 (x 7 : Int)) := by
  obtain ⟨h1, h2, h3, h4, h5⟩ := h
  have hx : xs[i]? = some (xs[i]'(by omega)) := List.getElem?_eq_getElem (by omega)
  have hc := h5 i _ hx
  have hok := h4 _ (List.mem_of_getElem? hx)
  generalize xs[i]'(by omega) = x at hx hc hok
  obtain ⟨A, hA⟩ : ∃ A, A = ad.add (i * 8) := ⟨_, rfl⟩
  rw [← hA] at hc
  obtain ⟨B, O, sp⟩ := A
  have e : ∀ k, 0 < k → k < 8 → w.cell? ⟨B, O + k, none⟩ = some (.int .u32 (x k : Int)) := fun k h0 hk => by
    have h := hc k hk
    unfold Addr.add at h
    rw [if_neg (by omega)] at h
    exact h
  exact ⟨x, B, O, sp, hx, hok, hA.symm, hc, hc 0 (by omega), e 1 (by omega) (by omega), e 2 (by omega) (by omega), e 3 (by omega) (by omega), e 4 (by omega) (by omega), e 5 (by omega) (by omega), e 6 (by omega) (by omega), e 7 (by omega) (by omega)⟩
theorem IsVecs.none_len {w : World} {len cap : Nat} {xs : List Vec} (h : IsVecs w none len cap xs) : len = 0 := h.2.2.2.2.1
theorem IsVecs.none_cap {w : World} {len cap : Nat} {xs : List Vec} (h : IsVecs w none len cap xs) : cap = 0 := h.2.2.2.2.2

theorem add8 (g j : Nat) : (⟨g, 0, none⟩ : Addr).add j = ⟨g, j, none⟩ := by
  unfold Addr.add
  by_cases h : j = 0
  · rw [if_pos h, h]
  · rw [if_neg h]; simp
theorem add88 (g o j : Nat) : (⟨g, o, none⟩ : Addr).add j = ⟨g, o + j, none⟩ := by
  unfold Addr.add
  by_cases h : j = 0
  · rw [if_pos h, h]; rfl
  · rw [if_neg h]

/-- A slice that owns vectors reads as them. -/
theorem owns_isVecs {W : World} {base : Nat} {v : Value} {l : List Vec} (h : W.ownsRow base 24 8 v l.length (flatV l)) (hok : ∀ d ∈ l, okV d) :
    ∃ a cap, v = .slice a l.length cap ∧ IsVecs W a l.length cap l := by
  rcases h.2 with ⟨rfl, h0⟩ | ⟨g, cap, cur, rfl, _, hg, hcap, hm, hsz, ht⟩
  · rw [h0]
    exact ⟨none, 0, rfl, h0, Nat.le_refl _, Nat.zero_le _, hok, rfl, rfl⟩
  · refine ⟨_, cap, rfl, rfl, hcap, hm, hok, fun i x hx k hk => ?_⟩
    have h0 := flatV_get l i x hx k hk
    rw [← ht] at h0
    have hi : i < l.length := (List.getElem?_eq_some_iff.1 hx).1
    rw [List.getElem?_take, if_pos (by omega)] at h0
    rw [add8, add88]
    simp [World.cell?, hg]; simpa using h0

def VecsV (w : World) (v : Value) (l : List Vec) : Prop := ∃ a len cap, v = .slice a len cap ∧ IsVecs w a len cap l
theorem VecsV.keep {w w' : World} {v : Value} {l : List Vec} (h : VecsV w v l) (hb : Below w.heap.size w w') : VecsV w' v l := by
  obtain ⟨a, len, cap, e, h⟩ := h
  exact ⟨a, len, cap, e, h.keep hb⟩
theorem VecsV.al {w : World} {v : Value} {l : List Vec} (h : VecsV w v l) (o : Obj) : VecsV (w.alloc o) v l := h.keep (below_al _ _)
theorem VecsV.dr {w : World} {v : Value} {l : List Vec} (h : VecsV w v l) : VecsV w.drew v l := h.keep (below_dr _)
theorem owns_vecsV {W : World} {base : Nat} {v : Value} {l : List Vec} (h : W.ownsRow base 24 8 v l.length (flatV l)) (hok : ∀ d ∈ l, okV d) : VecsV W v l := by
  obtain ⟨a, cap, e, h⟩ := owns_isVecs h hok
  exact ⟨a, _, cap, e, h⟩
theorem owns_belowV {W W' : World} {B : Nat} {v : Value} {n : Nat} {xs : List Value} (h : W.ownsRow B 24 8 v n xs) (hb : Below W.heap.size W W') : W'.ownsRow B 24 8 v n xs := by
  refine ⟨h.1, ?_⟩
  rcases h.2 with hn | ⟨g, cap, cur, hv, hbg, hg, rest⟩
  · exact .inl hn
  · exact .inr ⟨g, cap, cur, hv, hbg, (hb.block g (Array.getElem?_eq_some_iff.1 hg).1).trans hg, rest⟩
theorem infoVec : (Try.prog.info? 24).map (fun i => (i.zero, i.size, i.bytes)) = some (some (.agg #[.int .u32 0, .int .u32 0, .int .u32 0, .int .u32 0, .int .u32 0, .int .u32 0, .int .u32 0, .int .u32 0]), 8, 32) := by kernel_rfl

theorem new_vecs (W : World) (l : List Vec) (cs : Array Value) (hcs : cs = (flatV l).toArray) (hok : ∀ d ∈ l, okV d) (hl : l.length ≤ 1000000) :
    IsVecs (W.alloc (.cells cs 24)) (some ⟨W.heap.size, 0, none⟩) l.length l.length l := by
  have ho : (W.alloc (.cells cs 24)).ownsRow W.heap.size 24 8 (.slice (some ⟨W.heap.size, 0, none⟩) l.length l.length) l.length (flatV l) :=
    ⟨flatV_length l, .inr ⟨W.heap.size, l.length, cs, rfl, Nat.le_refl _, heap_alloc_last' _ _, Nat.le_refl _, by unfold maxLen; omega, by rw [hcs]; simp [flatV_length], by rw [hcs]; exact List.take_of_length_le (by simp [flatV_length])⟩⟩
  obtain ⟨a, cap, hv, hI⟩ := owns_isVecs ho hok
  cases hv
  exact hI
theorem new_vecsV (W : World) (g : Nat) (l : List Vec) (cs : Array Value) (n : Nat) (hg : g = W.heap.size) (hn : n = l.length) (hcs : cs = (flatV l).toArray) (hok : ∀ d ∈ l, okV d) (hl : l.length ≤ 1000000) :
    VecsV (W.alloc (.cells cs 24)) (.slice (some ⟨g, 0, none⟩) n n) l := by
  subst hn hg
  exact ⟨_, _, _, rfl, new_vecs W l cs hcs hok hl⟩

end Go.Proofs.Ytckfdjfcikljaaa
