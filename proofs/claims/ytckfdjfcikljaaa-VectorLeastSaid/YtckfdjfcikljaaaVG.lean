/-
  Rows of vectors that are written; what is struck from them.
-/
import Derived.Test.YtckfdjfcikljaaaVT
import Derived.Laws.CopyRow
namespace Go.Proofs.Ytckfdjfcikljaaa
set_option linter.unusedVariables false
set_option linter.unusedSimpArgs false
open Go Go.RowKit Go.Maps

def NoneB (p : Vec → Bool) (l : List Vec) : Prop := ∀ d ∈ l, p d = false
theorem NoneB.snoc {p : Vec → Bool} {l : List Vec} {k : Nat} {x : Vec} (h : NoneB p (l.take k)) (hx : l[k]? = some x) (hq : p x = false) : NoneB p (l.take (k + 1)) := by
  have hk : k < l.length := (List.getElem?_eq_some_iff.1 hx).1
  intro d hd
  rw [List.take_succ_eq_append_getElem hk, (List.getElem?_eq_some_iff.1 hx).2] at hd
  rcases List.mem_append.1 hd with hd | hd
  · exact h d hd
  · simp at hd; subst hd; exact hq
theorem NoneB.filter {p : Vec → Bool} {l : List Vec} (h : NoneB p l) : (l.filter fun d => !p d) = l := List.filter_eq_self.2 (fun d hd => by simp [h d hd])

/-- What slices.IndexFunc leaves. -/
def IdxPost (w : World) (l : List Vec) (p : Vec → Bool) (e : Ending) (w' : World) : Prop :=
  Below w.heap.size w w' ∧ ∃ i : Int, e = .returned (.int .i64 i) ∧ ((i = -1 ∧ NoneB p l) ∨ ∃ k : Nat, i = (k : Int) ∧ k < l.length ∧ (∃ x, l[k]? = some x ∧ p x = true) ∧ NoneB p (l.take k))

theorem first_hit {p : Vec → Bool} : ∀ (l : List Vec), ¬ NoneB p l → ∃ (k : Nat) (x : Vec), l[k]? = some x ∧ p x = true ∧ NoneB p (l.take k)
  | [], h => absurd (by simp [NoneB]) h
  | d :: r, h => by
    cases hq : p d
    · obtain ⟨k, x, h1, h2, h3⟩ := first_hit r (fun hn => h (fun y hy => by rcases List.mem_cons.1 hy with rfl | hy; exact hq; exact hn y hy))
      refine ⟨k + 1, x, by simpa using h1, h2, fun y hy => ?_⟩
      rw [List.take_succ_cons] at hy
      rcases List.mem_cons.1 hy with rfl | hy
      · exact hq
      · exact h3 y hy
    · exact ⟨0, d, by simp, hq, by simp [NoneB]⟩

theorem hit_le {p : Vec → Bool} {l : List Vec} {k k' : Nat} {x : Vec} (hx : l[k]? = some x) (hq : p x = true) (hn : NoneB p (l.take k')) : k' ≤ k := by
  refine Nat.le_of_not_lt fun hlt => ?_
  have hm : x ∈ l.take k' := List.mem_of_getElem? (i := k) (by rw [List.getElem?_take, if_pos hlt]; exact hx)
  rw [hn x hm] at hq
  cases hq

theorem IdxPost.none {w : World} {l : List Vec} {p : Vec → Bool} {e : Ending} {w' : World} (h : IdxPost w l p e w') (hn : NoneB p l) : e = .returned (.int .i64 (-1)) ∧ Below w.heap.size w w' := by
  obtain ⟨hB, i, rfl, ⟨rfl, _⟩ | ⟨k, rfl, _, ⟨x, hx, hq⟩, _⟩⟩ := h
  · exact ⟨rfl, hB⟩
  · rw [hn x (List.mem_of_getElem? hx)] at hq; cases hq
theorem IdxPost.hit {w : World} {l : List Vec} {p : Vec → Bool} {e : Ending} {w' : World} (h : IdxPost w l p e w') {k : Nat} {x : Vec} (hx : l[k]? = some x) (hq : p x = true) (hn : NoneB p (l.take k)) : e = .returned (.int .i64 (k : Int)) ∧ Below w.heap.size w w' := by
  obtain ⟨hB, i, rfl, ⟨rfl, hno⟩ | ⟨k', rfl, _, ⟨x', hx', hq'⟩, hn'⟩⟩ := h
  · rw [hno x (List.mem_of_getElem? hx)] at hq; cases hq
  · obtain rfl : k' = k := Nat.le_antisymm (hit_le hx hq hn') (hit_le hx' hq' hn)
    exact ⟨rfl, hB⟩


/-- Block g holds N cells, the first of them those of the vectors c. -/
def RowV (W : World) (g N : Nat) (c : List Vec) : Prop := ∃ cur, W.heap[g]? = some (.cells cur 24 (0, 0)) ∧ cur.size = N ∧ c.length * 8 ≤ N ∧ cur.toList.take (c.length * 8) = flatV c
theorem RowV.lt {W : World} {g N : Nat} {c : List Vec} (h : RowV W g N c) : g < W.heap.size := by
  obtain ⟨cur, hg, _⟩ := h
  exact (Array.getElem?_eq_some_iff.1 hg).1
theorem RowV.keep {W W' : World} {g N : Nat} {c : List Vec} (h : RowV W g N c) (hb : Below W.heap.size W W') : RowV W' g N c := by
  have hl := h.lt
  obtain ⟨cur, hg, r⟩ := h
  exact ⟨cur, (hb.block g hl).trans hg, r⟩
theorem RowV.at {W : World} {g N : Nat} {c : List Vec} (h : RowV W g N c) {i : Nat} {x : Vec} (hx : c[i]? = some x) {k : Nat} (hk : k < 8) :
    W.cell? ⟨g, i * 8 + k, none⟩ = some (.int .u32 (x k : Int)) := by
  obtain ⟨cur, hg, hN, hle, ht⟩ := h
  have h0 := flatV_get c i x hx k hk
  have hi : i < c.length := (List.getElem?_eq_some_iff.1 hx).1
  rw [← ht, List.getElem?_take, if_pos (by omega)] at h0
  simp [World.cell?, hg]; simpa using h0
theorem RowV.at8 {W : World} {g N : Nat} {c : List Vec} (h : RowV W g N c) {i : Nat} {x : Vec} (hx : c[i]? = some x) :
    W.cell? ⟨g, i * 8, none⟩ = some (.int .u32 (x 0 : Int)) ∧ W.cell? ⟨g, i * 8 + 1, none⟩ = some (.int .u32 (x 1 : Int)) ∧ W.cell? ⟨g, i * 8 + 2, none⟩ = some (.int .u32 (x 2 : Int)) ∧ W.cell? ⟨g, i * 8 + 3, none⟩ = some (.int .u32 (x 3 : Int)) ∧ W.cell? ⟨g, i * 8 + 4, none⟩ = some (.int .u32 (x 4 : Int)) ∧ W.cell? ⟨g, i * 8 + 5, none⟩ = some (.int .u32 (x 5 : Int)) ∧ W.cell? ⟨g, i * 8 + 6, none⟩ = some (.int .u32 (x 6 : Int)) ∧ W.cell? ⟨g, i * 8 + 7, none⟩ = some (.int .u32 (x 7 : Int)) :=
  ⟨h.at hx (k := 0) (by omega), h.at hx (by omega), h.at hx (by omega), h.at hx (by omega), h.at hx (by omega), h.at hx (by omega), h.at hx (by omega), h.at hx (by omega)⟩
theorem RowV.free {W : World} {g N : Nat} {c : List Vec} (h : RowV W g N c) (j : Nat) : W.frozen? ⟨g, j, none⟩ = false := by
  obtain ⟨cur, hg, _⟩ := h
  simp [World.frozen?, hg]

theorem vc_list (x : Vec) : (vc x).toList = [.int .u32 (x 0 : Int), .int .u32 (x 1 : Int), .int .u32 (x 2 : Int), .int .u32 (x 3 : Int), .int .u32 (x 4 : Int), .int .u32 (x 5 : Int), .int .u32 (x 6 : Int), .int .u32 (x 7 : Int)] := rfl
theorem flatV_set : ∀ (c : List Vec) (i : Nat) (x : Vec), i < c.length → flatV (c.set i x) = ((((((((flatV c).set (i * 8) (.int .u32 (x 0 : Int))).set (i * 8 + 1) (.int .u32 (x 1 : Int))).set (i * 8 + 2) (.int .u32 (x 2 : Int))).set (i * 8 + 3) (.int .u32 (x 3 : Int))).set (i * 8 + 4) (.int .u32 (x 4 : Int))).set (i * 8 + 5) (.int .u32 (x 5 : Int))).set (i * 8 + 6) (.int .u32 (x 6 : Int))).set (i * 8 + 7) (.int .u32 (x 7 : Int))
  | [], i, _, h => by simp at h
  | d :: t, 0, x, _ => by
    rw [List.set_cons_zero, flatV_cons, flatV_cons, vc_list, vc_list]
    simp only [Nat.zero_mul, Nat.zero_add, List.cons_append, List.nil_append, List.set_cons_zero, List.set_cons_succ]
  | d :: t, i + 1, x, h => by
    have ih := flatV_set t i x (by simpa using h)
    rw [List.set_cons_succ, flatV_cons, ih, flatV_cons, vc_list, show (i + 1) * 8 = i * 8 + 1 + 1 + 1 + 1 + 1 + 1 + 1 + 1 by omega]
    simp only [List.cons_append, List.nil_append, List.set_cons_succ, show ∀ n, i * 8 + 1 + 1 + 1 + 1 + 1 + 1 + 1 + 1 + n = i * 8 + n + 1 + 1 + 1 + 1 + 1 + 1 + 1 + 1 from fun n => by omega]

theorem RowV.set {W : World} {g N : Nat} {c : List Vec} (h : RowV W g N c) {i : Nat} (hi : i < c.length) (x : Vec) :
    RowV ((((((((W.setCell ⟨g, i * 8, none⟩ (.int .u32 (x 0 : Int))).setCell ⟨g, i * 8 + 1, none⟩ (.int .u32 (x 1 : Int))).setCell ⟨g, i * 8 + 2, none⟩ (.int .u32 (x 2 : Int))).setCell ⟨g, i * 8 + 3, none⟩ (.int .u32 (x 3 : Int))).setCell ⟨g, i * 8 + 4, none⟩ (.int .u32 (x 4 : Int))).setCell ⟨g, i * 8 + 5, none⟩ (.int .u32 (x 5 : Int))).setCell ⟨g, i * 8 + 6, none⟩ (.int .u32 (x 6 : Int))).setCell ⟨g, i * 8 + 7, none⟩ (.int .u32 (x 7 : Int))) g N (c.set i x) := by
  obtain ⟨cur, hg, hN, hle, ht⟩ := h
  have k0 := heap_setCell_same _ _ (i * 8) _ _ (.int .u32 (x 0 : Int)) hg
  have k1 := heap_setCell_same _ _ (i * 8 + 1) _ _ (.int .u32 (x 1 : Int)) k0
  have k2 := heap_setCell_same _ _ (i * 8 + 2) _ _ (.int .u32 (x 2 : Int)) k1
  have k3 := heap_setCell_same _ _ (i * 8 + 3) _ _ (.int .u32 (x 3 : Int)) k2
  have k4 := heap_setCell_same _ _ (i * 8 + 4) _ _ (.int .u32 (x 4 : Int)) k3
  have k5 := heap_setCell_same _ _ (i * 8 + 5) _ _ (.int .u32 (x 5 : Int)) k4
  have k6 := heap_setCell_same _ _ (i * 8 + 6) _ _ (.int .u32 (x 6 : Int)) k5
  have k7 := heap_setCell_same _ _ (i * 8 + 7) _ _ (.int .u32 (x 7 : Int)) k6
  refine ⟨_, k7, by simp [hN], by simpa using hle, ?_⟩
  rw [flatV_set c i x hi, ← ht]
  simp only [Array.toList_setIfInBounds, List.length_set, List.take_set]

theorem flatV_take : ∀ (c : List Vec) (i : Nat), flatV (c.take i) = (flatV c).take (i * 8)
  | [], i => by simp [flatV]
  | d :: t, 0 => by simp [flatV]
  | d :: t, i + 1 => by
    rw [List.take_succ_cons, flatV_cons, flatV_cons, flatV_take t i, List.take_append, Array.length_toList, vc_size, List.take_of_length_le (l := (vc d).toList) (by rw [Array.length_toList, vc_size]; omega), show (i + 1) * 8 - 8 = i * 8 by omega]

theorem zeros_vecs (m : Nat) : (Builtin.zeroCells (Value.agg #[.int .u32 0, .int .u32 0, .int .u32 0, .int .u32 0, .int .u32 0, .int .u32 0, .int .u32 0, .int .u32 0]).cells m).toList.length = m * 8 ∧ ∀ v ∈ (Builtin.zeroCells (Value.agg #[.int .u32 0, .int .u32 0, .int .u32 0, .int .u32 0, .int .u32 0, .int .u32 0, .int .u32 0, .int .u32 0]).cells m).toList, v.oneCell' = true := by
  constructor
  · simp [Builtin.zeroCells, Value.cells]
  · intro v hv
    simp only [Builtin.zeroCells, Value.cells, Array.toList_map, List.mem_map] at hv
    obtain ⟨i, _, rfl⟩ := hv
    have hs : (#[.int .u32 0, .int .u32 0, .int .u32 0, .int .u32 0, .int .u32 0, .int .u32 0, .int .u32 0, .int .u32 0] : Array Value).size = 8 := rfl
    rw [hs]
    have : i % 8 < 8 := Nat.mod_lt _ (by omega)
    generalize i % 8 = j at this
    match j, this with
    | 0, _ => rfl
    | 1, _ => rfl
    | 2, _ => rfl
    | 3, _ => rfl
    | 4, _ => rfl
    | 5, _ => rfl
    | 6, _ => rfl
    | 7, _ => rfl

/-- The cells of a block cleared from one place on. -/
theorem run_clear_vecs {W : World} {g N : Nat} {c : List Vec} (h : RowV W g N c) {i m cap : Nat} (hm : i + m ≤ c.length) (h0 : 0 < m) :
    ∃ cs : Array Value, (∀ ty, (Builtin.clear_ #[49] ty #[.slice (some ⟨g, i * 8, none⟩) m cap]).run Try.prog W = .ok (.tuple #[]) (W.setRow g cs)) ∧ RowV (W.setRow g cs) g N (c.take i) := by
  obtain ⟨cur, hg, hN, hle, ht⟩ := h
  obtain ⟨z1, z2⟩ := zeros_vecs m
  obtain ⟨zs, hzs⟩ : ∃ zs, zs = (Builtin.zeroCells (Value.agg #[.int .u32 0, .int .u32 0, .int .u32 0, .int .u32 0, .int .u32 0, .int .u32 0, .int .u32 0, .int .u32 0]).cells m).toList := ⟨_, rfl⟩
  rw [← hzs] at z1 z2
  have hst := run_storeCells_at (P := Try.prog) g (i * 8) 24 zs 0 cur W hg (by omega) z2
  obtain ⟨cs, hcs⟩ : ∃ cs, cs = (cur.toList.take (i * 8 + 0) ++ zs ++ cur.toList.drop (i * 8 + 0 + zs.length)).toArray := ⟨_, rfl⟩
  rw [← hcs] at hst
  have hs : cs.size = N := by rw [hcs]; simp [z1]; omega
  have e1 : cs.toList.take (i * 8) = cur.toList.take (i * 8) := by
    rw [hcs]
    simp only [Nat.add_zero, List.append_assoc]
    rw [List.take_left' (by simp; omega)]
  refine ⟨cs, ?_, cs, setRow_heap W g cur cs 24 (0, 0) hg, hs, ?_, ?_⟩
  · intro ty
    obtain ⟨k, rfl⟩ : ∃ k, m = k + 1 := ⟨m - 1, by omega⟩
    simp [Builtin.clear_, run_underlying Try.underlying49, Try.zeroValue24, ← hzs, hst]
  · rw [List.length_take]; omega
  · rw [List.length_take, Nat.min_eq_left (by omega), flatV_take, ← ht, List.take_take, Nat.min_eq_left (by omega), e1]

/-- What slices.DeleteFunc leaves. -/
def DelPost (w : World) (B0 : Nat) (c : List Vec) (e : Ending) (w' : World) : Prop :=
  ∃ v, e = .returned v ∧ w'.ownsRow B0 24 8 v c.length (flatV c) ∧ Below B0 w w'
theorem RowV.owns {W : World} {g cap B0 : Nat} {c : List Vec} (h : RowV W g (cap * 8) c) (hg : B0 ≤ g) (hc : cap ≤ maxLen) : W.ownsRow B0 24 8 (.slice (some ⟨g, 0, none⟩) c.length cap) c.length (flatV c) := by
  obtain ⟨cur, h1, h2, h3, h4⟩ := h
  exact ⟨flatV_length c, .inr ⟨g, cap, cur, rfl, hg, h1, by omega, hc, h2, h4⟩⟩

/-- The row between two rounds: its first i are what is kept of l's first j; from j on it is as it was. -/
def DelInv (p : Vec → Bool) (l c : List Vec) (i j : Nat) : Prop :=
  c.length = l.length ∧ i < j ∧ j ≤ l.length ∧ c.take i = ((l.take j).filter fun d => !p d) ∧ c.drop j = l.drop j

theorem DelInv.start {p : Vec → Bool} {l : List Vec} {k : Nat} {x : Vec} (hx : l[k]? = some x) (hq : p x = true) (hn : NoneB p (l.take k)) : DelInv p l l k (k + 1) := by
  have hk : k < l.length := (List.getElem?_eq_some_iff.1 hx).1
  refine ⟨rfl, by omega, by omega, ?_, rfl⟩
  rw [List.take_succ_eq_append_getElem hk, (List.getElem?_eq_some_iff.1 hx).2, List.filter_append, hn.filter]
  simp [hq]
theorem DelInv.get {p : Vec → Bool} {l c : List Vec} {i j : Nat} (h : DelInv p l c i j) : c[j]? = l[j]? := by
  have := congrArg (fun z => z[0]?) h.2.2.2.2
  simpa using this
theorem DelInv.skip {p : Vec → Bool} {l c : List Vec} {i j : Nat} (h : DelInv p l c i j) {x : Vec} (hx : l[j]? = some x) (hq : p x = true) : DelInv p l c i (j + 1) := by
  obtain ⟨h1, h2, h3, h4, h5⟩ := h
  have hj : j < l.length := (List.getElem?_eq_some_iff.1 hx).1
  refine ⟨h1, by omega, by omega, ?_, ?_⟩
  · rw [List.take_succ_eq_append_getElem hj, (List.getElem?_eq_some_iff.1 hx).2, List.filter_append, ← h4]
    simp [hq]
  · have := congrArg (List.drop 1) h5
    simpa [List.drop_drop] using this
theorem DelInv.keep {p : Vec → Bool} {l c : List Vec} {i j : Nat} (h : DelInv p l c i j) {x : Vec} (hx : l[j]? = some x) (hq : p x = false) : DelInv p l (c.set i x) (i + 1) (j + 1) := by
  obtain ⟨h1, h2, h3, h4, h5⟩ := h
  have hj : j < l.length := (List.getElem?_eq_some_iff.1 hx).1
  refine ⟨by simpa using h1, by omega, by omega, ?_, ?_⟩
  · rw [List.take_succ_eq_append_getElem hj, (List.getElem?_eq_some_iff.1 hx).2, List.filter_append, ← h4]
    have hi : i < (c.set i x).length := by simp; omega
    rw [List.take_succ_eq_append_getElem hi]
    have e1 : (c.set i x).take i = c.take i := by rw [List.take_set_of_le (Nat.le_refl _)]
    rw [e1]
    simp [hq]
  · rw [List.drop_set_of_lt (by omega)]
    have := congrArg (List.drop 1) h5
    simpa [List.drop_drop] using this


end Go.Proofs.Ytckfdjfcikljaaa
