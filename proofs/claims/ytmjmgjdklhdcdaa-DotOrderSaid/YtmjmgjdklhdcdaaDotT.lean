/-
  What a set answers (has, and Both's closure over it); rows of dots that are written.
-/
import Derived.Test.YtmjmgjdklhdcdaaDotS
import Derived.Laws.CopyRow
namespace Go.Proofs.Ytmjmgjdklhdcdaa
set_option linter.unusedVariables false
set_option linter.unusedSimpArgs false
open Go Go.RowKit Go.Maps

/-- Is a dot on a row? -/
def inB (l : List Dot) (d : Dot) : Bool := decide (d ∈ l)

theorem zeroUnit (w : World) : (zeroValue 66).run Try.prog w = .ok (.agg #[]) w := Try.zeroValue66 w

set_option maxHeartbeats 1000000 in
theorem set_has (b : Nat) (l : List Dot) (d : Dot) (hd : d.ok) (w : World) (hS : SetAt w b l) :
    Calls Try.prog 38 #[.map (some b), .agg #[.int .u8 (d.1 : Int), .int .u32 (d.2 : Int)]] w fun e w' => e = .returned (.bool (inB l d)) ∧ Below w.heap.size w w' := by
  obtain ⟨n, D, hown, _, hK⟩ := hS
  have hkey := keyOf_dot hd
  unfold dv at hkey
  have hhas : Maps.has D (dk d) = inB l d := by
    unfold inB
    rw [Bool.eq_iff_iff, hK.2.2 d hd]; simp
  have HH := hid hhas
  have HKY := hid hkey
  have HO := hid hown
  clear hhas hkey hown hK
  go_enter Try.func38, Try.ntmps38
  go_wp2_with (first
    | (at_lookup; refine wpList_lookup_own_unit _ rfl _ _ 56 rfl 24 66 dotKeyed Try.underlying56 (zeroUnit _) b n D rfl (HO.out.alloc _) _ _ rfl HKY.out ?_)
    | go_in)
  go_ret
  exact ⟨by rw [← HH.out]; rfl, ((Below.refl _ _).alloc (Nat.le_refl _) _).alloc (by simp) _⟩

set_option maxHeartbeats 1000000 in
theorem both_not (b bx : Nat) (l : List Dot) (d : Dot) (hd : d.ok) (w : World) (hS : SetAt w b l) (hbx : w.cell? ⟨bx, 0, none⟩ = some (.map (some b))) :
    Calls Try.prog 37 #[.agg #[.int .u8 (d.1 : Int), .int .u32 (d.2 : Int)], .pointer (some ⟨bx, 0, none⟩)] w fun e w' => e = .returned (.bool (!inB l d)) ∧ Below w.heap.size w w' := by
  have hlt : bx < w.heap.size := World.block_lt_of_cell? w _ hbx
  have HS := hid hS
  clear hS
  go_enter Try.func37, Try.ntmps37
  go_wp2_with (go_at_call 38; (with_reducible refine (set_has b l d hd _ (HS.out.keep ((Below.refl _ _).alloc (Nat.le_refl _) _) HS.out.lt)).mono ?_); rintro e w' ⟨rfl, hB⟩)
  go_ret
  exact ⟨rfl, ((Below.refl _ _).alloc (Nat.le_refl _) _).trans (hB.mono (by simp))⟩

/-! ### a row that is written -/
/-- Block g holds N cells, the first of them those of the dots c. -/
def RowAt (W : World) (g N : Nat) (c : List Dot) : Prop := ∃ cur, W.heap[g]? = some (.cells cur 24 (0, 0)) ∧ cur.size = N ∧ c.length * 2 ≤ N ∧ cur.toList.take (c.length * 2) = flat c

theorem RowAt.lt {W : World} {g N : Nat} {c : List Dot} (h : RowAt W g N c) : g < W.heap.size := by
  obtain ⟨cur, hg, _⟩ := h
  exact (Array.getElem?_eq_some_iff.1 hg).1
theorem RowAt.keep {W W' : World} {g N : Nat} {c : List Dot} (h : RowAt W g N c) (hb : Below W.heap.size W W') : RowAt W' g N c := by
  have hl := h.lt
  obtain ⟨cur, hg, r⟩ := h
  exact ⟨cur, (hb.block g hl).trans hg, r⟩
theorem RowAt.at {W : World} {g N : Nat} {c : List Dot} (h : RowAt W g N c) {i : Nat} {x : Dot} (hx : c[i]? = some x) :
    W.cell? ⟨g, i * 2, none⟩ = some (.int .u8 (x.1 : Int)) ∧ W.cell? ⟨g, i * 2 + 1, none⟩ = some (.int .u32 (x.2 : Int)) := by
  obtain ⟨cur, hg, hN, hle, ht⟩ := h
  obtain ⟨h0, h1⟩ := flat_get c i x hx
  have hi : i < c.length := (List.getElem?_eq_some_iff.1 hx).1
  rw [← ht, List.getElem?_take, if_pos (by omega)] at h0 h1
  constructor
  · simp [World.cell?, hg]; simpa using h0
  · simp [World.cell?, hg]; simpa using h1
theorem RowAt.free {W : World} {g N : Nat} {c : List Dot} (h : RowAt W g N c) (j : Nat) : W.frozen? ⟨g, j, none⟩ = false := by
  obtain ⟨cur, hg, _⟩ := h
  simp [World.frozen?, hg]

theorem flat_set : ∀ (c : List Dot) (i : Nat) (r n : Nat), i < c.length → flat (c.set i (r, n)) = ((flat c).set (i * 2) (.int .u8 (r : Int))).set (i * 2 + 1) (.int .u32 (n : Int))
  | [], i, _, _, h => by simp at h
  | d :: t, 0, r, n, _ => by simp [flat_cons]
  | d :: t, i + 1, r, n, h => by
    have ih := flat_set t i r n (by simpa using h)
    rw [List.set_cons_succ, flat_cons, ih, flat_cons, show (i + 1) * 2 = i * 2 + 1 + 1 by omega]
    simp only [List.set_cons_succ]

theorem RowAt.set {W : World} {g N : Nat} {c : List Dot} (h : RowAt W g N c) {i : Nat} (hi : i < c.length) (r n : Nat) :
    RowAt ((W.setCell ⟨g, i * 2, none⟩ (.int .u8 (r : Int))).setCell ⟨g, i * 2 + 1, none⟩ (.int .u32 (n : Int))) g N (c.set i (r, n)) := by
  obtain ⟨cur, hg, hN, hle, ht⟩ := h
  refine ⟨(cur.setIfInBounds (i * 2) (.int .u8 (r : Int))).setIfInBounds (i * 2 + 1) (.int .u32 (n : Int)), heap_setCell_same _ _ _ _ _ _ (heap_setCell_same _ _ _ _ _ _ hg), by simp [hN], by simpa using hle, ?_⟩
  rw [flat_set c i r n hi, ← ht]
  simp only [Array.toList_setIfInBounds, List.length_set]
  rw [List.take_set, List.take_set]

theorem flat_take : ∀ (c : List Dot) (i : Nat), flat (c.take i) = (flat c).take (i * 2)
  | [], i => by simp [flat]
  | d :: t, 0 => by simp [flat]
  | d :: t, i + 1 => by
    rw [List.take_succ_cons, flat_cons, flat_cons, flat_take t i, show (i + 1) * 2 = i * 2 + 1 + 1 by omega]
    simp only [List.take_succ_cons]

theorem zeros_dots (m : Nat) : (Builtin.zeroCells (Value.agg #[.int .u8 0, .int .u32 0]).cells m).toList.length = m * 2 ∧ ∀ v ∈ (Builtin.zeroCells (Value.agg #[.int .u8 0, .int .u32 0]).cells m).toList, v.oneCell' = true := by
  constructor
  · simp [Builtin.zeroCells, Value.cells]
  · intro v hv
    simp only [Builtin.zeroCells, Value.cells, Array.toList_map, List.mem_map] at hv
    obtain ⟨i, _, rfl⟩ := hv
    have hs : (#[Value.int .u8 0, Value.int .u32 0] : Array Value).size = 2 := rfl
    rw [hs]
    rcases Nat.mod_two_eq_zero_or_one i with h | h <;> rw [h] <;> rfl

/-- The cells of a block cleared from one place on. -/
theorem run_clear_dots {W : World} {g N : Nat} {c : List Dot} (h : RowAt W g N c) {i m cap : Nat} (hm : i + m ≤ c.length) (h0 : 0 < m) :
    ∃ cs : Array Value, (∀ ty, (Builtin.clear_ #[39] ty #[.slice (some ⟨g, i * 2, none⟩) m cap]).run Try.prog W = .ok (.tuple #[]) (W.setRow g cs)) ∧ RowAt (W.setRow g cs) g N (c.take i) := by
  obtain ⟨cur, hg, hN, hle, ht⟩ := h
  obtain ⟨z1, z2⟩ := zeros_dots m
  obtain ⟨zs, hzs⟩ : ∃ zs, zs = (Builtin.zeroCells (Value.agg #[.int .u8 0, .int .u32 0]).cells m).toList := ⟨_, rfl⟩
  rw [← hzs] at z1 z2
  have hst := run_storeCells_at (P := Try.prog) g (i * 2) 24 zs 0 cur W hg (by omega) z2
  obtain ⟨cs, hcs⟩ : ∃ cs, cs = (cur.toList.take (i * 2 + 0) ++ zs ++ cur.toList.drop (i * 2 + 0 + zs.length)).toArray := ⟨_, rfl⟩
  rw [← hcs] at hst
  have hs : cs.size = N := by rw [hcs]; simp [z1]; omega
  have e1 : cs.toList.take (i * 2) = cur.toList.take (i * 2) := by
    rw [hcs]
    simp only [Nat.add_zero, List.append_assoc]
    rw [List.take_left' (by simp; omega)]
  refine ⟨cs, ?_, cs, setRow_heap W g cur cs 24 (0, 0) hg, hs, ?_, ?_⟩
  · intro ty
    obtain ⟨k, rfl⟩ : ∃ k, m = k + 1 := ⟨m - 1, by omega⟩
    simp [Builtin.clear_, run_underlying Try.underlying39, Try.zeroValue24, ← hzs, hst]
  · rw [List.length_take]; omega
  · rw [List.length_take, Nat.min_eq_left (by omega), flat_take, ← ht, List.take_take, Nat.min_eq_left (by omega), e1]

end Go.Proofs.Ytmjmgjdklhdcdaa
