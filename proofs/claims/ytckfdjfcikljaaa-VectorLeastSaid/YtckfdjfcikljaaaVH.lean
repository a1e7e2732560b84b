/-
  The laws' head: what its calls answer.
-/
import Derived.Test.YtckfdjfcikljaaaVR
import Derived.Test.YtckfdjfcikljaaaVN
import Derived.Test.YtckfdjfcikljaaaVO
import Derived.Deep.RegionHeld3
import Derived.Deep.DrawnRows
namespace Go.Proofs.Ytckfdjfcikljaaa
set_option linter.unusedVariables false
set_option linter.unusedSimpArgs false
open Go Go.RowKit Go.Maps

/-- A vector by its first three numbers. -/
def vv (a b c : Nat) : Vec := fun i => match i with
  | 0 => a
  | 1 => b
  | 2 => c
  | _ => 0
theorem ok_vv {a b c : Nat} (ha : a < 4294967296) (hb : b < 4294967296) (hc : c < 4294967296) : okV (vv a b c) := by
  refine ⟨fun i => ?_, fun i hi => ?_⟩
  · match i with
    | 0 => exact ha
    | 1 => exact hb
    | 2 => exact hc
    | _ + 3 => show (0 : Nat) < 4294967296; omega
  · match i, hi with
    | _ + 3, _ => rfl
theorem made_v (a b c : Int) (w : World) : Calls Try.prog 35 #[.int .u32 a, .int .u32 b, .int .u32 c] w
      fun e w' => e = .returned (.agg #[.int .u32 a, .int .u32 b, .int .u32 c, .int .u32 0, .int .u32 0, .int .u32 0, .int .u32 0, .int .u32 0]) ∧ w' = w.alloc (.cells #[.int .u32 a, .int .u32 b, .int .u32 c, .int .u32 0, .int .u32 0, .int .u32 0, .int .u32 0, .int .u32 0] 24) := by
  go_enter Try.func35, Try.ntmps35
  go_wp2
  exact bodyPost_ret (results_cell_row rfl _ _ _ _ _ _ _ rfl (heap_alloc_last' _ _) Try.underlying24 rfl (by kernel_rfl)) rfl ⟨rfl, rfl⟩
theorem made_vB (a b c : Int) (w : World) : Calls Try.prog 35 #[.int .u32 a, .int .u32 b, .int .u32 c] w
      fun e w' => e = .returned (.agg #[.int .u32 a, .int .u32 b, .int .u32 c, .int .u32 0, .int .u32 0, .int .u32 0, .int .u32 0, .int .u32 0]) ∧ Below w.heap.size w w' :=
  Calls.mono (made_v a b c w) fun _ _ ⟨he, hw⟩ => ⟨he, hw ▸ below_al _ _⟩

abbrev L3 (a b c : Int) : Array Value := #[.int .u32 a, .int .u32 b, .int .u32 c, .int .u32 0, .int .u32 0, .int .u32 0, .int .u32 0, .int .u32 0]
theorem okc (a b c : Nat) (h : (decide (a < 4294967296) && decide (b < 4294967296) && decide (c < 4294967296)) = true) : okV (vv a b c) := by
  simp at h
  exact ok_vv h.1.1 h.1.2 h.2

theorem h_next1 (W : World) : Calls Try.prog 8 #[.agg #[.int .u32 1, .int .u32 2, .int .u32 0, .int .u32 0, .int .u32 0, .int .u32 0, .int .u32 0, .int .u32 0], .int .u8 1] W fun e w' => e = .returned (.tuple #[.agg #[.int .u8 1, .int .u32 3], .int .i64 0]) ∧ Below W.heap.size W w' := vec_Next (vv 1 2 0) 1 (okc 1 2 0 rfl) (by decide) W
theorem h_next8 (W : World) : Calls Try.prog 8 #[.agg #[.int .u32 1, .int .u32 2, .int .u32 0, .int .u32 0, .int .u32 0, .int .u32 0, .int .u32 0, .int .u32 0], .int .u8 8] W fun e w' => e = .returned (.tuple #[.agg #[.int .u8 0, .int .u32 0], .int .i64 2]) ∧ Below W.heap.size W w' := vec_Next (vv 1 2 0) 8 (okc 1 2 0 rfl) (by decide) W
theorem h_put13 (W : World) : Calls Try.prog 10 #[.agg #[.int .u32 1, .int .u32 2, .int .u32 0, .int .u32 0, .int .u32 0, .int .u32 0, .int .u32 0, .int .u32 0], .agg #[.int .u8 1, .int .u32 3]] W fun e w' => e = .returned (.tuple #[.agg #[.int .u32 1, .int .u32 3, .int .u32 0, .int .u32 0, .int .u32 0, .int .u32 0, .int .u32 0, .int .u32 0], .int .i64 0]) ∧ Below W.heap.size W w' := vec_Put (vv 1 2 0) (1, 3) (okc 1 2 0 rfl) ⟨by decide, by decide⟩ W
theorem h_put14 (W : World) : Calls Try.prog 10 #[.agg #[.int .u32 1, .int .u32 2, .int .u32 0, .int .u32 0, .int .u32 0, .int .u32 0, .int .u32 0, .int .u32 0], .agg #[.int .u8 1, .int .u32 4]] W fun e w' => e = .returned (.tuple #[.agg #[.int .u32 0, .int .u32 0, .int .u32 0, .int .u32 0, .int .u32 0, .int .u32 0, .int .u32 0, .int .u32 0], .int .i64 9]) ∧ Below W.heap.size W w' := vec_Put (vv 1 2 0) (1, 4) (okc 1 2 0 rfl) ⟨by decide, by decide⟩ W
def rowsL : List Dot := [(0, 2), (2, 1)]
theorem okL : ∀ d ∈ rowsL, d.ok := by
  intro d hd
  simp [rowsL] at hd
  rcases hd with rfl | rfl <;> exact ⟨by decide, by decide⟩
theorem h_lacks (W : World) : Calls Try.prog 19 #[.agg #[.int .u32 1, .int .u32 2, .int .u32 0, .int .u32 0, .int .u32 0, .int .u32 0, .int .u32 0, .int .u32 0], .agg #[.int .u32 2, .int .u32 2, .int .u32 1, .int .u32 0, .int .u32 0, .int .u32 0, .int .u32 0, .int .u32 0]] W fun e w' => ∃ v, e = .returned (.tuple #[v, .int .i64 0]) ∧ DotsV w' v rowsL ∧ Below W.heap.size W w' :=
  Calls.mono (vec_Lacks (vv 1 2 0) (vv 2 2 1) (okc 1 2 0 rfl) (okc 2 2 1 rfl) W) fun e w' hp => by
    obtain ⟨v, he, hr, hB⟩ := hp
    have h1 : lackL (vv 1 2 0) (vv 2 2 1) = rowsL := by decide
    have h2 : lackE (vv 1 2 0) (vv 2 2 1) = 0 := by decide
    rw [h1] at hr
    rw [h2] at he
    exact ⟨v, he, owns_dotsV hr okL, hB⟩
def rowsA : List Vec := [vv 1 2 0, vv 0 3 1]
theorem okA : ∀ d ∈ rowsA, okV d := by
  intro d hd
  simp [rowsA] at hd
  rcases hd with rfl | rfl
  · exact okc _ _ _ rfl
  · exact okc _ _ _ rfl
def rowsB : List Vec := [vv 1 0 0, vv 0 1 0, vv 1 0 0, vv 0 0 0]
theorem okB : ∀ d ∈ rowsB, okV d := by
  intro d hd
  simp [rowsB] at hd
  rcases hd with rfl | rfl | rfl | rfl
  · exact okc _ _ _ rfl
  · exact okc _ _ _ rfl
  · exact okc _ _ _ rfl
  · exact okc _ _ _ rfl
def rowsC : List Vec := [vv 1 0 0, vv 0 1 0]
theorem okC : ∀ d ∈ rowsC, okV d := by
  intro d hd
  simp [rowsC] at hd
  rcases hd with rfl | rfl
  · exact okc _ _ _ rfl
  · exact okc _ _ _ rfl
theorem h_merge (v : Value) (W : World) (h : VecsV W v rowsA) : Calls Try.prog 24 #[v] W fun e w' => e = .returned (.agg #[.int .u32 1, .int .u32 3, .int .u32 1, .int .u32 0, .int .u32 0, .int .u32 0, .int .u32 0, .int .u32 0]) ∧ Below W.heap.size W w' := vec_Merge v rowsA W h
theorem h_meet (v : Value) (W : World) (h : VecsV W v rowsA) : Calls Try.prog 26 #[v] W fun e w' => e = .returned (.agg #[.int .u32 0, .int .u32 2, .int .u32 0, .int .u32 0, .int .u32 0, .int .u32 0, .int .u32 0, .int .u32 0]) ∧ Below W.heap.size W w' := vec_Meet v rowsA W h
theorem h_above (W : World) : Calls Try.prog 14 #[.agg #[.int .u32 1, .int .u32 2, .int .u32 0, .int .u32 0, .int .u32 0, .int .u32 0, .int .u32 0, .int .u32 0], .agg #[.int .u32 1, .int .u32 1, .int .u32 0, .int .u32 0, .int .u32 0, .int .u32 0, .int .u32 0, .int .u32 0]] W fun e w' => e = .returned (.bool true) ∧ Below W.heap.size W w' := vec_Above (vv 1 2 0) (vv 1 1 0) W
theorem h_beside (W : World) : Calls Try.prog 16 #[.agg #[.int .u32 1, .int .u32 2, .int .u32 0, .int .u32 0, .int .u32 0, .int .u32 0, .int .u32 0, .int .u32 0], .agg #[.int .u32 0, .int .u32 3, .int .u32 0, .int .u32 0, .int .u32 0, .int .u32 0, .int .u32 0, .int .u32 0]] W fun e w' => e = .returned (.bool true) ∧ Below W.heap.size W w' := vec_Beside (vv 1 2 0) (vv 0 3 0) W
theorem h_cov1 (W : World) : Calls Try.prog 12 #[.agg #[.int .u32 1, .int .u32 2, .int .u32 0, .int .u32 0, .int .u32 0, .int .u32 0, .int .u32 0, .int .u32 0], .agg #[.int .u8 1, .int .u32 2]] W fun e w' => e = .returned (.bool true) ∧ Below W.heap.size W w' := vec_Covers (vv 1 2 0) (1, 2) W
theorem h_cov2 (W : World) : Calls Try.prog 12 #[.agg #[.int .u32 1, .int .u32 2, .int .u32 0, .int .u32 0, .int .u32 0, .int .u32 0, .int .u32 0, .int .u32 0], .agg #[.int .u8 2, .int .u32 1]] W fun e w' => e = .returned (.bool false) ∧ Below W.heap.size W w' := vec_Covers (vv 1 2 0) (2, 1) W
theorem h_count (W : World) : Calls Try.prog 17 #[.agg #[.int .u32 1, .int .u32 2, .int .u32 0, .int .u32 0, .int .u32 0, .int .u32 0, .int .u32 0, .int .u32 0]] W fun e w' => e = .returned (.int .u64 3) ∧ Below W.heap.size W w' := vec_Count (vv 1 2 0) (okc 1 2 0 rfl) W
theorem h_tops (v : Value) (W : World) (h : VecsV W v rowsB) : Calls Try.prog 29 #[v] W fun e w' => ∃ u, e = .returned u ∧ VecsV w' u rowsC ∧ Below W.heap.size W w' :=
  Calls.mono (vec_Tops v rowsB W h (by decide)) fun e w' hp => by
    obtain ⟨u, he, hv, hB⟩ := hp
    have h1 : topsAt rowsB rowsB.length = rowsC := rfl
    rw [h1] at hv
    exact ⟨u, he, hv, hB⟩
theorem h_sameD (v v' : Value) (W : World) (h : DotsV W v rowsL) (h' : DotsV W v' rowsL) : Calls Try.prog 22 #[v, v'] W fun e w' => e = .returned (.bool true) ∧ Below W.heap.size W w' := by
  have k := ref_SameV v v' rowsL rowsL W h h'
  rw [show sameB rowsL rowsL = true by simp [sameB]] at k
  exact k
theorem h_sameV (v v' : Value) (W : World) (h : VecsV W v rowsC) (h' : VecsV W v' rowsC) : Calls Try.prog 28 #[v, v'] W fun e w' => e = .returned (.bool true) ∧ Below W.heap.size W w' := ref_SameT v v' rowsC W h h'
theorem h_eq131 (W : World) : (binOp .eql 24 (.agg #[.int .u32 1, .int .u32 3, .int .u32 1, .int .u32 0, .int .u32 0, .int .u32 0, .int .u32 0, .int .u32 0]) (.agg #[.int .u32 1, .int .u32 3, .int .u32 1, .int .u32 0, .int .u32 0, .int .u32 0, .int .u32 0, .int .u32 0])).run Try.prog W = .ok (.bool true) W := run_eqlV (vv 1 3 1) (vv 1 3 1) W
theorem h_eq020 (W : World) : (binOp .eql 24 (.agg #[.int .u32 0, .int .u32 2, .int .u32 0, .int .u32 0, .int .u32 0, .int .u32 0, .int .u32 0, .int .u32 0]) (.agg #[.int .u32 0, .int .u32 2, .int .u32 0, .int .u32 0, .int .u32 0, .int .u32 0, .int .u32 0, .int .u32 0])).run Try.prog W = .ok (.bool true) W := run_eqlV (vv 0 2 0) (vv 0 2 0) W
theorem h_eq130 (W : World) : (binOp .eql 24 (.agg #[.int .u32 1, .int .u32 3, .int .u32 0, .int .u32 0, .int .u32 0, .int .u32 0, .int .u32 0, .int .u32 0]) (.agg #[.int .u32 1, .int .u32 3, .int .u32 0, .int .u32 0, .int .u32 0, .int .u32 0, .int .u32 0, .int .u32 0])).run Try.prog W = .ok (.bool true) W := run_eqlV (vv 1 3 0) (vv 1 3 0) W
theorem h_eqD (W : World) : (binOp .eql 26 (.agg #[.int .u8 1, .int .u32 3]) (.agg #[.int .u8 1, .int .u32 3])).run Try.prog W = .ok (.bool true) W := run_eql 1 3 1 3 W

theorem keep_first {W w' : World} {a b : Obj} (hB : Below ((W.alloc a).alloc b).heap.size ((W.alloc a).alloc b) w') : w'.heap[W.heap.size]? = some a := heap_keep (heap_al (heap_alloc_last' _ _) _) hB
theorem keep_old2 {W w' : World} {a b o : Obj} {g : Nat} (h : W.heap[g]? = some o) (hB : Below ((W.alloc a).alloc b).heap.size ((W.alloc a).alloc b) w') : w'.heap[g]? = some o := heap_keep (heap_al (heap_al h _) _) hB
theorem keep_old3 {W w' : World} {a b c o : Obj} {g : Nat} (h : W.heap[g]? = some o) (hB : Below (((W.alloc a).alloc b).alloc c).heap.size (((W.alloc a).alloc b).alloc c) w') : w'.heap[g]? = some o := heap_keep (heap_al (heap_al (heap_al h _) _) _) hB

/-- What the head's last statement holds on to. -/
structure HeadS (b1 b2 : Nat) (w5 : World) (v : Value) (W : World) : Prop where
  v : DotsV W v rowsL
  below : Below w5.heap.size w5 W
  x : W.heap[b1]? = some (.cells #[.int .u8 1, .int .u32 3] 26 (0, 0))
  y : W.heap[b2]? = some (.cells (vc (vv 1 3 0)) 24 (0, 0))
theorem HeadS.keep {b1 b2 : Nat} {w5 : World} {v : Value} {W W' : World} (h : HeadS b1 b2 w5 v W) (hB : Below W.heap.size W W') : HeadS b1 b2 w5 v W' := ⟨h.v.keep hB, h.below.trans (hB.mono h.below.size), heap_keep h.x hB, heap_keep h.y hB⟩
theorem head_all {b1 b2 : Nat} {w5 : World} {v : Value} {W : World} (h : HeadS b1 b2 w5 v W) : HeadS b1 b2 w5 v W ∧ W.cell? ⟨b1, 0, none⟩ = some (.int .u8 1) ∧ W.cell? ⟨b1, 1, none⟩ = some (.int .u32 3) ∧ W.cell? ⟨b2, 0, none⟩ = some (.int .u32 1) ∧ W.cell? ⟨b2, 1, none⟩ = some (.int .u32 3) ∧ W.cell? ⟨b2, 2, none⟩ = some (.int .u32 0) ∧ W.cell? ⟨b2, 3, none⟩ = some (.int .u32 0) ∧ W.cell? ⟨b2, 4, none⟩ = some (.int .u32 0) ∧ W.cell? ⟨b2, 5, none⟩ = some (.int .u32 0) ∧ W.cell? ⟨b2, 6, none⟩ = some (.int .u32 0) ∧ W.cell? ⟨b2, 7, none⟩ = some (.int .u32 0) :=
  ⟨h, (cells2 h.x).1, (cells2 h.x).2, cellV h.y (k := 0) (by omega), cellV h.y (k := 1) (by omega), cellV h.y (k := 2) (by omega), cellV h.y (k := 3) (by omega), cellV h.y (k := 4) (by omega), cellV h.y (k := 5) (by omega), cellV h.y (k := 6) (by omega), cellV h.y (k := 7) (by omega)⟩
theorem head_step {b1 b2 : Nat} {w5 : World} {v : Value} {W0 W : World} {R : Prop} (hB : Below W0.heap.size W0 W) (h : HeadS b1 b2 w5 v W0 ∧ R) : HeadS b1 b2 w5 v W ∧ W.cell? ⟨b1, 0, none⟩ = some (.int .u8 1) ∧ W.cell? ⟨b1, 1, none⟩ = some (.int .u32 3) ∧ W.cell? ⟨b2, 0, none⟩ = some (.int .u32 1) ∧ W.cell? ⟨b2, 1, none⟩ = some (.int .u32 3) ∧ W.cell? ⟨b2, 2, none⟩ = some (.int .u32 0) ∧ W.cell? ⟨b2, 3, none⟩ = some (.int .u32 0) ∧ W.cell? ⟨b2, 4, none⟩ = some (.int .u32 0) ∧ W.cell? ⟨b2, 5, none⟩ = some (.int .u32 0) ∧ W.cell? ⟨b2, 6, none⟩ = some (.int .u32 0) ∧ W.cell? ⟨b2, 7, none⟩ = some (.int .u32 0) := head_all (h.1.keep hB)

end Go.Proofs.Ytckfdjfcikljaaa
