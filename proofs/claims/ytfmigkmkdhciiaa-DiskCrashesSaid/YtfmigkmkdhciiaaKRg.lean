/-
  The document's disk that has nothing: its acts return.
-/
import Derived.Test.YtfmigkmkdhciiaaKRf
import Derived.Deep.WholeRow
namespace Go.Proofs.Ytfmigkmkdhciiaa.K
set_option linter.unusedVariables false
set_option linter.unusedSimpArgs false
set_option maxRecDepth 100000
open Go Go.RowKit Go.Maps Go.MapKept Go.ChangeMaps

theorem results_row_tmp {P : Program} {fn : Func} {u p : Tmp} {ty : TypeId} (h : fn.results = #[.cell p ty, .tmp u]) (tmps : Array Value) (w : World) (g : Nat) (t : TypeId) (cs : Array Value) (fr : Nat × Nat) (d : TypeDesc) (v : Value)
    (hv : tmps.getD u undef = v) (hp : tmps.getD p undef = .pointer (some ⟨g, 0, none⟩)) (hg : w.heap[g]? = some (.cells cs t fr))
    (hu : P.underlying ty = some d) (hd : (match d with | .struct _ | .array _ _ => true | _ => false) = true) (hi : (P.info? ty).map (·.size) = some cs.size) :
    (results fn tmps).run P w = .ok (.tuple #[.agg cs, v]) w := by
  have hp' : tmps[p]?.getD undef = .pointer (some ⟨g, 0, none⟩) := by simpa using hp
  have hv' : tmps[u]?.getD undef = v := by simpa using hv
  simp [results, h, hp', hv', asAddr, run_loadVar_row w g t ty cs fr d hg hu hd hi]

/-- The two boxes: the disk, and the result. -/
structure Two (w : World) (W : World) : Prop where
  h0 : W.heap[w.heap.size]? = some (.cells #[.int .i64 0, .slice none 0 0, .slice none 0 0, .bool false, .int .i64 0, .bool false] 32 (0, 0))
  h1 : W.heap[w.heap.size + 1]? = some (.cells #[.int .i64 0, .slice none 0 0, .slice none 0 0, .bool false, .int .i64 0, .bool false] 32 (0, 0))
  below : Below w.heap.size w W
theorem two_made (w : World) : Two w ((w.alloc (.cells #[.int .i64 0, .slice none 0 0, .slice none 0 0, .bool false, .int .i64 0, .bool false] 32)).alloc (.cells #[.int .i64 0, .slice none 0 0, .slice none 0 0, .bool false, .int .i64 0, .bool false] 32)) := by
  have e1 : (w.alloc (.cells #[.int .i64 0, .slice none 0 0, .slice none 0 0, .bool false, .int .i64 0, .bool false] 32)).heap.size = w.heap.size + 1 := by simp
  refine ⟨(Below.heap_alloc _ _ _ (by omega)).trans (heap_last w _), ?_, ((Below.refl _ w).alloc (Nat.le_refl _) _).alloc (by omega) _⟩
  have := heap_last (w.alloc (.cells #[.int .i64 0, .slice none 0 0, .slice none 0 0, .bool false, .int .i64 0, .bool false] 32)) (.cells #[.int .i64 0, .slice none 0 0, .slice none 0 0, .bool false, .int .i64 0, .bool false] 32)
  rwa [e1] at this
theorem Two.next {w W W' : World} (h : Two w W) (hb : Below W.heap.size W W') : Two w W' :=
  ⟨(hb.block _ (Array.getElem?_eq_some_iff.1 h.h0).1).trans h.h0, (hb.block _ (Array.getElem?_eq_some_iff.1 h.h1).1).trans h.h1, h.below.trans (hb.mono h.below.size)⟩
theorem Two.cells {w W : World} (h : Two w W) : ∀ i, W.cell? ⟨w.heap.size, i, none⟩ = (#[.int .i64 0, .slice none 0 0, .slice none 0 0, .bool false, .int .i64 0, .bool false] : Array Value)[i]? ∧ W.cell? ⟨w.heap.size + 1, i, none⟩ = (#[.int .i64 0, .slice none 0 0, .slice none 0 0, .bool false, .int .i64 0, .bool false] : Array Value)[i]? ∧ W.frozen? ⟨w.heap.size, i, none⟩ = false ∧ W.frozen? ⟨w.heap.size + 1, i, none⟩ = false :=
  fun i => ⟨cell_row h.h0 i, cell_row h.h1 i, by simp [World.frozen?, h.h0], by simp [World.frozen?, h.h1]⟩

theorem Two.six {w V : World} (h1 : V.heap[w.heap.size + 1]? = some (.cells #[.int .i64 0, .slice none 0 0, .slice none 0 0, .bool false, .int .i64 0, .bool false] 32 (0, 0))) (hb : Below w.heap.size w V) (v0 v1 v2 v3 v4 v5 : Value) :
    ((((((V.setCell ⟨w.heap.size + 1, 0, none⟩ v0).setCell ⟨w.heap.size + 1, 1, none⟩ v1).setCell ⟨w.heap.size + 1, 2, none⟩ v2).setCell ⟨w.heap.size + 1, 3, none⟩ v3).setCell ⟨w.heap.size + 1, 4, none⟩ v4).setCell ⟨w.heap.size + 1, 5, none⟩ v5).heap[w.heap.size + 1]? = some (.cells #[v0, v1, v2, v3, v4, v5] 32 (0, 0)) ∧
    Below w.heap.size w ((((((V.setCell ⟨w.heap.size + 1, 0, none⟩ v0).setCell ⟨w.heap.size + 1, 1, none⟩ v1).setCell ⟨w.heap.size + 1, 2, none⟩ v2).setCell ⟨w.heap.size + 1, 3, none⟩ v3).setCell ⟨w.heap.size + 1, 4, none⟩ v4).setCell ⟨w.heap.size + 1, 5, none⟩ v5) := by
  refine ⟨?_, ?_⟩
  · rw [set_row (set_row (set_row (set_row (set_row (set_row h1 _) _) _) _) _) _]
    rfl
  · exact (((((hb.setCell (Nat.le_succ _) _).setCell (Nat.le_succ _) _).setCell (Nat.le_succ _) _).setCell (Nat.le_succ _) _).setCell (Nat.le_succ _) _).setCell (Nat.le_succ _) _
theorem ref_Remove (w : World) (n : Str) (hn : n.length ≤ 1099511627776) : Calls Try.prog 23 #[.agg #[.int .i64 0, .slice none 0 0, .slice none 0 0, .bool false, .int .i64 0, .bool false], strV n] w (RefRet w) := by
  have hm := fun w => ref_name w n hn
  have h2 := two_made w
  cases hmay : may n with
  | false =>
    rw [hmay] at hm
    go_enter Try.func23, Try.ntmps23
    go_wp2_with (go_at_call 44; refine (hm _).mono ?_; rintro e W ⟨rfl, rfl⟩)
    refine bodyPost_ret (results_row_tmp rfl _ _ (w.heap.size + 1) _ _ _ _ _ rfl rfl h2.h1 Try.underlying32 rfl (by kernel_rfl)) rfl ?_
    exact ⟨⟨_, _, _, _, _, _, _, _, _, _, _, rfl⟩, h2.below⟩
  | true =>
    rw [hmay] at hm
    go_enter Try.func23, Try.ntmps23
    go_wp2_with (first
      | (go_at_call 44; refine (hm _).mono ?_; rintro e W ⟨rfl, rfl⟩)
      | (go_at_call 47; refine (ref_Seen _).mono ?_; rintro e W ⟨rfl, hb⟩; have h2 := h2.next hb; have a0 := (h2.cells 0).1; have b0 := (h2.cells 0).2.1; have f0 := (h2.cells 0).2.2.1; have g0 := (h2.cells 0).2.2.2; have a1 := (h2.cells 1).1; have b1 := (h2.cells 1).2.1; have f1 := (h2.cells 1).2.2.1; have g1 := (h2.cells 1).2.2.2; have a2 := (h2.cells 2).1; have b2 := (h2.cells 2).2.1; have f2 := (h2.cells 2).2.2.1; have g2 := (h2.cells 2).2.2.2; have a3 := (h2.cells 3).1; have b3 := (h2.cells 3).2.1; have f3 := (h2.cells 3).2.2.1; have g3 := (h2.cells 3).2.2.2; have a4 := (h2.cells 4).1; have b4 := (h2.cells 4).2.1; have f4 := (h2.cells 4).2.2.1; have g4 := (h2.cells 4).2.2.2; have a5 := (h2.cells 5).1; have b5 := (h2.cells 5).2.1; have f5 := (h2.cells 5).2.2.1; have g5 := (h2.cells 5).2.2.2; clear hb; simp only [List.getElem?_toArray, List.getElem?_cons_zero, List.getElem?_cons_succ] at a0 b0 a1 b1 a2 b2 a3 b3 a4 b4 a5 b5)
      | (go_at_call 46; refine (ref_Find _ _).mono ?_; rintro e W ⟨rfl, rfl⟩))
    obtain ⟨e1, e2⟩ := Two.six h2.h1 h2.below (.int .i64 0) (.slice none 0 0) (.slice none 0 0) (.bool false) (.int .i64 0) (.bool false)
    refine bodyPost_ret (results_row_tmp rfl _ _ (w.heap.size + 1) _ _ _ _ _ rfl rfl e1 Try.underlying32 rfl (by kernel_rfl)) rfl ?_
    exact ⟨⟨_, _, _, _, _, _, _, _, _, _, _, rfl⟩, e2⟩
theorem ref_Rename (w : World) (n m : Str) (hn : n.length ≤ 1099511627776) (hm' : m.length ≤ 1099511627776) : Calls Try.prog 24 #[.agg #[.int .i64 0, .slice none 0 0, .slice none 0 0, .bool false, .int .i64 0, .bool false], strV n, strV m] w (RefRet w) := by
  have hm := fun w => ref_name w n hn
  have hk := fun w => ref_name w m hm'
  have h2 := two_made w
  cases hmay : may n with
  | false =>
    rw [hmay] at hm
    go_enter Try.func24, Try.ntmps24
    go_wp2_with (go_at_call 44; refine (hm _).mono ?_; rintro e W ⟨rfl, rfl⟩)
    refine bodyPost_ret (results_row_tmp rfl _ _ (w.heap.size + 1) _ _ _ _ _ rfl rfl h2.h1 Try.underlying32 rfl (by kernel_rfl)) rfl ?_
    exact ⟨⟨_, _, _, _, _, _, _, _, _, _, _, rfl⟩, h2.below⟩
  | true =>
    rw [hmay] at hm
    cases hmay2 : may m with
    | false =>
      rw [hmay2] at hk
      go_enter Try.func24, Try.ntmps24
      go_wp2_with (go_at_call 44; first | (refine (hm _).mono ?_; clear hm; rintro e W ⟨rfl, rfl⟩) | (refine (hk _).mono ?_; rintro e W ⟨rfl, rfl⟩))
      refine bodyPost_ret (results_row_tmp rfl _ _ (w.heap.size + 1) _ _ _ _ _ rfl rfl h2.h1 Try.underlying32 rfl (by kernel_rfl)) rfl ?_
      exact ⟨⟨_, _, _, _, _, _, _, _, _, _, _, rfl⟩, h2.below⟩
    | true =>
      rw [hmay2] at hk
      go_enter Try.func24, Try.ntmps24
      go_wp2_with (first
        | (go_at_call 44; first | (refine (hm _).mono ?_; clear hm; rintro e W ⟨rfl, rfl⟩) | (refine (hk _).mono ?_; rintro e W ⟨rfl, rfl⟩))
        | (go_at_call 47; refine (ref_Seen _).mono ?_; rintro e W ⟨rfl, hb⟩; have h2 := h2.next hb; have a0 := (h2.cells 0).1; have b0 := (h2.cells 0).2.1; have f0 := (h2.cells 0).2.2.1; have g0 := (h2.cells 0).2.2.2; have a1 := (h2.cells 1).1; have b1 := (h2.cells 1).2.1; have f1 := (h2.cells 1).2.2.1; have g1 := (h2.cells 1).2.2.2; have a2 := (h2.cells 2).1; have b2 := (h2.cells 2).2.1; have f2 := (h2.cells 2).2.2.1; have g2 := (h2.cells 2).2.2.2; have a3 := (h2.cells 3).1; have b3 := (h2.cells 3).2.1; have f3 := (h2.cells 3).2.2.1; have g3 := (h2.cells 3).2.2.2; have a4 := (h2.cells 4).1; have b4 := (h2.cells 4).2.1; have f4 := (h2.cells 4).2.2.1; have g4 := (h2.cells 4).2.2.2; have a5 := (h2.cells 5).1; have b5 := (h2.cells 5).2.1; have f5 := (h2.cells 5).2.2.1; have g5 := (h2.cells 5).2.2.2; clear hb; simp only [List.getElem?_toArray, List.getElem?_cons_zero, List.getElem?_cons_succ] at a0 b0 a1 b1 a2 b2 a3 b3 a4 b4 a5 b5)
        | (go_at_call 46; refine (ref_Find _ _).mono ?_; rintro e W ⟨rfl, rfl⟩))
      obtain ⟨e1, e2⟩ := Two.six h2.h1 h2.below (.int .i64 0) (.slice none 0 0) (.slice none 0 0) (.bool false) (.int .i64 0) (.bool false)
      refine bodyPost_ret (results_row_tmp rfl _ _ (w.heap.size + 1) _ _ _ _ _ rfl rfl e1 Try.underlying32 rfl (by kernel_rfl)) rfl ?_
      exact ⟨⟨_, _, _, _, _, _, _, _, _, _, _, rfl⟩, e2⟩
theorem ref_Fuse (w : World) (k : Int) : Calls Try.prog 26 #[.agg #[.int .i64 0, .slice none 0 0, .slice none 0 0, .bool false, .int .i64 0, .bool false], .int .i64 k] w (RefRet w) := by
  have h2 := two_made w
  by_cases hk : k < 0
  · go_enter Try.func26, Try.ntmps26
    go_wp2
    refine bodyPost_ret (results_row_tmp rfl _ _ (w.heap.size + 1) _ _ _ _ _ rfl rfl h2.h1 Try.underlying32 rfl (by kernel_rfl)) rfl ?_
    exact ⟨⟨_, _, _, _, _, _, _, _, _, _, _, rfl⟩, h2.below⟩
  · have e1 : (w.alloc (.cells #[.int .i64 0, .slice none 0 0, .slice none 0 0, .bool true, .int .i64 k, .bool false] 32)).heap.size = w.heap.size + 1 := by simp
    have h3 := heap_last (w.alloc (.cells #[.int .i64 0, .slice none 0 0, .slice none 0 0, .bool true, .int .i64 k, .bool false] 32)) (.cells #[.int .i64 0, .slice none 0 0, .slice none 0 0, .bool true, .int .i64 k, .bool false] 32)
    rw [e1] at h3
    have hb : Below w.heap.size w ((w.alloc (.cells #[.int .i64 0, .slice none 0 0, .slice none 0 0, .bool true, .int .i64 k, .bool false] 32)).alloc (.cells #[.int .i64 0, .slice none 0 0, .slice none 0 0, .bool true, .int .i64 k, .bool false] 32)) := ((Below.refl _ w).alloc (Nat.le_refl _) _).alloc (by omega) _
    clear e1
    go_enter Try.func26, Try.ntmps26
    go_wp2
    refine bodyPost_ret (results_row_tmp rfl _ _ (w.heap.size + 1) _ _ _ _ _ rfl rfl h3 Try.underlying32 rfl (by kernel_rfl)) rfl ?_
    exact ⟨⟨_, _, _, _, _, _, _, _, _, _, _, rfl⟩, hb⟩
theorem ref_Sync (w : World) : Calls Try.prog 25 #[.agg #[.int .i64 0, .slice none 0 0, .slice none 0 0, .bool false, .int .i64 0, .bool false]] w (RefRet w) := by
  have h2 := two_made w
  go_enter Try.func25, Try.ntmps25
  go_wp2_with (go_at_call 47; refine (ref_Seen _).mono ?_; rintro e W ⟨rfl, hb⟩; have h2 := h2.next hb; have a0 := (h2.cells 0).1; have b0 := (h2.cells 0).2.1; have f0 := (h2.cells 0).2.2.1; have g0 := (h2.cells 0).2.2.2; have a1 := (h2.cells 1).1; have b1 := (h2.cells 1).2.1; have f1 := (h2.cells 1).2.2.1; have g1 := (h2.cells 1).2.2.2; have a2 := (h2.cells 2).1; have b2 := (h2.cells 2).2.1; have f2 := (h2.cells 2).2.2.1; have g2 := (h2.cells 2).2.2.2; have a3 := (h2.cells 3).1; have b3 := (h2.cells 3).2.1; have f3 := (h2.cells 3).2.2.1; have g3 := (h2.cells 3).2.2.2; have a4 := (h2.cells 4).1; have b4 := (h2.cells 4).2.1; have f4 := (h2.cells 4).2.2.1; have g4 := (h2.cells 4).2.2.2; have a5 := (h2.cells 5).1; have b5 := (h2.cells 5).2.1; have f5 := (h2.cells 5).2.2.1; have g5 := (h2.cells 5).2.2.2; clear hb; simp only [List.getElem?_toArray, List.getElem?_cons_zero, List.getElem?_cons_succ] at a0 b0 a1 b1 a2 b2 a3 b3 a4 b4 a5 b5)
  have q1 : ((W.setCell ⟨w.heap.size, 1, none⟩ (.slice none 0 0)).setCell ⟨w.heap.size, 2, none⟩ (.slice none 0 0)).heap[w.heap.size + 1]? = some (.cells #[.int .i64 0, .slice none 0 0, .slice none 0 0, .bool false, .int .i64 0, .bool false] 32 (0, 0)) := by
    rw [Below.heap_setCell _ _ _ _ (by simp), Below.heap_setCell _ _ _ _ (by simp)]
    exact h2.h1
  obtain ⟨e1, e2⟩ := Two.six q1 ((h2.below.setCell (Nat.le_refl _) _).setCell (Nat.le_refl _) _) (.int .i64 0) (.slice none 0 0) (.slice none 0 0) (.bool false) (.int .i64 0) (.bool false)
  refine bodyPost_ret (results_row_tmp rfl _ _ (w.heap.size + 1) _ _ _ _ _ rfl rfl e1 Try.underlying32 rfl (by kernel_rfl)) rfl ?_
  exact ⟨⟨_, _, _, _, _, _, _, _, _, _, _, rfl⟩, e2⟩
end Go.Proofs.Ytfmigkmkdhciiaa.K
