/-
  Contracts of the document's answer for package wire: dots read.
-/
import Derived.Test.YtdhdfngaldfdjaaDoorWireU
import Derived.Test.YtdhdfngaldfdjaaDoorWireQ
namespace Go.Proofs.YtdhdfngaldfdjaaDoor
open Go Go.RowKit Wire

set_option maxRecDepth 100000
set_option linter.unusedVariables false
set_option linter.unusedSimpArgs false
theorem last_three (W : World) (a b c : Obj) : (((W.alloc a).alloc b).alloc c).heap[W.heap.size + 2]? = some c := by
  have := heap_alloc_last ((W.alloc a).alloc b) c
  rw [World.size_alloc, World.size_alloc] at this
  exact this
theorem first_three (W : World) (a b c : Obj) : (((W.alloc a).alloc b).alloc c).heap[W.heap.size]? = some a := (Below.heap_alloc _ _ _ (by simp; omega)).trans (first_two W a b)
theorem kept_block {w w' : World} {g : Nat} {o : Obj} (h : w.heap[g]? = some o) (hb : Below w.heap.size w w') : w'.heap[g]? = some o := (hb.block _ (lt_of_some h)).trans h
theorem kept_alloc {w : World} {g : Nat} {o : Obj} (h : w.heap[g]? = some o) (o' : Obj) : (w.alloc o').heap[g]? = some o := (Below.heap_alloc _ _ _ (lt_of_some h)).trans h

theorem set22 {w : World} {b1 b2 : Nat} {t1 t2 : TypeId} {z0 z1 y0 y1 : Value} (hne : b1 ≠ b2) (h1 : w.heap[b1]? = some (.cells #[z0, z1] t1 (0, 0))) (h2 : w.heap[b2]? = some (.cells #[y0, y1] t2 (0, 0))) (a0 a1 c0 c1 : Value) :
    ((((w.setCell ⟨b1, 0, none⟩ a0).setCell ⟨b1, 1, none⟩ a1).setCell ⟨b2, 0, none⟩ c0).setCell ⟨b2, 1, none⟩ c1).heap[b1]? = some (.cells #[a0, a1] t1 (0, 0)) ∧
      ((((w.setCell ⟨b1, 0, none⟩ a0).setCell ⟨b1, 1, none⟩ a1).setCell ⟨b2, 0, none⟩ c0).setCell ⟨b2, 1, none⟩ c1).heap[b2]? = some (.cells #[c0, c1] t2 (0, 0)) := by
  constructor
  · rw [Below.heap_setCell _ _ _ _ hne, Below.heap_setCell _ _ _ _ hne]
    exact set2_heap h1 a0 a1
  · exact set2_heap ((Below.heap_setCell _ _ _ _ (Ne.symm hne)).trans ((Below.heap_setCell _ _ _ _ (Ne.symm hne)).trans h2)) c0 c1

set_option maxHeartbeats 4000000 in
set_option maxRecDepth 100000 in
theorem takeDot_walk (X X1 : ByteArray) (f f1 : Bool) (a b : Nat) (s2 : St) (ha : a < 256) (hb : b < 4294967296)
    (hnum1 : ∀ W, Calls Tryd.prog 66 #[.agg #[.string X, .bool f], .int .u64 255] W fun e w' => e = .returned (.tuple #[.int .u64 (a : Nat), .agg #[.string X1, .bool f1]]) ∧ Below W.heap.size W w')
    (hnum2 : ∀ W, Calls Tryd.prog 66 #[.agg #[.string X1, .bool f1], .int .u64 4294967295] W fun e w' => e = .returned (.tuple #[.int .u64 (b : Nat), .agg (rcells s2)]) ∧ Below W.heap.size W w') (W : World) :
    Calls Tryd.prog 63 #[.agg #[.string X, .bool f]] W fun e w' => e = .returned (.tuple #[.agg (dcells (if s2.isSome then (a, b) else (0, 0))), .agg (rcells s2)]) ∧ Below W.heap.size W w' := by
  have hx := first_three W (.cells #[.string X, .bool f] 85) (.cells #[.int .u8 0, .int .u32 0] 24) (.cells #[.string ⟨#[]⟩, .bool false] 85)
  have hy := mid_three W (.cells #[.string X, .bool f] 85) (.cells #[.int .u8 0, .int .u32 0] 24) (.cells #[.string ⟨#[]⟩, .bool false] 85)
  have hz := last_three W (.cells #[.string X, .bool f] 85) (.cells #[.int .u8 0, .int .u32 0] 24) (.cells #[.string ⟨#[]⟩, .bool false] 85)
  have hb3 := below_three W (.cells #[.string X, .bool f] 85) (.cells #[.int .u8 0, .int .u32 0] 24) (.cells #[.string ⟨#[]⟩, .bool false] 85)
  have hx0 := (cell_of_heap (j := 0) hx).trans rfl
  have hx1 := (cell_of_heap (j := 1) hx).trans rfl
  have HY : Hid _ := And.intro hy hz
  have hcv1 : IntKind.u8.wrap (a : Int) = a := by rw [wrap_u8]; omega
  have hcv2 : IntKind.u32.wrap (b : Int) = b := by rw [wrap_u32]; omega
  clear hx hy hz
  cases s2 with
  | none =>
    simp only [rcells] at hnum2
    simp only [rcells, Option.isSome, Bool.false_eq_true, if_false, dcells]
    go_enter Tryd.func63, Tryd.ntmps63
    go_wp2_with (first
      | (go_at_call 66; (with_reducible refine (hnum1 _).mono ?_); rintro e w1 ⟨rfl, hb1⟩; clear hnum1; have HY1 : Hid (w1.heap[W.heap.size + 1]? = some (.cells #[.int .u8 0, .int .u32 0] 24 (0, 0)) ∧ w1.heap[W.heap.size + 2]? = some (.cells #[.string ⟨#[]⟩, .bool false] 85 (0, 0))) := ⟨kept_block HY.out.1 hb1, kept_block HY.out.2 hb1⟩; have hB1 := below_next hb3 hb1)
      | (go_at_call 66; (with_reducible refine (hnum2 _).mono ?_); rintro e w2 ⟨rfl, hb2⟩; clear hnum2; have HY2 : Hid (w2.heap[W.heap.size + 1]? = some (.cells #[.int .u8 0, .int .u32 0] 24 (0, 0)) ∧ w2.heap[W.heap.size + 2]? = some (.cells #[.string ⟨#[]⟩, .bool false] 85 (0, 0))) := ⟨kept_block (kept_alloc HY1.out.1 _) hb2, kept_block (kept_alloc HY1.out.2 _) hb2⟩; have hB2 := below_next (hB1.alloc hB1.size _) hb2)
      | (go_at_call 69; refine (ref_failed _).mono ?_; rintro e w5 ⟨rfl, hb5⟩; have HY5 : Hid (w5.heap[W.heap.size + 1]? = some (.cells #[.int .u8 0, .int .u32 0] 24 (0, 0)) ∧ w5.heap[W.heap.size + 2]? = some (.cells #[.string ⟨#[]⟩, .bool false] 85 (0, 0))) := ⟨kept_block (kept_alloc HY2.out.1 _) hb5, kept_block (kept_alloc HY2.out.2 _) hb5⟩; have hB5 := below_next (hB2.alloc hB2.size _) hb5; have e0 := (cell_of_heap (j := 0) HY5.out.1).trans rfl; have e1 := (cell_of_heap (j := 1) HY5.out.1).trans rfl; have e2 := (cell_of_heap (j := 0) HY5.out.2).trans rfl; have e3 := (cell_of_heap (j := 1) HY5.out.2).trans rfl; have e4 := fun j => free_of_heap (j := j) HY5.out.1; have e5 := fun j => free_of_heap (j := j) HY5.out.2))
    exact bodyPost_ret (v := .tuple #[.agg #[.int .u8 0, .int .u32 0], .agg #[.string ⟨#[]⟩, .bool false]]) (results_two_rows rfl _ _ (W.heap.size + 1) (W.heap.size + 2) 24 85 #[.int .u8 0, .int .u32 0] #[.string ⟨#[]⟩, .bool false] (0, 0) (0, 0) _ _ rfl (set22 (by omega) HY5.out.1 HY5.out.2 _ _ _ _).1 Tryd.underlying24 rfl (by kernel_rfl) rfl (set22 (by omega) HY5.out.1 HY5.out.2 _ _ _ _).2 Tryd.underlying85 rfl (by kernel_rfl)) rfl ⟨rfl, ((((hB5).setCell (by simp <;> omega) _).setCell (by simp <;> omega) _).setCell (by simp <;> omega) _).setCell (by simp <;> omega) _⟩
  | some r =>
    simp only [rcells] at hnum2
    simp only [rcells, Option.isSome, if_true, dcells]
    go_enter Tryd.func63, Tryd.ntmps63
    go_wp2_with (first
      | (go_at_call 66; (with_reducible refine (hnum1 _).mono ?_); rintro e w1 ⟨rfl, hb1⟩; clear hnum1; have HY1 : Hid (w1.heap[W.heap.size + 1]? = some (.cells #[.int .u8 0, .int .u32 0] 24 (0, 0)) ∧ w1.heap[W.heap.size + 2]? = some (.cells #[.string ⟨#[]⟩, .bool false] 85 (0, 0))) := ⟨kept_block HY.out.1 hb1, kept_block HY.out.2 hb1⟩; have hB1 := below_next hb3 hb1)
      | (go_at_call 66; (with_reducible refine (hnum2 _).mono ?_); rintro e w2 ⟨rfl, hb2⟩; clear hnum2; have HY2 : Hid (w2.heap[W.heap.size + 1]? = some (.cells #[.int .u8 0, .int .u32 0] 24 (0, 0)) ∧ w2.heap[W.heap.size + 2]? = some (.cells #[.string ⟨#[]⟩, .bool false] 85 (0, 0))) := ⟨kept_block (kept_alloc HY1.out.1 _) hb2, kept_block (kept_alloc HY1.out.2 _) hb2⟩; have hB2 := below_next (hB1.alloc hB1.size _) hb2))
    have HY5 : Hid ((w2.alloc (.cells #[.string (ba r), .bool true] 85)).heap[W.heap.size + 1]? = some (.cells #[.int .u8 0, .int .u32 0] 24 (0, 0)) ∧ (w2.alloc (.cells #[.string (ba r), .bool true] 85)).heap[W.heap.size + 2]? = some (.cells #[.string ⟨#[]⟩, .bool false] 85 (0, 0))) := ⟨kept_alloc HY2.out.1 _, kept_alloc HY2.out.2 _⟩
    have hB5 := hB2.alloc hB2.size (.cells #[.string (ba r), .bool true] 85)
    have hd := heap_alloc_last w2 (.cells #[.string (ba r), .bool true] 85)
    have d0 := (cell_of_heap (j := 0) hd).trans rfl
    have d1 := (cell_of_heap (j := 1) hd).trans rfl
    have hne1 : ¬ w2.heap.size = W.heap.size + 1 := by have := lt_of_some HY2.out.1; omega
    have hne2 : ¬ w2.heap.size = W.heap.size + 2 := by have := lt_of_some HY2.out.2; omega
    clear hd
    generalize w2.alloc (.cells #[.string (ba r), .bool true] 85) = w5 at *
    have e0 := (cell_of_heap (j := 0) HY5.out.1).trans rfl
    have e1 := (cell_of_heap (j := 1) HY5.out.1).trans rfl
    have e2 := (cell_of_heap (j := 0) HY5.out.2).trans rfl
    have e3 := (cell_of_heap (j := 1) HY5.out.2).trans rfl
    have e4 := fun j => free_of_heap (j := j) HY5.out.1
    have e5 := fun j => free_of_heap (j := j) HY5.out.2
    go_region
    all_goals
      clear e0 e1 e2 e3 e4 e5 d0 d1
      go_wp2
      first
        | exact bodyPost_ret (v := .tuple #[.agg #[.int .u8 (a : Int), .int .u32 (b : Int)], .agg #[.string (ba r), .bool true]]) (results_two_rows rfl _ _ (W.heap.size + 1) (W.heap.size + 2) 24 85 #[.int .u8 (a : Int), .int .u32 (b : Int)] #[.string (ba r), .bool true] (0, 0) (0, 0) _ _ rfl (set22 (by omega) HY5.out.1 HY5.out.2 _ _ _ _).1 Tryd.underlying24 rfl (by kernel_rfl) rfl (set22 (by omega) HY5.out.1 HY5.out.2 _ _ _ _).2 Tryd.underlying85 rfl (by kernel_rfl)) rfl ⟨rfl, ((((hB5.drew).setCell (by simp <;> omega) _).setCell (by simp <;> omega) _).setCell (by simp <;> omega) _).setCell (by simp <;> omega) _⟩
        | exact bodyPost_ret (v := .tuple #[.agg #[.int .u8 (a : Int), .int .u32 (b : Int)], .agg #[.string (ba r), .bool true]]) (results_two_rows rfl _ _ (W.heap.size + 1) (W.heap.size + 2) 24 85 #[.int .u8 (a : Int), .int .u32 (b : Int)] #[.string (ba r), .bool true] (0, 0) (0, 0) _ _ rfl (set22 (by omega) HY5.out.2 HY5.out.1 _ _ _ _).2 Tryd.underlying24 rfl (by kernel_rfl) rfl (set22 (by omega) HY5.out.2 HY5.out.1 _ _ _ _).1 Tryd.underlying85 rfl (by kernel_rfl)) rfl ⟨rfl, ((((hB5.drew).setCell (by simp <;> omega) _).setCell (by simp <;> omega) _).setCell (by simp <;> omega) _).setCell (by simp <;> omega) _⟩

theorem ref_TakeDot (st : St) (hs : Small st) (W : World) :
    Calls Tryd.prog 63 #[.agg (rcells st)] W fun e w' => e = .returned (.tuple #[.agg (dcells (takeDot st).1), .agg (rcells (takeDot st).2)]) ∧ Below W.heap.size W w' := by
  have h1 := fun W => ref_TakeNum st hs m8 W
  have h2 := fun W => ref_TakeNum _ (small_takeNum hs m8) m32 W
  have l1 := takeNum_le st m8
  have l2 := takeNum_le (takeNum st m8).2 m32
  rw [takeDot_is]
  obtain ⟨X, f, hX⟩ := rcells_form st
  obtain ⟨X1, f1, hX1⟩ := rcells_form (takeNum st m8).2
  rw [hX] at h1 ⊢
  rw [hX1] at h1 h2
  exact takeDot_walk X X1 f f1 _ _ _ (by unfold m8 at l1 ⊢; omega) (by have e : m32 = 4294967295 := rfl; omega) h1 h2 W

end Go.Proofs.YtdhdfngaldfdjaaDoor
