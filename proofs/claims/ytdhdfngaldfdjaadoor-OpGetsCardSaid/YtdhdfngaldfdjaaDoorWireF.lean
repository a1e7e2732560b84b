/-
  Contracts of package wire: the readers' methods.
-/
import Derived.Test.YtdhdfngaldfdjaaDoorWireE
import Derived.Deep.RegionHeld3
import Derived.WalkLawsBesides
namespace Go.Proofs.YtdhdfngaldfdjaaDoor
open Go Go.RowKit Wire

set_option maxRecDepth 100000
set_option linter.unusedVariables false
set_option linter.unusedSimpArgs false
theorem small_takeNum {st : St} (hs : Small st) (most : Nat) : Small (takeNum st most).2 := by
  cases h : (takeNum st most).2 with
  | none => exact small_none
  | some r =>
    obtain ⟨l, rfl, hl⟩ := takeNum_st h
    have h' : l.length ≤ 1000000 := hs
    show r.length ≤ 1000000
    omega

set_option maxHeartbeats 1000000 in
set_option maxRecDepth 100000 in
theorem wire_Num (p : Option Nat) (st : St) (most : Nat) (hs : Small st) (W : World) (h : RAt W p st) :
    Calls Tryd.prog 44 #[rptr p, .int .u64 most] W fun e w' => e = .returned (.int .u64 ((takeNum st most).1 : Nat)) ∧ RAt w' p (takeNum st most).2 ∧ Keeps W.heap.size p W w' := by
  obtain ⟨n, ok, st', ⟨hn, hs', hsaid⟩, hcall⟩ := wire_readNumber p st hs W h
  have hres := fun b w1 (h1 : RAt w1 p st') => result_num p st' n b w1 h1
  have goal1 : ok = true → n ≤ most → takeNum st most = (n, st') := fun e1 e2 => by
    subst e1
    unfold takeNum
    split at hsaid
    · rename_i m r he
      obtain ⟨rfl, _, rfl⟩ := hsaid
      rw [he]; simp [e2]
    · cases hsaid
  have goal2 : ¬ (ok = true ∧ n ≤ most) → takeNum st most = (0, none) := fun e => by
    unfold takeNum
    split at hsaid
    · rename_i m r he
      obtain ⟨rfl, rfl, rfl⟩ := hsaid
      rw [he]; simp only [if_neg (fun x => e ⟨rfl, x⟩)]
    · rename_i he
      rw [he]
  clear hsaid h
  unfold takeFn at hcall
  cases ok with
  | true =>
    by_cases hle : n ≤ most
    · rw [goal1 rfl hle]
      have hr1 := hres true
      clear hres goal1 goal2
      go_enter Tryd.func44, Tryd.ntmps44
      go_wp2_with (first
        | (go_at_call 59; refine hcall.mono ?_; rintro e w1 ⟨rfl, h1, hk1⟩; clear hcall; have hr2 := hr1 w1 h1; clear hr1 h1)
        | (go_at_call 61; refine hr2.mono ?_; rintro e w2 ⟨rfl, h2, hk2⟩))
      go_ret
      exact ⟨rfl, h2, hk1.trans (hk2.mono hk1.size)⟩
    · rw [goal2 (fun x => hle x.2)]
      have hr1 := hres false
      clear hres goal1 goal2
      go_enter Tryd.func44, Tryd.ntmps44
      go_wp2_with (first
        | (go_at_call 59; refine hcall.mono ?_; rintro e w1 ⟨rfl, h1, hk1⟩; clear hcall; have hr2 := hr1 w1 h1; clear hr1 h1)
        | (go_at_call 61; refine hr2.mono ?_; rintro e w2 ⟨rfl, h2, hk2⟩))
      go_ret
      exact ⟨rfl, h2, hk1.trans (hk2.mono hk1.size)⟩
  | false =>
    rw [goal2 (fun x => by cases x.1)]
    have hr1 := hres false
    clear hres goal1 goal2
    go_enter Tryd.func44, Tryd.ntmps44
    go_wp2_with (first
      | (go_at_call 59; refine hcall.mono ?_; rintro e w1 ⟨rfl, h1, hk1⟩; clear hcall; have hr2 := hr1 w1 h1; clear hr1 h1)
      | (go_at_call 61; refine hr2.mono ?_; rintro e w2 ⟨rfl, h2, hk2⟩))
    go_ret
    exact ⟨rfl, h2, hk1.trans (hk2.mono hk1.size)⟩

theorem takeText_is (st : St) (most : Int) : takeText st most = ((if (takeB (takeNum st most.toNat).2 (takeNum st most.toNat).1).1.2 then (takeB (takeNum st most.toNat).2 (takeNum st most.toNat).1).1.1 else []), (if (takeB (takeNum st most.toNat).2 (takeNum st most.toNat).1).1.2 then (takeB (takeNum st most.toNat).2 (takeNum st most.toNat).1).2 else none)) := by
  unfold takeText takeB
  cases h : (takeNum st most.toNat).2 with
  | none => simp
  | some r =>
    by_cases hl : (takeNum st most.toNat).1 ≤ r.length
    · simp [hl]
    · simp [hl]
theorem takeB_len {st : St} (hs : Small st) (n : Nat) : (takeB st n).1.1.length ≤ 1000000 := by
  cases st with
  | none => simp [takeB]
  | some l =>
    have h' : l.length ≤ 1000000 := hs
    by_cases hn : n ≤ l.length
    · have e : takeB (some l) n = ((l.take n, true), some (l.drop n)) := by simp [takeB, hn]
      rw [e]
      show (l.take n).length ≤ 1000000
      rw [List.length_take]; omega
    · have e : takeB (some l) n = (([], false), some l) := by simp [takeB, hn]
      rw [e]; exact Nat.zero_le _

theorem last_two (W : World) (a b : Obj) : ((W.alloc a).alloc b).heap[W.heap.size + 1]? = some b := by
  have := heap_alloc_last (W.alloc a) b
  rw [World.size_alloc] at this
  exact this
theorem mid_three (W : World) (a b c : Obj) : (((W.alloc a).alloc b).alloc c).heap[W.heap.size + 1]? = some b := by
  rw [Below.heap_alloc _ _ _ (by simp)]; exact last_two W a b
theorem below_three (W : World) (a b c : Obj) : Below W.heap.size W (((W.alloc a).alloc b).alloc c) := (((Below.refl _ W).alloc (Nat.le_refl _) a).alloc (by simp) b).alloc (by simp; omega) c
/-- The reader behind a failure. -/
def fallen (W : World) (g : Nat) : World := (W.setCell ⟨g, 0, none⟩ (.string ⟨#[]⟩)).setCell ⟨g, 1, none⟩ (.bool false)
theorem fallen_size (W : World) (g : Nat) : (fallen W g).heap.size = W.heap.size := by simp [fallen, World.setCell]
theorem mid_fallen (W : World) (g : Nat) (a b c : Obj) : ((((fallen W g).alloc a).alloc b).alloc c).heap[W.heap.size + 1]? = some b := by
  have := mid_three (fallen W g) a b c
  rw [fallen_size] at this; exact this
theorem below_fallen (W : World) (g : Nat) (a b c : Obj) {st : St} (h : RAt W (some g) st) : RAt ((((fallen W g).alloc a).alloc b).alloc c) (some g) none ∧ Keeps W.heap.size (some g) W ((((fallen W g).alloc a).alloc b).alloc c) :=
  ⟨RAt.keep (p := some g) h.failed.1 (below_three _ _ _ _), h.failed.2.trans ((below_three (fallen W g) a b c).keeps _ _ (by rw [fallen_size]; exact Nat.le_refl _))⟩
theorem row_two (W : World) (a : Obj) (z c : Array Value) (t : TypeId) : ((W.alloc a).alloc (.cells z t)).setRow (W.heap.size + 1) c = (W.alloc a).alloc (.cells c t) := by
  have := World.setRow_alloc_new (W.alloc a) z c t
  rw [World.size_alloc] at this
  exact this
theorem below_two (W : World) (a b : Obj) : Below W.heap.size W ((W.alloc a).alloc b) := ((Below.refl _ W).alloc (Nat.le_refl _) a).alloc (by simp) b

set_option maxRecDepth 100000 in
theorem result_dot (p : Option Nat) (st : St) (r n : Nat) (b : Bool) (W : World) (h : RAt W p st) :
    Calls Tryd.prog 56 #[rptr p, .agg #[.int .u8 (r : Int), .int .u32 (n : Int)], .bool b] W fun e w' => e = .returned (.agg (if b then #[.int .u8 (r : Int), .int .u32 (n : Int)] else #[.int .u8 0, .int .u32 0])) ∧ RAt w' p (if b then st else none) ∧ Keeps W.heap.size p W w' := by
  cases b with
  | true =>
    have HH : Hid _ := h
    clear h
    simp only [if_true]
    go_enter Tryd.func56, Tryd.ntmps56
    go_wp2
    refine bodyPost_ret (v := .agg #[.int .u8 (r : Int), .int .u32 (n : Int)]) (results_cell_row rfl _ _ (W.heap.size + 1) 24 #[.int .u8 (r : Int), .int .u32 (n : Int)] (0, 0) _ rfl (last_two _ _ _) Tryd.underlying24 rfl (by kernel_rfl)) rfl ⟨rfl, RAt.keep HH.out (below_two _ _ _), (below_two _ _ _).keeps p _ (Nat.le_refl _)⟩
  | false =>
    simp only [Bool.false_eq_true, if_false]
    cases p with
    | none =>
      obtain rfl : st = none := h
      go_enter Tryd.func56, Tryd.ntmps56
      simp only [rptr, Option.map]
      go_wp2
      refine bodyPost_ret (v := .agg #[.int .u8 0, .int .u32 0]) (results_cell_row rfl _ _ (W.heap.size + 1) 24 #[.int .u8 0, .int .u32 0] (0, 0) _ rfl (mid_three _ _ _ _) Tryd.underlying24 rfl (by kernel_rfl)) rfl ⟨rfl, rfl, (below_three _ _ _ _).keeps none _ (Nat.le_refl _)⟩
    | some g =>
      have h' : W.heap[g]? = some (.cells (rcells st) 101 (0, 0)) := h
      obtain ⟨x, y, hxy⟩ : ∃ x y, rcells st = #[x, y] := by cases st <;> exact ⟨_, _, rfl⟩
      rw [hxy] at h'
      have hlt := lt_of_some h'
      have hc0 : W.cell? ⟨g, 0, none⟩ = some x := (cell_of_heap h').trans rfl
      have hc1 : W.cell? ⟨g, 1, none⟩ = some y := (cell_of_heap h').trans rfl
      have hf0 : W.frozen? ⟨g, 0, none⟩ = false := free_of_heap h'
      have hf1 : W.frozen? ⟨g, 1, none⟩ = false := free_of_heap h'
      have hn1 : W.heap.size ≠ g := by omega
      have hn2 : W.heap.size + 1 ≠ g := by omega
      have HH : Hid (RAt W (some g) st) := h
      clear h h' hxy
      go_enter Tryd.func56, Tryd.ntmps56
      simp only [rptr, Option.map]
      go_wp2
      exact bodyPost_ret (v := .agg #[.int .u8 0, .int .u32 0]) (results_cell_row rfl _ _ (W.heap.size + 1) 24 #[.int .u8 0, .int .u32 0] (0, 0) _ rfl (mid_fallen W g _ _ _) Tryd.underlying24 rfl (by kernel_rfl)) rfl ⟨rfl, below_fallen W g _ _ _ HH.out⟩

set_option maxHeartbeats 1000000 in
set_option maxRecDepth 100000 in
theorem result_vec (p : Option Nat) (st : St) (v : List Nat) (h8 : v.length = 8) (b : Bool) (W : World) (h : RAt W p st) :
    Calls Tryd.prog 58 #[rptr p, .agg (vcells v), .bool b] W fun e w' => e = .returned (.agg (vcells (if b then v else zeros8))) ∧ RAt w' p (if b then st else none) ∧ Keeps W.heap.size p W w' := by
  have hsz : (vcells v).size = 8 := by rw [vcells_size, h8]
  have hone : (vcells v).all (·.oneCell') = true := by
    simp [vcells, Value.oneCell']
  have hsi : (Tryd.prog.info? 26).map (·.size) = some 8 := by kernel_rfl
  cases b with
  | true =>
    have HH : Hid _ := h
    clear h
    simp only [if_true]
    go_enter Tryd.func58, Tryd.ntmps58
    go_wp2_with (first
      | (refine wpList_load_row rfl _ _ rfl W.heap.size rfl _ _ _ _ ((Below.heap_alloc _ _ _ (by simp)).trans (heap_alloc_last W (.cells (vcells v) 26))) Tryd.underlying26 rfl (by rw [hsz]; kernel_rfl) ?_)
      | (refine wpList_store_row rfl _ _ _ rfl (W.heap.size + 1) (vcells v) rfl rfl 26 _ (last_two _ _ _) (by rw [hsz]; kernel_rfl) (by rw [hsz]; rfl) hone ?_; rw [row_two]))
    exact bodyPost_ret (v := .agg (vcells v)) (results_cell_row rfl _ _ (W.heap.size + 1) 26 (vcells v) (0, 0) _ rfl (last_two _ _ _) Tryd.underlying26 rfl (by rw [hsz]; kernel_rfl)) rfl ⟨rfl, RAt.keep HH.out (below_two _ _ _), (below_two _ _ _).keeps p _ (Nat.le_refl _)⟩
  | false =>
    simp only [Bool.false_eq_true, if_false]
    cases p with
    | none =>
      obtain rfl : st = none := h
      go_enter Tryd.func58, Tryd.ntmps58
      simp only [rptr, Option.map]
      go_wp2
      exact bodyPost_ret (v := .agg (vcells zeros8)) (results_cell_row rfl _ _ (W.heap.size + 1) 26 (vcells zeros8) (0, 0) _ rfl (mid_three _ _ _ _) Tryd.underlying26 rfl (by kernel_rfl)) rfl ⟨rfl, rfl, (below_three _ _ _ _).keeps none _ (Nat.le_refl _)⟩
    | some g =>
      have h' : W.heap[g]? = some (.cells (rcells st) 101 (0, 0)) := h
      obtain ⟨x, y, hxy⟩ : ∃ x y, rcells st = #[x, y] := by cases st <;> exact ⟨_, _, rfl⟩
      rw [hxy] at h'
      have hlt := lt_of_some h'
      have hc0 : W.cell? ⟨g, 0, none⟩ = some x := (cell_of_heap h').trans rfl
      have hc1 : W.cell? ⟨g, 1, none⟩ = some y := (cell_of_heap h').trans rfl
      have hf0 : W.frozen? ⟨g, 0, none⟩ = false := free_of_heap h'
      have hf1 : W.frozen? ⟨g, 1, none⟩ = false := free_of_heap h'
      have hn1 : W.heap.size ≠ g := by omega
      have hn2 : W.heap.size + 1 ≠ g := by omega
      have HH : Hid (RAt W (some g) st) := h
      clear h h' hxy
      go_enter Tryd.func58, Tryd.ntmps58
      simp only [rptr, Option.map]
      go_wp2
      exact bodyPost_ret (v := .agg (vcells zeros8)) (results_cell_row rfl _ _ (W.heap.size + 1) 26 (vcells zeros8) (0, 0) _ rfl (mid_fallen W g _ _ _) Tryd.underlying26 rfl (by kernel_rfl)) rfl ⟨rfl, below_fallen W g _ _ _ HH.out⟩

end Go.Proofs.YtdhdfngaldfdjaaDoor
