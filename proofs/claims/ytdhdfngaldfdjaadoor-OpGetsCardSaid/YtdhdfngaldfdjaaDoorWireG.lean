/-
  Contracts of package wire: dots and vectors read; a reader made.
-/
import Derived.Test.YtdhdfngaldfdjaaDoorWireF
import Derived.Deep.RegionWith
namespace Go.Proofs.YtdhdfngaldfdjaaDoor
open Go Go.RowKit Wire

set_option maxRecDepth 100000
set_option linter.unusedVariables false
set_option linter.unusedSimpArgs false
theorem RAt.lt {W : World} {p : Option Nat} {st : St} (h : RAt W p st) : some W.heap.size ≠ p ∧ some (W.heap.size + 1) ≠ p := by
  cases p with
  | none => simp
  | some g =>
    have := lt_of_some h
    constructor <;> simp <;> omega
theorem RAt.drew {W : World} {p : Option Nat} {st : St} (h : RAt W p st) : RAt W.drew p st := by
  cases p with
  | none => exact h
  | some g => exact h
theorem Keeps.setRow {W w : World} {p : Option Nat} (h : Keeps W.heap.size p W w) (g : Nat) (hg : W.heap.size ≤ g) (cs : Array Value) : Keeps W.heap.size p W (w.setRow g cs) :=
  ⟨h.os, h.tape, h.output, by simpa using h.size, fun k hk hp => (setRow_other w g k cs (by omega)).trans (h.block k hk hp),
    fun k c t fr hk ht hp => (setRow_other w g k cs (by have := lt_of_some hk; omega)).trans (h.other k c t fr hk ht hp)⟩
theorem RAt.setRow {w : World} {p : Option Nat} {st : St} (h : RAt w p st) {g : Nat} (hg : some g ≠ p) (cs : Array Value) : RAt (w.setRow g cs) p st := by
  cases p with
  | none => exact h
  | some q => exact (setRow_other w g q cs (fun e => hg (by rw [e]))).trans h

theorem takeDot_is (st : St) : takeDot st = ((if (takeNum (takeNum st m8).2 m32).2.isSome then ((takeNum st m8).1, (takeNum (takeNum st m8).2 m32).1) else (0, 0)), (takeNum (takeNum st m8).2 m32).2) := by
  unfold takeDot
  cases h : (takeNum (takeNum st m8).2 m32).2 with
  | none => rfl
  | some r => rfl
def dcells (d : Nat × Nat) : Array Value := #[.int .u8 (d.1 : Int), .int .u32 (d.2 : Int)]

set_option maxHeartbeats 1000000 in
set_option maxRecDepth 100000 in
theorem wire_Dot (p : Option Nat) (st : St) (hs : Small st) (W : World) (h : RAt W p st) :
    Calls Tryd.prog 39 #[rptr p] W fun e w' => e = .returned (.agg (dcells (takeDot st).1)) ∧ RAt w' p (takeDot st).2 ∧ Keeps W.heap.size p W w' := by
  obtain ⟨hp, _⟩ := h.lt
  have ha : Below W.heap.size W (W.alloc (.cells #[.int .u8 0, .int .u32 0] 24)) := (Below.refl _ _).alloc (Nat.le_refl _) _
  have hka := ha.keeps p _ (Nat.le_refl _)
  have hz := heap_alloc_last W (.cells #[.int .u8 0, .int .u32 0] 24)
  have hn1 := wire_Num p st m8 hs _ (h.keep ha)
  have hn2 := fun w1 (h1 : RAt w1 p (takeNum st m8).2) => wire_Num p _ m32 (small_takeNum hs m8) w1 h1
  have hl1 := takeNum_le st m8
  have hl2 := takeNum_le (takeNum st m8).2 m32
  have hfin := fun w2 (h2 : RAt w2 p (takeNum (takeNum st m8).2 m32).2) => wire_Fine p _ w2 h2
  have hres := fun w2 (h2 : RAt w2 p (takeNum (takeNum st m8).2 m32).2) => result_dot p _ (takeNum st m8).1 (takeNum (takeNum st m8).2 m32).1 (takeNum (takeNum st m8).2 m32).2.isSome w2 h2
  rw [takeDot_is st]
  generalize (takeNum (takeNum st m8).2 m32).2 = s2 at hn2 hfin hres ⊢
  generalize (takeNum (takeNum st m8).2 m32).1 = b at hn2 hl2 hres ⊢
  generalize (takeNum st m8).2 = s1 at hn1 hn2
  generalize (takeNum st m8).1 = a at hn1 hl1 hres ⊢
  rw [show m8 = 255 by rfl] at hl1 hn1
  rw [show m32 = 4294967295 by rfl] at hl2 hn2
  have hc1 : IntKind.u8.wrap (a : Int) = a := by rw [wrap_u8]; omega
  have hc2 : IntKind.u32.wrap (b : Int) = b := by rw [wrap_u32]; omega
  have hd : dcells (if s2.isSome = true then (a, b) else (0, 0)) = (if s2.isSome = true then #[.int .u8 (a : Int), .int .u32 (b : Int)] else #[.int .u8 0, .int .u32 0]) := by split <;> rfl
  simp only [hd]
  have hs3 : (if s2.isSome = true then s2 else none) = s2 := by cases s2 <;> rfl
  simp only [hs3] at hres
  have hsz : (if s2.isSome = true then #[Value.int .u8 (a : Int), .int .u32 (b : Int)] else #[.int .u8 0, .int .u32 0]).size = 2 := by split <;> rfl
  have hone : (if s2.isSome = true then #[Value.int .u8 (a : Int), .int .u32 (b : Int)] else #[.int .u8 0, .int .u32 0]).all (·.oneCell') = true := by split <;> simp [Value.oneCell']
  generalize (if s2.isSome = true then #[Value.int .u8 (a : Int), .int .u32 (b : Int)] else #[.int .u8 0, .int .u32 0]) = cs at hres hsz hone ⊢
  generalize s2.isSome = ok at hfin hres
  have HZ : Hid _ := hz
  clear hz h hd hs3 hs
  go_enter Tryd.func39, Tryd.ntmps39
  go_wp2_with (first
    | (go_at_call 44; refine hn1.mono ?_; rintro e w1 ⟨rfl, h1, hk1⟩; clear hn1; have hn3 := hn2 w1 h1; have HZ1 : Hid _ := hk1.other _ _ _ _ HZ.out (by decide) hp; clear hn2 h1)
    | (go_at_call 44; refine hn3.mono ?_; rintro e w2 ⟨rfl, h2, hk2⟩; clear hn3; have hf2 := hfin w2 h2; have hr2 := hres w2 h2; have HZ2 : Hid _ := hk2.other _ _ _ _ HZ1.out (by decide) hp; clear hfin hres h2)
    | (go_at_call 57; refine hf2.mono ?_; rintro e w3 ⟨rfl, rfl⟩; clear hf2)
    | (go_at_call 56; refine hr2.mono ?_; rintro e w4 ⟨rfl, h4, hk4⟩; clear hr2; have HZ4 : Hid (w4.heap[W.heap.size]? = some (.cells #[.int .u8 0, .int .u32 0] 24 (0, 0))) := hk4.other _ _ _ _ HZ2.out (by decide) hp; have H4 : Hid (RAt w4 p s2) := h4; clear h4)
    | (refine wpList_store_row rfl _ _ _ rfl W.heap.size cs rfl rfl 24 _ HZ4.out (by rw [hsz]; kernel_rfl) (by rw [hsz]; rfl) hone ?_))
  have hkk : Keeps W.heap.size p W w4 := hka.trans ((hk1.mono ha.size).trans ((hk2.mono (Nat.le_trans ha.size hk1.size)).trans (hk4.mono (Nat.le_trans (Nat.le_trans ha.size hk1.size) hk2.size))))
  exact bodyPost_ret (v := .agg cs) (results_cell_row rfl _ _ W.heap.size 24 cs (0, 0) _ rfl (setRow_heap _ _ _ _ _ _ HZ4.out) Tryd.underlying24 rfl (by rw [hsz]; kernel_rfl)) rfl ⟨rfl, RAt.setRow H4.out hp _, hkk.setRow _ (Nat.le_refl _) _⟩

theorem wire_Open (s : ByteArray) (hs : s.size ≤ 1000000) (W : World) :
    Calls Tryd.prog 38 #[.string s] W fun e w' => ∃ g, e = .returned (.pointer (some ⟨g, 0, none⟩)) ∧ W.heap.size ≤ g ∧ RAt w' (some g) (some s.data.toList) ∧ Below W.heap.size W w' := by
  go_enter Tryd.func38, Tryd.ntmps38
  go_wp2_with (go_at_call 55; refine (strings_Clone s _ hs).mono ?_; rintro e w1 ⟨rfl, hb1⟩)
  go_ret
  refine ⟨w1.heap.size, rfl, hb1.size, ?_, hb1.alloc hb1.size _⟩
  show (w1.alloc _).heap[w1.heap.size]? = _
  rw [heap_alloc_last]
  show _ = some (Obj.cells #[.string (ba s.data.toList), .bool true] _ _)
  rw [ba_of]

/-- The vector's cells behind k numbers. -/
def vrow (k : Nat) (st : St) : Array Value := vcells ((vecGo k st).1 ++ List.replicate (8 - k) 0)
theorem vrow_zero (st : St) : vrow 0 st = #[.int .u32 0, .int .u32 0, .int .u32 0, .int .u32 0, .int .u32 0, .int .u32 0, .int .u32 0, .int .u32 0] := rfl
theorem vrow_size (k : Nat) (hk : k ≤ 8) (st : St) : (vrow k st).size = 8 := by
  unfold vrow; rw [vcells_size, List.length_append, vecGo_len, List.length_replicate]; omega
theorem vcells_set (l : List Nat) (m n : Nat) : (vcells (l ++ List.replicate (m + 1) 0)).setIfInBounds l.length (.int .u32 (n : Int)) = vcells ((l ++ [n]) ++ List.replicate m 0) := by
  unfold vcells
  simp [List.replicate_succ]
theorem vrow_set (k : Nat) (hk : k < 8) (st : St) : (vrow k st).setIfInBounds k (.int .u32 ((takeNum (vecGo k st).2 m32).1 : Int)) = vrow (k + 1) st := by
  have h := vcells_set (vecGo k st).1 (8 - (k + 1)) (takeNum (vecGo k st).2 m32).1
  rw [vecGo_len, show 8 - (k + 1) + 1 = 8 - k by omega] at h
  exact h
theorem vrow_at (k : Nat) (hk : k < 8) (st : St) : ∃ x, (vrow k st)[k]? = some x :=
  ⟨_, Array.getElem?_eq_getElem (by rw [vrow_size k (by omega) st]; exact hk)⟩
theorem vrow_end (st : St) : vrow 8 st = vcells (vecGo 8 st).1 := by unfold vrow; rw [Nat.sub_self]; simp
theorem small_vecGo {st : St} (hs : Small st) : ∀ k, Small (vecGo k st).2
  | 0 => hs
  | k + 1 => small_takeNum (small_vecGo hs k) _
theorem takeVec_is (st : St) : takeVec st = ((if (vecGo 8 st).2.isSome then (vecGo 8 st).1 else zeros8), (vecGo 8 st).2) := by
  unfold takeVec
  cases h : (vecGo 8 st).2 with
  | none => rfl
  | some r => rfl
theorem Keeps.setOwn {W w : World} {p : Option Nat} (h : Keeps W.heap.size p W w) (a : Addr) (hg : W.heap.size ≤ a.block) (x : Value) : Keeps W.heap.size p W (w.setCell a x) :=
  ⟨h.os, h.tape, h.output, by simpa [World.setCell] using h.size, fun k hk hp => (Below.heap_setCell _ _ _ _ (by omega)).trans (h.block k hk hp),
    fun k c t fr hk ht hp => (Below.heap_setCell _ _ _ _ (by have := lt_of_some hk; omega)).trans (h.other k c t fr hk ht hp)⟩
theorem RAt.setOwn {w : World} {p : Option Nat} {st : St} (h : RAt w p st) {a : Addr} (hg : some a.block ≠ p) (x : Value) : RAt (w.setCell a x) p st := by
  cases p with
  | none => exact h
  | some q => exact (Below.heap_setCell _ _ _ _ (fun e => hg (by rw [e]))).trans h

theorem cells8 {w : World} {g : Nat} {cs : Array Value} {t : TypeId} (h : w.heap[g]? = some (.cells cs t (0, 0))) (a0 a1 a2 a3 a4 a5 a6 a7 : Value) (hc : cs = #[a0, a1, a2, a3, a4, a5, a6, a7]) :
    w.cell? ⟨g, 0, none⟩ = some a0 ∧ w.cell? ⟨g, 1, none⟩ = some a1 ∧ w.cell? ⟨g, 2, none⟩ = some a2 ∧ w.cell? ⟨g, 3, none⟩ = some a3 ∧ w.cell? ⟨g, 4, none⟩ = some a4 ∧ w.cell? ⟨g, 5, none⟩ = some a5 ∧ w.cell? ⟨g, 6, none⟩ = some a6 ∧ w.cell? ⟨g, 7, none⟩ = some a7 := by
  subst hc
  exact ⟨(cell_of_heap h).trans rfl, (cell_of_heap h).trans rfl, (cell_of_heap h).trans rfl, (cell_of_heap h).trans rfl, (cell_of_heap h).trans rfl, (cell_of_heap h).trans rfl, (cell_of_heap h).trans rfl, (cell_of_heap h).trans rfl⟩
theorem set8_heap {w : World} {g : Nat} {cs : Array Value} {t : TypeId} {z0 z1 z2 z3 z4 z5 z6 z7 : Value} (h : w.heap[g]? = some (.cells cs t (0, 0))) (hc : cs = #[z0, z1, z2, z3, z4, z5, z6, z7]) (a0 a1 a2 a3 a4 a5 a6 a7 : Value) :
    ((((((((w.setCell ⟨g, 0, none⟩ a0).setCell ⟨g, 1, none⟩ a1).setCell ⟨g, 2, none⟩ a2).setCell ⟨g, 3, none⟩ a3).setCell ⟨g, 4, none⟩ a4).setCell ⟨g, 5, none⟩ a5).setCell ⟨g, 6, none⟩ a6).setCell ⟨g, 7, none⟩ a7).heap[g]? = some (.cells #[a0, a1, a2, a3, a4, a5, a6, a7] t (0, 0)) := by
  subst hc
  have h0 : (w.setCell ⟨g, 0, none⟩ a0).heap[g]? = some (.cells #[a0, z1, z2, z3, z4, z5, z6, z7] t (0, 0)) := by rw [heap_setCell_same w g 0 _ _ a0 h]; simp
  have h1 : ((w.setCell ⟨g, 0, none⟩ a0).setCell ⟨g, 1, none⟩ a1).heap[g]? = some (.cells #[a0, a1, z2, z3, z4, z5, z6, z7] t (0, 0)) := by rw [heap_setCell_same (w.setCell ⟨g, 0, none⟩ a0) g 1 _ _ a1 h0]; simp
  have h2 : (((w.setCell ⟨g, 0, none⟩ a0).setCell ⟨g, 1, none⟩ a1).setCell ⟨g, 2, none⟩ a2).heap[g]? = some (.cells #[a0, a1, a2, z3, z4, z5, z6, z7] t (0, 0)) := by rw [heap_setCell_same ((w.setCell ⟨g, 0, none⟩ a0).setCell ⟨g, 1, none⟩ a1) g 2 _ _ a2 h1]; simp
  have h3 : ((((w.setCell ⟨g, 0, none⟩ a0).setCell ⟨g, 1, none⟩ a1).setCell ⟨g, 2, none⟩ a2).setCell ⟨g, 3, none⟩ a3).heap[g]? = some (.cells #[a0, a1, a2, a3, z4, z5, z6, z7] t (0, 0)) := by rw [heap_setCell_same (((w.setCell ⟨g, 0, none⟩ a0).setCell ⟨g, 1, none⟩ a1).setCell ⟨g, 2, none⟩ a2) g 3 _ _ a3 h2]; simp
  have h4 : (((((w.setCell ⟨g, 0, none⟩ a0).setCell ⟨g, 1, none⟩ a1).setCell ⟨g, 2, none⟩ a2).setCell ⟨g, 3, none⟩ a3).setCell ⟨g, 4, none⟩ a4).heap[g]? = some (.cells #[a0, a1, a2, a3, a4, z5, z6, z7] t (0, 0)) := by rw [heap_setCell_same ((((w.setCell ⟨g, 0, none⟩ a0).setCell ⟨g, 1, none⟩ a1).setCell ⟨g, 2, none⟩ a2).setCell ⟨g, 3, none⟩ a3) g 4 _ _ a4 h3]; simp
  have h5 : ((((((w.setCell ⟨g, 0, none⟩ a0).setCell ⟨g, 1, none⟩ a1).setCell ⟨g, 2, none⟩ a2).setCell ⟨g, 3, none⟩ a3).setCell ⟨g, 4, none⟩ a4).setCell ⟨g, 5, none⟩ a5).heap[g]? = some (.cells #[a0, a1, a2, a3, a4, a5, z6, z7] t (0, 0)) := by rw [heap_setCell_same (((((w.setCell ⟨g, 0, none⟩ a0).setCell ⟨g, 1, none⟩ a1).setCell ⟨g, 2, none⟩ a2).setCell ⟨g, 3, none⟩ a3).setCell ⟨g, 4, none⟩ a4) g 5 _ _ a5 h4]; simp
  have h6 : (((((((w.setCell ⟨g, 0, none⟩ a0).setCell ⟨g, 1, none⟩ a1).setCell ⟨g, 2, none⟩ a2).setCell ⟨g, 3, none⟩ a3).setCell ⟨g, 4, none⟩ a4).setCell ⟨g, 5, none⟩ a5).setCell ⟨g, 6, none⟩ a6).heap[g]? = some (.cells #[a0, a1, a2, a3, a4, a5, a6, z7] t (0, 0)) := by rw [heap_setCell_same ((((((w.setCell ⟨g, 0, none⟩ a0).setCell ⟨g, 1, none⟩ a1).setCell ⟨g, 2, none⟩ a2).setCell ⟨g, 3, none⟩ a3).setCell ⟨g, 4, none⟩ a4).setCell ⟨g, 5, none⟩ a5) g 6 _ _ a6 h5]; simp
  have h7 : ((((((((w.setCell ⟨g, 0, none⟩ a0).setCell ⟨g, 1, none⟩ a1).setCell ⟨g, 2, none⟩ a2).setCell ⟨g, 3, none⟩ a3).setCell ⟨g, 4, none⟩ a4).setCell ⟨g, 5, none⟩ a5).setCell ⟨g, 6, none⟩ a6).setCell ⟨g, 7, none⟩ a7).heap[g]? = some (.cells #[a0, a1, a2, a3, a4, a5, a6, a7] t (0, 0)) := by rw [heap_setCell_same (((((((w.setCell ⟨g, 0, none⟩ a0).setCell ⟨g, 1, none⟩ a1).setCell ⟨g, 2, none⟩ a2).setCell ⟨g, 3, none⟩ a3).setCell ⟨g, 4, none⟩ a4).setCell ⟨g, 5, none⟩ a5).setCell ⟨g, 6, none⟩ a6) g 7 _ _ a7 h6]; simp
  exact h7
theorem list8 (v : List Nat) (h : v.length = 8) : ∃ a0 a1 a2 a3 a4 a5 a6 a7, v = [a0, a1, a2, a3, a4, a5, a6, a7] := by
  match v, h with
  | [a0, a1, a2, a3, a4, a5, a6, a7], _ => exact ⟨_, _, _, _, _, _, _, _, rfl⟩

set_option maxHeartbeats 2000000 in
set_option maxRecDepth 100000 in
theorem wire_Vector (p : Option Nat) (st : St) (hs : Small st) (W : World) (h : RAt W p st) :
    Calls Tryd.prog 40 #[rptr p] W fun e w' => e = .returned (.agg (vcells (takeVec st).1)) ∧ RAt w' p (takeVec st).2 ∧ Keeps W.heap.size p W w' := by
  obtain ⟨hp0, hp1⟩ := h.lt
  have hb := below_two W (.cells #[.int .u32 0, .int .u32 0, .int .u32 0, .int .u32 0, .int .u32 0, .int .u32 0, .int .u32 0, .int .u32 0] 26) (.cells #[.int .u32 0, .int .u32 0, .int .u32 0, .int .u32 0, .int .u32 0, .int .u32 0, .int .u32 0, .int .u32 0] 26)
  have hz0 := (Below.heap_alloc (W.alloc (.cells #[.int .u32 0, .int .u32 0, .int .u32 0, .int .u32 0, .int .u32 0, .int .u32 0, .int .u32 0, .int .u32 0] 26)) (.cells #[.int .u32 0, .int .u32 0, .int .u32 0, .int .u32 0, .int .u32 0, .int .u32 0, .int .u32 0, .int .u32 0] 26) W.heap.size (by simp)).trans (heap_alloc_last W (.cells #[.int .u32 0, .int .u32 0, .int .u32 0, .int .u32 0, .int .u32 0, .int .u32 0, .int .u32 0, .int .u32 0] 26))
  have hz1 := last_two W (.cells #[.int .u32 0, .int .u32 0, .int .u32 0, .int .u32 0, .int .u32 0, .int .u32 0, .int .u32 0, .int .u32 0] 26) (.cells #[.int .u32 0, .int .u32 0, .int .u32 0, .int .u32 0, .int .u32 0, .int .u32 0, .int .u32 0, .int .u32 0] 26)
  have hra := h.keep hb
  have hka := hb.keeps p _ (Nat.le_refl _)
  have HZ : Hid _ := And.intro hz0 hz1
  have HA : Hid (RAt _ p st) := hra
  rw [takeVec_is]
  obtain ⟨a0, a1, a2, a3, a4, a5, a6, a7, hv⟩ := list8 _ (vecGo_len 8 st)
  obtain ⟨b0, b1, b2, b3, b4, b5, b6, b7, hbv⟩ := list8 (if (vecGo 8 st).2.isSome = true then (vecGo 8 st).1 else zeros8) (by split; exact vecGo_len 8 st; rfl)
  have hs3 : (if (vecGo 8 st).2.isSome = true then (vecGo 8 st).2 else none) = (vecGo 8 st).2 := by cases (vecGo 8 st).2 <;> rfl
  have hres0 := fun w1 (h1 : RAt w1 p (vecGo 8 st).2) => result_vec p _ (vecGo 8 st).1 (vecGo_len 8 st) (vecGo 8 st).2.isSome w1 h1
  rw [hbv] at hres0 ⊢
  rw [hs3] at hres0
  have hfin0 := fun w1 (h1 : RAt w1 p (vecGo 8 st).2) => wire_Fine p _ w1 h1
  have hend := vrow_end st
  rw [hv] at hend hres0
  generalize (vecGo 8 st).2.isSome = ok at hfin0 hres0
  have HRES : Hid (∀ w1, RAt w1 p (vecGo 8 st).2 → Calls Tryd.prog 58 #[rptr p, .agg #[.int .u32 a0, .int .u32 a1, .int .u32 a2, .int .u32 a3, .int .u32 a4, .int .u32 a5, .int .u32 a6, .int .u32 a7], .bool ok] w1 fun e w' => e = .returned (.agg #[.int .u32 b0, .int .u32 b1, .int .u32 b2, .int .u32 b3, .int .u32 b4, .int .u32 b5, .int .u32 b6, .int .u32 b7]) ∧ RAt w' p (vecGo 8 st).2 ∧ Keeps w1.heap.size p w1 w') := hres0
  have HFIN : Hid _ := hfin0
  have HEND : Hid _ := hend
  clear hz0 hz1 hra h hb hv hbv hs3 hres0 hfin0 hend
  go_enter Tryd.func40, Tryd.ntmps40
  go_wp2
  go_loopw [5] (fun i wr => ∃ k : Nat, k ≤ 8 ∧ i = .int .i64 k ∧ RAt wr p (vecGo k st).2 ∧ Keeps W.heap.size p W wr ∧ wr.heap[W.heap.size]? = some (.cells #[.int .u32 0, .int .u32 0, .int .u32 0, .int .u32 0, .int .u32 0, .int .u32 0, .int .u32 0, .int .u32 0] 26 (0, 0)) ∧ wr.heap[W.heap.size + 1]? = some (.cells (vrow k st) 26 (0, 0))) (fun i _ => 8 - (intOf i).toNat)
  case atStart => exact ⟨0, by omega, rfl, HA.out, hka, HZ.out.1, HZ.out.2⟩
  case round =>
    obtain ⟨k, hk, rfl, hr, hkr, hr0, hr1⟩ := hrel
    by_cases hlt : k < 8
    · have hn := wire_Num p _ m32 (small_vecGo hs k) wr hr
      have hle := takeNum_le (vecGo k st).2 m32
      have hset := vrow_set k hlt st
      obtain ⟨x, hx⟩ := vrow_at k hlt st
      have hnx : (takeNum (vecGo k st).2 m32).2 = (vecGo (k + 1) st).2 := rfl
      rw [hnx] at hn
      generalize (takeNum (vecGo k st).2 m32).1 = y at hn hle hset
      rw [show m32 = 4294967295 by rfl] at hn hle
      have hcv : IntKind.u32.wrap (y : Int) = y := by rw [wrap_u32]; omega
      have HS : Hid _ := hset
      have H0 : Hid _ := hr0
      have H1 : Hid _ := hr1
      clear hset hr0 hr1 hr hnx
      go_wp2_with (go_at_call 44; refine hn.mono ?_; rintro e w1 ⟨rfl, h1, hk1⟩; have HN : Hid (RAt w1 p (vecGo (k + 1) st).2) := h1; have HN1 : Hid (w1.heap[W.heap.size + 1]? = some (.cells (vrow k st) 26 (0, 0))) := hk1.other _ _ _ _ H1.out (by decide) hp1; have HN0 : Hid _ := hk1.other _ _ _ _ H0.out (by decide) hp0; have hcx : w1.cell? ⟨W.heap.size + 1, k, none⟩ = some x := (cell_of_heap HN1.out).trans hx; have hfx : w1.frozen? ⟨W.heap.size + 1, k, none⟩ = false := free_of_heap HN1.out; clear hn h1 hx)
      go_roundw
      case rel =>
        refine ⟨k + 1, by omega, by go_num, RAt.setOwn HN.out hp1 _, (hkr.trans (hk1.mono hkr.size)).setOwn _ (by simp) _, (Below.heap_setCell _ _ _ _ (by simp)).trans HN0.out, ?_⟩
        rw [heap_setCell_same _ _ _ _ _ _ HN1.out]
        rw [HS.out]
      case measure => simp [intOf]; omega
    · have : k = 8 := by omega
      subst this
      rw [HEND.out] at hr1
      obtain ⟨c0, c1, c2, c3, c4, c5, c6, c7⟩ := cells8 hr1 (.int .u32 a0) (.int .u32 a1) (.int .u32 a2) (.int .u32 a3) (.int .u32 a4) (.int .u32 a5) (.int .u32 a6) (.int .u32 a7) rfl
      have HR : Hid (RAt wr.drew p (vecGo 8 st).2) := RAt.drew hr
      have H0 : Hid (wr.drew.heap[W.heap.size]? = _) := hr0
      clear hr hr0 hr1
      go_wp2
      go_region_with (first
        | (go_at_call 57; refine (HFIN.out _ HR.out).mono ?_; rintro e w4 ⟨rfl, rfl⟩)
        | (go_at_call 58; refine (HRES.out _ HR.out).mono ?_; rintro e w5 ⟨rfl, h5, hk5⟩; have H5 : Hid (RAt w5 p (vecGo 8 st).2) := h5; have HZ5 : Hid (w5.heap[W.heap.size]? = some (.cells #[.int .u32 0, .int .u32 0, .int .u32 0, .int .u32 0, .int .u32 0, .int .u32 0, .int .u32 0, .int .u32 0] 26 (0, 0))) := hk5.other _ _ _ _ H0.out (by decide) hp0; obtain ⟨d0, d1, d2, d3, d4, d5, d6, d7⟩ := cells8 HZ5.out (.int .u32 0) (.int .u32 0) (.int .u32 0) (.int .u32 0) (.int .u32 0) (.int .u32 0) (.int .u32 0) (.int .u32 0) rfl; have hfr := fun j => free_of_heap (j := j) HZ5.out; clear h5))
      all_goals
        have hkk : Keeps W.heap.size p W w5 := hkr.trans ((Keeps.refl wr.heap.size p wr).drew.mono hkr.size |>.trans (hk5.mono hkr.size))
        clear c0 c1 c2 c3 c4 c5 c6 c7 d0 d1 d2 d3 d4 d5 d6 d7 hfr
        go_wp2
        refine bodyPost_ret (v := .agg (vcells [b0, b1, b2, b3, b4, b5, b6, b7])) (results_cell_row rfl _ _ W.heap.size 26 (vcells [b0, b1, b2, b3, b4, b5, b6, b7]) (0, 0) _ rfl (set8_heap HZ5.out rfl _ _ _ _ _ _ _ _) Tryd.underlying26 rfl (by kernel_rfl)) rfl ⟨rfl, ?_, ?_⟩
        · iterate 8 (refine RAt.setOwn ?_ hp0 _)
          exact H5.out
        · iterate 8 (refine Keeps.setOwn ?_ _ (Nat.le_refl _) _)
          exact hkk

end Go.Proofs.YtdhdfngaldfdjaaDoor
