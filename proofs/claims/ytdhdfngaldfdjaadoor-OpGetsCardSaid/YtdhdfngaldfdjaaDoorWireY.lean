/-
  Contracts of the document's answer for package wire: vectors read.
-/
import Derived.Test.YtdhdfngaldfdjaaDoorWireX
namespace Go.Proofs.YtdhdfngaldfdjaaDoor
open Go Go.RowKit Wire

set_option maxRecDepth 100000
set_option linter.unusedVariables false
set_option linter.unusedSimpArgs false
theorem last_four (W : World) (a b c d : Obj) : ((((W.alloc a).alloc b).alloc c).alloc d).heap[W.heap.size + 3]? = some d := by
  have := heap_alloc_last (((W.alloc a).alloc b).alloc c) d
  rw [World.size_alloc, World.size_alloc, World.size_alloc] at this
  exact this

theorem drew_heap (w : World) : w.drew.heap = w.heap := rfl
theorem set82a {w : World} {b1 b2 : Nat} {t1 t2 : TypeId} {z0 z1 z2 z3 z4 z5 z6 z7 y0 y1 : Value} (hne : b1 ≠ b2) (h1 : w.heap[b1]? = some (.cells #[z0, z1, z2, z3, z4, z5, z6, z7] t1 (0, 0))) (h2 : w.heap[b2]? = some (.cells #[y0, y1] t2 (0, 0))) (a0 a1 a2 a3 a4 a5 a6 a7 c0 c1 : Value) :
    ((((((((((w.setCell ⟨b1, 0, none⟩ a0).setCell ⟨b1, 1, none⟩ a1).setCell ⟨b1, 2, none⟩ a2).setCell ⟨b1, 3, none⟩ a3).setCell ⟨b1, 4, none⟩ a4).setCell ⟨b1, 5, none⟩ a5).setCell ⟨b1, 6, none⟩ a6).setCell ⟨b1, 7, none⟩ a7).setCell ⟨b2, 0, none⟩ c0).setCell ⟨b2, 1, none⟩ c1).heap[b1]? = some (.cells #[a0, a1, a2, a3, a4, a5, a6, a7] t1 (0, 0)) ∧ ((((((((((w.setCell ⟨b1, 0, none⟩ a0).setCell ⟨b1, 1, none⟩ a1).setCell ⟨b1, 2, none⟩ a2).setCell ⟨b1, 3, none⟩ a3).setCell ⟨b1, 4, none⟩ a4).setCell ⟨b1, 5, none⟩ a5).setCell ⟨b1, 6, none⟩ a6).setCell ⟨b1, 7, none⟩ a7).setCell ⟨b2, 0, none⟩ c0).setCell ⟨b2, 1, none⟩ c1).heap[b2]? = some (.cells #[c0, c1] t2 (0, 0)) := by
  constructor
  · rw [Below.heap_setCell _ _ _ _ hne, Below.heap_setCell _ _ _ _ hne]
    exact set8_heap h1 rfl a0 a1 a2 a3 a4 a5 a6 a7
  · refine set2_heap (z0 := y0) (z1 := y1) ?_ c0 c1
    rw [Below.heap_setCell _ _ _ _ (Ne.symm hne), Below.heap_setCell _ _ _ _ (Ne.symm hne), Below.heap_setCell _ _ _ _ (Ne.symm hne), Below.heap_setCell _ _ _ _ (Ne.symm hne), Below.heap_setCell _ _ _ _ (Ne.symm hne), Below.heap_setCell _ _ _ _ (Ne.symm hne), Below.heap_setCell _ _ _ _ (Ne.symm hne), Below.heap_setCell _ _ _ _ (Ne.symm hne)]
    exact h2
theorem set82b {w : World} {b1 b2 : Nat} {t1 t2 : TypeId} {z0 z1 z2 z3 z4 z5 z6 z7 y0 y1 : Value} (hne : b1 ≠ b2) (h1 : w.heap[b1]? = some (.cells #[z0, z1, z2, z3, z4, z5, z6, z7] t1 (0, 0))) (h2 : w.heap[b2]? = some (.cells #[y0, y1] t2 (0, 0))) (a0 a1 a2 a3 a4 a5 a6 a7 c0 c1 : Value) :
    ((((((((((w.setCell ⟨b2, 0, none⟩ c0).setCell ⟨b2, 1, none⟩ c1).setCell ⟨b1, 0, none⟩ a0).setCell ⟨b1, 1, none⟩ a1).setCell ⟨b1, 2, none⟩ a2).setCell ⟨b1, 3, none⟩ a3).setCell ⟨b1, 4, none⟩ a4).setCell ⟨b1, 5, none⟩ a5).setCell ⟨b1, 6, none⟩ a6).setCell ⟨b1, 7, none⟩ a7).heap[b1]? = some (.cells #[a0, a1, a2, a3, a4, a5, a6, a7] t1 (0, 0)) ∧ ((((((((((w.setCell ⟨b2, 0, none⟩ c0).setCell ⟨b2, 1, none⟩ c1).setCell ⟨b1, 0, none⟩ a0).setCell ⟨b1, 1, none⟩ a1).setCell ⟨b1, 2, none⟩ a2).setCell ⟨b1, 3, none⟩ a3).setCell ⟨b1, 4, none⟩ a4).setCell ⟨b1, 5, none⟩ a5).setCell ⟨b1, 6, none⟩ a6).setCell ⟨b1, 7, none⟩ a7).heap[b2]? = some (.cells #[c0, c1] t2 (0, 0)) := by
  constructor
  · exact set8_heap ((Below.heap_setCell _ _ _ _ hne).trans ((Below.heap_setCell _ _ _ _ hne).trans h1)) rfl a0 a1 a2 a3 a4 a5 a6 a7
  · rw [Below.heap_setCell _ _ _ _ (Ne.symm hne), Below.heap_setCell _ _ _ _ (Ne.symm hne), Below.heap_setCell _ _ _ _ (Ne.symm hne), Below.heap_setCell _ _ _ _ (Ne.symm hne), Below.heap_setCell _ _ _ _ (Ne.symm hne), Below.heap_setCell _ _ _ _ (Ne.symm hne), Below.heap_setCell _ _ _ _ (Ne.symm hne), Below.heap_setCell _ _ _ _ (Ne.symm hne)]
    exact set2_heap h2 c0 c1

theorem set82d {w : World} {b1 b2 : Nat} {t1 t2 : TypeId} {z0 z1 z2 z3 z4 z5 z6 z7 y0 y1 : Value} (hne : b1 ≠ b2) (h1 : w.heap[b1]? = some (.cells #[z0, z1, z2, z3, z4, z5, z6, z7] t1 (0, 0))) (h2 : w.heap[b2]? = some (.cells #[y0, y1] t2 (0, 0))) (a0 a1 a2 a3 a4 a5 a6 a7 c0 c1 : Value) :
    ((((((((((w.setCell ⟨b1, 0, none⟩ a0).setCell ⟨b1, 1, none⟩ a1).setCell ⟨b1, 2, none⟩ a2).setCell ⟨b1, 3, none⟩ a3).setCell ⟨b1, 4, none⟩ a4).setCell ⟨b1, 5, none⟩ a5).setCell ⟨b1, 6, none⟩ a6).setCell ⟨b1, 7, none⟩ a7).setCell ⟨b2, 0, none⟩ c0).setCell ⟨b2, 1, none⟩ c1).drew.heap[b1]? = some (.cells #[a0, a1, a2, a3, a4, a5, a6, a7] t1 (0, 0)) ∧ ((((((((((w.setCell ⟨b1, 0, none⟩ a0).setCell ⟨b1, 1, none⟩ a1).setCell ⟨b1, 2, none⟩ a2).setCell ⟨b1, 3, none⟩ a3).setCell ⟨b1, 4, none⟩ a4).setCell ⟨b1, 5, none⟩ a5).setCell ⟨b1, 6, none⟩ a6).setCell ⟨b1, 7, none⟩ a7).setCell ⟨b2, 0, none⟩ c0).setCell ⟨b2, 1, none⟩ c1).drew.heap[b2]? = some (.cells #[c0, c1] t2 (0, 0)) := by
  rw [drew_heap]
  exact set82a hne h1 h2 a0 a1 a2 a3 a4 a5 a6 a7 c0 c1

/-- What lies in the walk's blocks behind k numbers. -/
def VAt (W w : World) (k : Nat) (st : St) : Prop :=
  w.heap[W.heap.size]? = some (.cells (rcells (vecGo k st).2) 85 (0, 0)) ∧ w.heap[W.heap.size + 1]? = some (.cells #[.int .u32 0, .int .u32 0, .int .u32 0, .int .u32 0, .int .u32 0, .int .u32 0, .int .u32 0, .int .u32 0] 26 (0, 0)) ∧ w.heap[W.heap.size + 2]? = some (.cells #[.string ⟨#[]⟩, .bool false] 85 (0, 0)) ∧ w.heap[W.heap.size + 3]? = some (.cells (vrow k st) 26 (0, 0))
theorem VAt.keep {W w w' : World} {k : Nat} {st : St} (h : VAt W w k st) (hb : Below w.heap.size w w') : VAt W w' k st :=
  ⟨kept_block h.1 hb, kept_block h.2.1 hb, kept_block h.2.2.1 hb, kept_block h.2.2.2 hb⟩
theorem VAt.alloc {W w : World} {k : Nat} {st : St} (h : VAt W w k st) (o : Obj) : VAt W (w.alloc o) k st :=
  ⟨kept_alloc h.1 o, kept_alloc h.2.1 o, kept_alloc h.2.2.1 o, kept_alloc h.2.2.2 o⟩
theorem VAt.mid {W w : World} {k : Nat} {st : St} {X : ByteArray} {f : Bool} (h : VAt W w k st) (hX : rcells (vecGo k st).2 = #[.string X, .bool f]) (y : Value) (o : Obj) :
    ((w.setCell ⟨W.heap.size + 3, k, none⟩ y).alloc o).heap[W.heap.size]? = some (.cells #[.string X, .bool f] 85 (0, 0)) := by
  have h0 := h.1
  rw [hX] at h0
  exact kept_alloc ((Below.heap_setCell _ _ _ _ (by show W.heap.size ≠ W.heap.size + 3; omega)).trans h0) o
theorem VAt.step {W w : World} {k : Nat} {st : St} {X X' : ByteArray} {f f' : Bool} (h : VAt W w k st) (hk : k < 8) (hX : rcells (vecGo k st).2 = #[.string X, .bool f]) (hX' : rcells (vecGo (k + 1) st).2 = #[.string X', .bool f']) (y : Int) (hy : y = ((takeNum (vecGo k st).2 m32).1 : Nat)) (o : Obj) :
    VAt W ((((w.setCell ⟨W.heap.size + 3, k, none⟩ (.int .u32 y)).alloc o).setCell ⟨W.heap.size, 0, none⟩ (.string X')).setCell ⟨W.heap.size, 1, none⟩ (.bool f')) (k + 1) st := by
  have hm := h.mid hX (.int .u32 y) o
  obtain ⟨h0, h1, h2, h3⟩ := h
  refine ⟨?_, ?_, ?_, ?_⟩
  · rw [hX']
    exact set2_heap hm _ _
  · rw [Below.heap_setCell _ _ _ _ (by show W.heap.size + 1 ≠ W.heap.size; omega), Below.heap_setCell _ _ _ _ (by show W.heap.size + 1 ≠ W.heap.size; omega)]
    exact kept_alloc ((Below.heap_setCell _ _ _ _ (by show W.heap.size + 1 ≠ W.heap.size + 3; omega)).trans h1) o
  · rw [Below.heap_setCell _ _ _ _ (by show W.heap.size + 2 ≠ W.heap.size; omega), Below.heap_setCell _ _ _ _ (by show W.heap.size + 2 ≠ W.heap.size; omega)]
    exact kept_alloc ((Below.heap_setCell _ _ _ _ (by show W.heap.size + 2 ≠ W.heap.size + 3; omega)).trans h2) o
  · rw [Below.heap_setCell _ _ _ _ (by show W.heap.size + 3 ≠ W.heap.size; omega), Below.heap_setCell _ _ _ _ (by show W.heap.size + 3 ≠ W.heap.size; omega)]
    refine kept_alloc ?_ o
    rw [heap_setCell_same _ _ _ _ _ _ h3, hy, vrow_set k hk st]

set_option maxHeartbeats 1000000 in
set_option maxRecDepth 100000 in
theorem ref_TakeVector (st : St) (hs : Small st) (W : World) :
    Calls Tryd.prog 64 #[.agg (rcells st)] W fun e w' => e = .returned (.tuple #[.agg (vcells (takeVec st).1), .agg (rcells (takeVec st).2)]) ∧ Below W.heap.size W w' := by
  obtain ⟨X0, f0, hX0⟩ := rcells_form st
  have hb4 : Below W.heap.size W ((((W.alloc (.cells (rcells st) 85)).alloc (.cells #[.int .u32 0, .int .u32 0, .int .u32 0, .int .u32 0, .int .u32 0, .int .u32 0, .int .u32 0, .int .u32 0] 26)).alloc (.cells #[.string ⟨#[]⟩, .bool false] 85)).alloc (.cells #[.int .u32 0, .int .u32 0, .int .u32 0, .int .u32 0, .int .u32 0, .int .u32 0, .int .u32 0, .int .u32 0] 26)) := (below_three _ _ _ _).alloc (by simp; omega) _
  have hv0 : VAt W ((((W.alloc (.cells (rcells st) 85)).alloc (.cells #[.int .u32 0, .int .u32 0, .int .u32 0, .int .u32 0, .int .u32 0, .int .u32 0, .int .u32 0, .int .u32 0] 26)).alloc (.cells #[.string ⟨#[]⟩, .bool false] 85)).alloc (.cells #[.int .u32 0, .int .u32 0, .int .u32 0, .int .u32 0, .int .u32 0, .int .u32 0, .int .u32 0, .int .u32 0] 26)) 0 st :=
    ⟨kept_alloc (first_three _ _ _ _) _, kept_alloc (mid_three _ _ _ _) _, kept_alloc (last_three _ _ _ _) _, last_four _ _ _ _ _⟩
  rw [hX0] at hb4 hv0
  have HV0 : Hid _ := hv0
  clear hv0
  rw [takeVec_is]
  obtain ⟨a0, a1, a2, a3, a4, a5, a6, a7, hv⟩ := list8 _ (vecGo_len 8 st)
  have hend := vrow_end st
  rw [hv] at hend
  obtain ⟨b0, b1, b2, b3, b4, b5, b6, b7, hbv⟩ := list8 (if (vecGo 8 st).2.isSome = true then (vecGo 8 st).1 else zeros8) (by split; exact vecGo_len 8 st; rfl)
  have hwhich : ((vecGo 8 st).2.isSome = true → (b0 = a0 ∧ b1 = a1 ∧ b2 = a2 ∧ b3 = a3 ∧ b4 = a4 ∧ b5 = a5 ∧ b6 = a6 ∧ b7 = a7)) ∧ ((vecGo 8 st).2.isSome = false → (b0 = 0 ∧ b1 = 0 ∧ b2 = 0 ∧ b3 = 0 ∧ b4 = 0 ∧ b5 = 0 ∧ b6 = 0 ∧ b7 = 0)) := by
    constructor
    · intro h; rw [if_pos h, hv] at hbv; simpa [eq_comm] using hbv
    · intro h; rw [if_neg (by rw [h]; decide)] at hbv; unfold zeros8 at hbv; simpa [eq_comm] using hbv
  rw [hbv, hX0]
  obtain ⟨XE, fE, hXE⟩ := rcells_form (vecGo 8 st).2
  have hfE : fE = (vecGo 8 st).2.isSome ∧ (fE = false → XE = ⟨#[]⟩) := by
    cases h : (vecGo 8 st).2 with
    | none => rw [h] at hXE; simp only [rcells] at hXE; simp at hXE; exact ⟨by rw [hXE.2]; rfl, fun _ => hXE.1.symm⟩
    | some r => rw [h] at hXE; simp only [rcells] at hXE; simp at hXE; exact ⟨by rw [hXE.2]; rfl, fun e => by rw [hXE.2] at e; cases e⟩
  rw [hXE]
  have HEND : Hid _ := And.intro hend (And.intro hXE (And.intro hfE hwhich))
  clear hend hv hbv hwhich hXE hfE hX0
  go_enter Tryd.func64, Tryd.ntmps64
  go_wp2
  go_loopw [5] (fun i wr => ∃ k : Nat, k ≤ 8 ∧ i = .int .i64 k ∧ VAt W wr k st ∧ Below W.heap.size W wr) (fun i _ => 8 - (intOf i).toNat)
  case atStart => exact ⟨0, by omega, rfl, HV0.out, hb4⟩
  case round =>
    obtain ⟨k, hk, rfl, hvr, hbr⟩ := hrel
    by_cases hlt : k < 8
    · have hn := fun w => ref_TakeNum _ (small_vecGo hs k) m32 w
      have hle := takeNum_le (vecGo k st).2 m32
      obtain ⟨X, f, hX⟩ := rcells_form (vecGo k st).2
      obtain ⟨X', f', hX'⟩ := rcells_form (vecGo (k + 1) st).2
      have hX'' : rcells (takeNum (vecGo k st).2 m32).2 = #[.string X', .bool f'] := hX'
      rw [hX, hX''] at hn
      obtain ⟨y, hy⟩ : ∃ y : Nat, y = (takeNum (vecGo k st).2 m32).1 := ⟨_, rfl⟩
      rw [← hy] at hn hle
      rw [show m32 = 4294967295 by rfl] at hn hle
      have hcv : IntKind.u32.wrap (y : Int) = y := by rw [wrap_u32]; omega
      obtain ⟨x, hx⟩ := vrow_at k hlt st
      have hr0 := hvr.1
      rw [hX] at hr0
      have e0 := (cell_of_heap (j := 0) hr0).trans rfl
      have e1 := (cell_of_heap (j := 1) hr0).trans rfl
      have HQ : Hid _ := And.intro hX (And.intro hX' (And.intro hx hy))
      have HV : Hid (VAt W wr k st) := hvr
      have HB : Hid (Below W.heap.size W wr) := hbr
      clear hX hX' hX'' hx hy hr0 hvr hbr
      go_wp2_with (go_at_call 66; refine (hn _).mono ?_; rintro e w1 ⟨rfl, hb1⟩; clear hn e0 e1; have HV1 : Hid (VAt W w1 k st) := HV.out.keep hb1; have HV2 : Hid (VAt W (w1.alloc (.cells #[.string X', .bool f'] 85)) k st) := HV1.out.alloc _; have g0 := HV1.out.mid HQ.out.1 (.int .u32 (y : Int)) (.cells #[.string X', .bool f'] 85); have d0 := (cell_of_heap (j := 0) g0).trans rfl; have d1 := (cell_of_heap (j := 1) g0).trans rfl; have d2 := fun j => free_of_heap (j := j) g0; have d3 := (cell_of_heap (j := k) HV2.out.2.2.2).trans HQ.out.2.2.1; have d4 := fun j => free_of_heap (j := j) HV2.out.2.2.2; have hs1 := lt_of_some HV1.out.2.2.2; have hB1 := below_next HB.out hb1; clear g0)
      go_roundw
      case rel => exact ⟨k + 1, by omega, by go_num, HV1.out.step hlt HQ.out.1 HQ.out.2.1 _ (by rw [HQ.out.2.2.2]) _, ((((hB1.setCell (by simp <;> omega) _).alloc (by simp; omega) _).setCell (by simp <;> omega) _).setCell (by simp <;> omega) _)⟩
      case measure => simp [intOf]; omega
    · have : k = 8 := by omega
      subst this
      obtain ⟨hend, hXE, ⟨hfE, hXn⟩, hw1, hw0⟩ := HEND.out
      have hv8 := hvr
      unfold VAt at hv8
      rw [hend, hXE] at hv8
      have HV : Hid _ := hv8
      have e0 := (cell_of_heap (j := 0) hv8.1).trans rfl
      have e1 := (cell_of_heap (j := 1) hv8.1).trans rfl
      rw [← hfE] at hw1 hw0
      have HB : Hid (Below W.heap.size W wr) := hbr
      clear hvr hv8 hbr hend hXE hfE
      cases fE with
      | false =>
        obtain rfl := hXn rfl
        obtain ⟨rfl, rfl, rfl, rfl, rfl, rfl, rfl, rfl⟩ := hw0 rfl
        clear hw1 hw0 hXn
        go_wp2_with (go_at_call 69; refine (ref_failed _).mono ?_; rintro e w5 ⟨rfl, hb5⟩; have HV5 : Hid (w5.heap[W.heap.size + 1]? = some (.cells #[.int .u32 0, .int .u32 0, .int .u32 0, .int .u32 0, .int .u32 0, .int .u32 0, .int .u32 0, .int .u32 0] 26 (0, 0)) ∧ w5.heap[W.heap.size + 2]? = some (.cells #[.string ⟨#[]⟩, .bool false] 85 (0, 0))) := ⟨kept_block HV.out.2.1 hb5, kept_block HV.out.2.2.1 hb5⟩; have hB5 := below_next HB.out hb5; obtain ⟨c0, c1, c2, c3, c4, c5, c6, c7⟩ := cells8 HV5.out.1 (.int .u32 0) (.int .u32 0) (.int .u32 0) (.int .u32 0) (.int .u32 0) (.int .u32 0) (.int .u32 0) (.int .u32 0) rfl; have k0 := (cell_of_heap (j := 0) HV5.out.2).trans rfl; have k1 := (cell_of_heap (j := 1) HV5.out.2).trans rfl; have fr1 := fun j => free_of_heap (j := j) HV5.out.1; have fr2 := fun j => free_of_heap (j := j) HV5.out.2)
        refine bodyPost_ret (v := .tuple #[.agg (vcells [0, 0, 0, 0, 0, 0, 0, 0]), .agg #[.string ⟨#[]⟩, .bool false]]) (results_two_rows rfl _ _ (W.heap.size + 1) (W.heap.size + 2) 26 85 (vcells [0, 0, 0, 0, 0, 0, 0, 0]) #[.string ⟨#[]⟩, .bool false] (0, 0) (0, 0) _ _ rfl (set82a (by omega) HV5.out.1 HV5.out.2 _ _ _ _ _ _ _ _ _ _).1 Tryd.underlying26 rfl (by kernel_rfl) rfl (set82a (by omega) HV5.out.1 HV5.out.2 _ _ _ _ _ _ _ _ _ _).2 Tryd.underlying85 rfl (by kernel_rfl)) rfl ⟨rfl, ?_⟩
        iterate 10 (refine Below.setCell ?_ (by simp <;> omega) _)
        exact hB5
      | true =>
        obtain ⟨rfl, rfl, rfl, rfl, rfl, rfl, rfl, rfl⟩ := hw1 rfl
        clear hw0 hw1 hXn
        obtain ⟨c0, c1, c2, c3, c4, c5, c6, c7⟩ := cells8 HV.out.2.1 (.int .u32 0) (.int .u32 0) (.int .u32 0) (.int .u32 0) (.int .u32 0) (.int .u32 0) (.int .u32 0) (.int .u32 0) rfl
        have k0 := (cell_of_heap (j := 0) HV.out.2.2.1).trans rfl
        have k1 := (cell_of_heap (j := 1) HV.out.2.2.1).trans rfl
        have fr1 := fun j => free_of_heap (j := j) HV.out.2.1
        have fr2 := fun j => free_of_heap (j := j) HV.out.2.2.1
        obtain ⟨v0, v1, v2, v3, v4, v5, v6, v7⟩ := cells8 HV.out.2.2.2 (.int .u32 b0) (.int .u32 b1) (.int .u32 b2) (.int .u32 b3) (.int .u32 b4) (.int .u32 b5) (.int .u32 b6) (.int .u32 b7) rfl
        go_wp2
        go_region
        all_goals
          clear c0 c1 c2 c3 c4 c5 c6 c7 k0 k1 fr1 fr2 v0 v1 v2 v3 v4 v5 v6 v7 e0 e1
          go_wp2
          refine bodyPost_ret (v := .tuple #[.agg (vcells [b0, b1, b2, b3, b4, b5, b6, b7]), .agg #[.string XE, .bool true]]) (results_two_rows rfl _ _ (W.heap.size + 1) (W.heap.size + 2) 26 85 (vcells [b0, b1, b2, b3, b4, b5, b6, b7]) #[.string XE, .bool true] (0, 0) (0, 0) _ _ rfl (set82d (by omega) HV.out.2.1 HV.out.2.2.1 _ _ _ _ _ _ _ _ _ _).1 Tryd.underlying26 rfl (by kernel_rfl) rfl (set82d (by omega) HV.out.2.1 HV.out.2.2.1 _ _ _ _ _ _ _ _ _ _).2 Tryd.underlying85 rfl (by kernel_rfl)) rfl ⟨rfl, ?_⟩
          refine Below.drew ?_
          iterate 10 (refine Below.setCell ?_ (by simp <;> omega) _)
          exact HB.out

end Go.Proofs.YtdhdfngaldfdjaaDoor
