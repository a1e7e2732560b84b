/-
  What vectors cover, which are above which, the next dots, what Put makes; the document's.
-/
import Derived.Test.YtckfdjfcikljaaaVVec
namespace Go.Proofs.Ytckfdjfcikljaaa
set_option linter.unusedVariables false
set_option linter.unusedSimpArgs false
open Go Go.RowKit Go.Maps Go.Sort

def nextE (v : Vec) (r : Nat) : Int := if 8 ≤ r then 2 else if v r = 4294967295 then 6 else 0
def nextD (v : Vec) (r : Nat) : Dot := if 8 ≤ r then (0, 0) else if v r = 4294967295 then (0, 0) else (r, v r + 1)

theorem ret_dotE {a b c d e f : Int} (h : a = b) (h' : c = d) (h'' : e = f) : Ending.returned (.tuple #[.agg #[.int .u8 a, .int .u32 c], .int .i64 e]) = .returned (.tuple #[.agg #[.int .u8 b, .int .u32 d], .int .i64 f]) := by rw [h, h', h'']
theorem cell_box1 (w : World) (v : Vec) (o : Obj) {r : Nat} (hr : r < 8) : ((w.alloc (.cells #[.int .u32 (v 0 : Int), .int .u32 (v 1 : Int), .int .u32 (v 2 : Int), .int .u32 (v 3 : Int), .int .u32 (v 4 : Int), .int .u32 (v 5 : Int), .int .u32 (v 6 : Int), .int .u32 (v 7 : Int)] 24)).alloc o).cell? ⟨w.heap.size, r, none⟩ = some (.int .u32 (v r : Int)) :=
  cellV (heap_al (heap_alloc_last' _ _) _) hr
theorem below_al2 (w : World) (a b : Obj) : Below w.heap.size w ((w.alloc a).alloc b) := ((Below.refl _ _).alloc (Nat.le_refl _) a).alloc (by simp) b
theorem below_al3 (w : World) (a b c : Obj) : Below w.heap.size w (((w.alloc a).alloc b).alloc c) := (below_al2 w a b).alloc (by simp; omega) c
theorem last2 (w : World) (a b : Obj) : ((w.alloc a).alloc b).heap[w.heap.size + 1]? = some b := by
  have h := heap_alloc_last' (w.alloc a) b
  rw [World.size_alloc] at h
  exact h
theorem last3 (w : World) (a b c : Obj) : (((w.alloc a).alloc b).alloc c).heap[w.heap.size + 2]? = some c := by
  have h := last2 (w.alloc a) b c
  rw [World.size_alloc] at h
  exact h
def aboveB (a b : Vec) : Bool := decide (b 0 ≤ a 0 ∧ b 1 ≤ a 1 ∧ b 2 ≤ a 2 ∧ b 3 ≤ a 3 ∧ b 4 ≤ a 4 ∧ b 5 ≤ a 5 ∧ b 6 ≤ a 6 ∧ b 7 ≤ a 7)
theorem above_iff {a b : Vec} : aboveB a b = true ↔ ∀ i, i < 8 → b i ≤ a i := by
  rw [all8 fun i => b i ≤ a i]; simp [aboveB]
def covB (v : Vec) (d : Dot) : Bool := mayD d && decide (d.2 ≤ v d.1)
def besB (a b : Vec) : Bool := !aboveB a b && !aboveB b a
def putE (v : Vec) (d : Dot) : Int := if mayD d = true then (if v d.1 + 1 = d.2 then 0 else 9) else 2
def putV (v : Vec) (d : Dot) : Vec := if mayD d = true then (if v d.1 + 1 = d.2 then upd v d.1 d.2 else zeroV) else zeroV

set_option maxHeartbeats 1000000 in
theorem vec_Next (v : Vec) (r : Nat) (hv : okV v) (hr : r < 256) (w : World) :
    Calls Try.prog 8 #[.agg #[.int .u32 (v 0 : Int), .int .u32 (v 1 : Int), .int .u32 (v 2 : Int), .int .u32 (v 3 : Int), .int .u32 (v 4 : Int), .int .u32 (v 5 : Int), .int .u32 (v 6 : Int), .int .u32 (v 7 : Int)], .int .u8 (r : Int)] w
      fun e w' => e = .returned (.tuple #[.agg #[.int .u8 ((nextD v r).1 : Int), .int .u32 ((nextD v r).2 : Int)], .int .i64 (nextE v r)]) ∧ Below w.heap.size w w' := by
  have hvr := hv.1 r
  clear hv
  unfold nextD nextE
  by_cases h8 : 8 ≤ r
  · rw [if_pos h8, if_pos h8]
    go_enter Try.func8, Try.ntmps8
    go_wp2
    exact bodyPost_ret (results_row_tmp rfl _ _ _ _ _ _ _ _ rfl rfl (last2 _ _ _) Try.underlying26 rfl (by kernel_rfl)) rfl ⟨ret_dotE rfl rfl rfl, below_al2 _ _ _⟩
  · rw [if_neg h8, if_neg h8]
    have hc := fun o => cell_box1 w v o (r := r) (by omega)
    by_cases hm : v r = 4294967295
    · rw [if_pos hm, if_pos hm]
      have hm' : ((v r : Int) == 4294967295) = true := by simp [hm]
      go_enter Try.func8, Try.ntmps8
      go_wp2
      exact bodyPost_ret (results_row_tmp rfl _ _ _ _ _ _ _ _ rfl rfl (last2 _ _ _) Try.underlying26 rfl (by kernel_rfl)) rfl ⟨ret_dotE rfl rfl rfl, below_al2 _ _ _⟩
    · rw [if_neg hm, if_neg hm]
      have hm' : ((v r : Int) == 4294967295) = false := by simp; omega
      go_enter Try.func8, Try.ntmps8
      go_wp2
      exact bodyPost_ret (results_row_tmp rfl _ _ _ _ _ _ _ _ rfl rfl (last2 _ _ _) Try.underlying26 rfl (by kernel_rfl)) rfl ⟨ret_dotE rfl (by omega) rfl, below_al2 _ _ _⟩

set_option maxHeartbeats 1000000 in
theorem ref_Next (v : Vec) (r : Nat) (hv : okV v) (hr : r < 256) (w : World) :
    Calls Try.prog 9 #[.agg #[.int .u32 (v 0 : Int), .int .u32 (v 1 : Int), .int .u32 (v 2 : Int), .int .u32 (v 3 : Int), .int .u32 (v 4 : Int), .int .u32 (v 5 : Int), .int .u32 (v 6 : Int), .int .u32 (v 7 : Int)], .int .u8 (r : Int)] w
      fun e w' => e = .returned (.tuple #[.agg #[.int .u8 ((nextD v r).1 : Int), .int .u32 ((nextD v r).2 : Int)], .int .i64 (nextE v r)]) ∧ Below w.heap.size w w' := by
  have hvr := hv.1 r
  clear hv
  unfold nextD nextE
  by_cases h8 : 8 ≤ r
  · rw [if_pos h8, if_pos h8]
    go_enter Try.func9, Try.ntmps9
    go_wp2
    exact bodyPost_ret (results_row_tmp rfl _ _ _ _ _ _ _ _ rfl rfl (last2 _ _ _) Try.underlying26 rfl (by kernel_rfl)) rfl ⟨ret_dotE rfl rfl rfl, below_al2 _ _ _⟩
  · rw [if_neg h8, if_neg h8]
    have hc := fun o => cell_box1 w v o (r := r) (by omega)
    by_cases hm : v r = 4294967295
    · rw [if_pos hm, if_pos hm]
      have hm' : ((v r : Int) == 4294967295) = true := by simp [hm]
      go_enter Try.func9, Try.ntmps9
      go_wp2
      exact bodyPost_ret (results_row_tmp rfl _ _ _ _ _ _ _ _ rfl rfl (last2 _ _ _) Try.underlying26 rfl (by kernel_rfl)) rfl ⟨ret_dotE rfl rfl rfl, below_al2 _ _ _⟩
    · rw [if_neg hm, if_neg hm]
      have hm' : ((v r : Int) == 4294967295) = false := by simp; omega
      go_enter Try.func9, Try.ntmps9
      go_wp2
      exact bodyPost_ret (results_row_tmp rfl _ _ _ _ _ _ _ _ rfl rfl (last2 _ _ _) Try.underlying26 rfl (by kernel_rfl)) rfl ⟨ret_dotE rfl (by omega) rfl, below_al2 _ _ _⟩

set_option maxHeartbeats 1000000 in
theorem vec_Covers (v : Vec) (d : Dot) (w : World) :
    Calls Try.prog 12 #[.agg #[.int .u32 (v 0 : Int), .int .u32 (v 1 : Int), .int .u32 (v 2 : Int), .int .u32 (v 3 : Int), .int .u32 (v 4 : Int), .int .u32 (v 5 : Int), .int .u32 (v 6 : Int), .int .u32 (v 7 : Int)], .agg #[.int .u8 (d.1 : Int), .int .u32 (d.2 : Int)]] w
      fun e w' => e = .returned (.bool (covB v d)) ∧ Below w.heap.size w w' := by
  have hmay := fun W => dot_May d W
  obtain ⟨r, n⟩ := d
  dsimp only at hmay ⊢
  unfold covB
  cases hb : mayD (r, n)
  · rw [hb] at hmay
    have HB := hid hb
    clear hb
    go_enter Try.func12, Try.ntmps12
    go_wp2
    refine wp_region_later_n (by kernel_rfl) (by kernel_rfl) ?_
    intro wd hwd
    have hc0 : ∀ p : Later wd.heap.size wd, p.val.cell? ⟨w.heap.size + 1, 0, none⟩ = some (.int .u8 (r : Int)) := fun p => cell_keep p.ok (by rw [hwd]; simp)
    have hc1 : ∀ p : Later wd.heap.size wd, p.val.cell? ⟨w.heap.size + 1, 1, none⟩ = some (.int .u32 (n : Int)) := fun p => cell_keep p.ok (by rw [hwd]; simp)
    have HW := hid (show Below w.heap.size w wd by rw [hwd]; exact below_al2 _ _ _)
    clear hwd
    repeat (go_big_quiet_step (first | (go_at_call 31; with_reducible exact Calls.later_of (Nat.le_refl _) (hmay _))))
    refine wpQuiet_nil ?_
    rintro _ ⟨p, rfl⟩
    have HP := hid p.ok
    generalize p.val = w2 at HP
    clear hc0 hc1
    go_wp2
    go_ret
    exact ⟨rfl, HW.out.trans (HP.out.mono HW.out.size)⟩
  · rw [hb] at hmay
    have hr8 : r < 8 := by simp [mayD] at hb; exact hb.1
    have HB := hid hb
    clear hb
    go_enter Try.func12, Try.ntmps12
    go_wp2
    refine wp_region_later_n (by kernel_rfl) (by kernel_rfl) ?_
    intro wd hwd
    have hc0 : ∀ p : Later wd.heap.size wd, p.val.cell? ⟨w.heap.size + 1, 0, none⟩ = some (.int .u8 (r : Int)) := fun p => cell_keep p.ok (by rw [hwd]; simp)
    have hc1 : ∀ p : Later wd.heap.size wd, p.val.cell? ⟨w.heap.size + 1, 1, none⟩ = some (.int .u32 (n : Int)) := fun p => cell_keep p.ok (by rw [hwd]; simp)
    have hc2 : ∀ p : Later wd.heap.size wd, p.val.cell? ⟨w.heap.size, r, none⟩ = some (.int .u32 (v r : Int)) := fun p => cell_keep p.ok (by rw [hwd]; exact cell_box1 _ _ _ hr8)
    have HW := hid (show Below w.heap.size w wd by rw [hwd]; exact below_al2 _ _ _)
    clear hwd
    repeat (go_big_quiet_step (first | (go_at_call 31; with_reducible exact Calls.later_of (Nat.le_refl _) (hmay _))))
    refine wpQuiet_nil ?_
    rintro _ ⟨p, rfl⟩
    have HP := hid p.ok
    generalize p.val = w2 at HP
    clear hc0 hc1 hc2
    go_wp2
    go_ret
    refine ⟨by simp, HW.out.trans (HP.out.mono HW.out.size)⟩

set_option maxHeartbeats 1000000 in
theorem ref_Covers (v : Vec) (d : Dot) (w : World) :
    Calls Try.prog 13 #[.agg #[.int .u32 (v 0 : Int), .int .u32 (v 1 : Int), .int .u32 (v 2 : Int), .int .u32 (v 3 : Int), .int .u32 (v 4 : Int), .int .u32 (v 5 : Int), .int .u32 (v 6 : Int), .int .u32 (v 7 : Int)], .agg #[.int .u8 (d.1 : Int), .int .u32 (d.2 : Int)]] w
      fun e w' => e = .returned (.bool (covB v d)) ∧ Below w.heap.size w w' := by
  have hmay := fun W => ref_May d W
  obtain ⟨r, n⟩ := d
  dsimp only at hmay ⊢
  unfold covB
  cases hb : mayD (r, n)
  · rw [hb] at hmay
    have HB := hid hb
    clear hb
    go_enter Try.func13, Try.ntmps13
    go_wp2
    refine wp_region_later_n (by kernel_rfl) (by kernel_rfl) ?_
    intro wd hwd
    have hc0 : ∀ p : Later wd.heap.size wd, p.val.cell? ⟨w.heap.size + 1, 0, none⟩ = some (.int .u8 (r : Int)) := fun p => cell_keep p.ok (by rw [hwd]; simp)
    have hc1 : ∀ p : Later wd.heap.size wd, p.val.cell? ⟨w.heap.size + 1, 1, none⟩ = some (.int .u32 (n : Int)) := fun p => cell_keep p.ok (by rw [hwd]; simp)
    have HW := hid (show Below w.heap.size w wd by rw [hwd]; exact below_al2 _ _ _)
    clear hwd
    repeat (go_big_quiet_step (first | (go_at_call 32; with_reducible exact Calls.later_of (Nat.le_refl _) (hmay _))))
    refine wpQuiet_nil ?_
    rintro _ ⟨p, rfl⟩
    have HP := hid p.ok
    generalize p.val = w2 at HP
    clear hc0 hc1
    go_wp2
    go_ret
    exact ⟨rfl, HW.out.trans (HP.out.mono HW.out.size)⟩
  · rw [hb] at hmay
    have hr8 : r < 8 := by simp [mayD] at hb; exact hb.1
    have HB := hid hb
    clear hb
    go_enter Try.func13, Try.ntmps13
    go_wp2
    refine wp_region_later_n (by kernel_rfl) (by kernel_rfl) ?_
    intro wd hwd
    have hc0 : ∀ p : Later wd.heap.size wd, p.val.cell? ⟨w.heap.size + 1, 0, none⟩ = some (.int .u8 (r : Int)) := fun p => cell_keep p.ok (by rw [hwd]; simp)
    have hc1 : ∀ p : Later wd.heap.size wd, p.val.cell? ⟨w.heap.size + 1, 1, none⟩ = some (.int .u32 (n : Int)) := fun p => cell_keep p.ok (by rw [hwd]; simp)
    have hc2 : ∀ p : Later wd.heap.size wd, p.val.cell? ⟨w.heap.size, r, none⟩ = some (.int .u32 (v r : Int)) := fun p => cell_keep p.ok (by rw [hwd]; exact cell_box1 _ _ _ hr8)
    have HW := hid (show Below w.heap.size w wd by rw [hwd]; exact below_al2 _ _ _)
    clear hwd
    repeat (go_big_quiet_step (first | (go_at_call 32; with_reducible exact Calls.later_of (Nat.le_refl _) (hmay _))))
    refine wpQuiet_nil ?_
    rintro _ ⟨p, rfl⟩
    have HP := hid p.ok
    generalize p.val = w2 at HP
    clear hc0 hc1 hc2
    go_wp2
    go_ret
    refine ⟨by simp, HW.out.trans (HP.out.mono HW.out.size)⟩

end Go.Proofs.Ytckfdjfcikljaaa
