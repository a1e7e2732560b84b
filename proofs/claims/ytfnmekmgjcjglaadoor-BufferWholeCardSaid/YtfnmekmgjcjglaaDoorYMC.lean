/-
  What vectors cover, which are above which, the next dots, what Put makes; the document's.
-/
import Derived.Test.YtfnmekmgjcjglaaDoorYMA
namespace Go.Proofs.YtfnmekmgjcjglaaDoor.V
set_option linter.unusedVariables false
set_option linter.unusedSimpArgs false
open Go Go.RowKit Go.Maps Go.Sort
set_option maxRecDepth 100000
set_option linter.unusedVariables false
set_option linter.unusedSimpArgs false
set_option maxRecDepth 100000
set_option linter.unusedVariables false
set_option linter.unusedSimpArgs false
def nextE (v : Vec) (r : Nat) : Int := if 8 ≤ r then 2 else if v r = 4294967295 then 6 else 0
def nextD (v : Vec) (r : Nat) : Dot := if 8 ≤ r then (0, 0) else if v r = 4294967295 then (0, 0) else (r, v r + 1)
theorem ret_dotE {a b c d e f : Int} (h : a = b) (h' : c = d) (h'' : e = f) : Ending.returned (.tuple #[.agg #[.int .u8 a, .int .u32 c], .int .i64 e]) = .returned (.tuple #[.agg #[.int .u8 b, .int .u32 d], .int .i64 f]) := by rw [h, h', h'']
theorem cell_box1 (w : World) (v : Vec) (o : Obj) {r : Nat} (hr : r < 8) : ((w.alloc (.cells #[.int .u32 (v 0 : Int), .int .u32 (v 1 : Int), .int .u32 (v 2 : Int), .int .u32 (v 3 : Int), .int .u32 (v 4 : Int), .int .u32 (v 5 : Int), .int .u32 (v 6 : Int), .int .u32 (v 7 : Int)] 30)).alloc o).cell? ⟨w.heap.size, r, none⟩ = some (.int .u32 (v r : Int)) :=
  cellV (heap_al (heap_alloc_last' _ _) _) hr
theorem below_al3 (w : World) (a b c : Obj) : Below w.heap.size w (((w.alloc a).alloc b).alloc c) := (below_al2 w a b).alloc (by simp; omega) c
def aboveB (a b : Vec) : Bool := decide (b 0 ≤ a 0 ∧ b 1 ≤ a 1 ∧ b 2 ≤ a 2 ∧ b 3 ≤ a 3 ∧ b 4 ≤ a 4 ∧ b 5 ≤ a 5 ∧ b 6 ≤ a 6 ∧ b 7 ≤ a 7)
theorem above_iff {a b : Vec} : aboveB a b = true ↔ ∀ i, i < 8 → b i ≤ a i := by
  rw [all8 fun i => b i ≤ a i]; simp [aboveB]
def besB (a b : Vec) : Bool := !aboveB a b && !aboveB b a
def putE (v : Vec) (d : Dot) : Int := if mayD d = true then (if v d.1 + 1 = d.2 then 0 else 9) else 2
def putV (v : Vec) (d : Dot) : Vec := if mayD d = true then (if v d.1 + 1 = d.2 then upd v d.1 d.2 else zeroV) else zeroV
set_option maxHeartbeats 1000000 in
theorem vec_Covers (v : Vec) (d : Dot) (w : World) :
    Calls Tryd.prog 38 #[.agg #[.int .u32 (v 0 : Int), .int .u32 (v 1 : Int), .int .u32 (v 2 : Int), .int .u32 (v 3 : Int), .int .u32 (v 4 : Int), .int .u32 (v 5 : Int), .int .u32 (v 6 : Int), .int .u32 (v 7 : Int)], .agg #[.int .u8 (d.1 : Int), .int .u32 (d.2 : Int)]] w
      fun e w' => e = .returned (.bool (covB v d)) ∧ Below w.heap.size w w' := by
  have hmay := fun W => dot_May d W
  obtain ⟨r, n⟩ := d
  dsimp only at hmay ⊢
  unfold covB
  cases hb : mayD (r, n)
  · rw [hb] at hmay
    have HB := hid hb
    clear hb
    go_enter Tryd.func38, Tryd.ntmps38
    go_wp2
    refine wp_region_later_n (by kernel_rfl) (by kernel_rfl) ?_
    intro wd hwd
    have hc0 : ∀ p : Later wd.heap.size wd, p.val.cell? ⟨w.heap.size + 1, 0, none⟩ = some (.int .u8 (r : Int)) := fun p => cell_keep p.ok (by rw [hwd]; simp)
    have hc1 : ∀ p : Later wd.heap.size wd, p.val.cell? ⟨w.heap.size + 1, 1, none⟩ = some (.int .u32 (n : Int)) := fun p => cell_keep p.ok (by rw [hwd]; simp)
    have HW := hid (show Below w.heap.size w wd by rw [hwd]; exact below_al2 _ _ _)
    clear hwd
    repeat (go_big_quiet_step (first | (go_at_call 63; with_reducible exact Calls.later_of (Nat.le_refl _) (hmay _))))
    refine wpQuiet_nil ?_
    rintro _ ⟨p, rfl⟩
    have HP := hid p.ok
    generalize p.val = w2 at HP
    clear hc0 hc1
    go_wp2
    go_ret
    exact ⟨rfl, HW.out.trans (HP.out.mono HW.out.size)⟩
  · rw [hb] at hmay
    have hr8 : r < 8 := by simp [mayD] at hb; exact hb.1
    have HB := hid hb
    clear hb
    go_enter Tryd.func38, Tryd.ntmps38
    go_wp2
    refine wp_region_later_n (by kernel_rfl) (by kernel_rfl) ?_
    intro wd hwd
    have hc0 : ∀ p : Later wd.heap.size wd, p.val.cell? ⟨w.heap.size + 1, 0, none⟩ = some (.int .u8 (r : Int)) := fun p => cell_keep p.ok (by rw [hwd]; simp)
    have hc1 : ∀ p : Later wd.heap.size wd, p.val.cell? ⟨w.heap.size + 1, 1, none⟩ = some (.int .u32 (n : Int)) := fun p => cell_keep p.ok (by rw [hwd]; simp)
    have hc2 : ∀ p : Later wd.heap.size wd, p.val.cell? ⟨w.heap.size, r, none⟩ = some (.int .u32 (v r : Int)) := fun p => cell_keep p.ok (by rw [hwd]; exact cell_box1 _ _ _ hr8)
    have HW := hid (show Below w.heap.size w wd by rw [hwd]; exact below_al2 _ _ _)
    clear hwd
    repeat (go_big_quiet_step (first | (go_at_call 63; with_reducible exact Calls.later_of (Nat.le_refl _) (hmay _))))
    refine wpQuiet_nil ?_
    rintro _ ⟨p, rfl⟩
    have HP := hid p.ok
    generalize p.val = w2 at HP
    clear hc0 hc1 hc2
    go_wp2
    go_ret
    refine ⟨by simp, HW.out.trans (HP.out.mono HW.out.size)⟩
end Go.Proofs.YtfnmekmgjcjglaaDoor.V
namespace Go.Proofs.YtfnmekmgjcjglaaDoor.V
set_option linter.unusedVariables false
set_option linter.unusedSimpArgs false
open Go Go.RowKit Go.Maps Go.Sort
set_option maxRecDepth 100000
set_option linter.unusedVariables false
set_option linter.unusedSimpArgs false
set_option maxRecDepth 100000
set_option linter.unusedVariables false
set_option linter.unusedSimpArgs false
theorem box2_0 (w : World) (a b : Vec) : ((w.alloc (.cells #[.int .u32 (a 0 : Int), .int .u32 (a 1 : Int), .int .u32 (a 2 : Int), .int .u32 (a 3 : Int), .int .u32 (a 4 : Int), .int .u32 (a 5 : Int), .int .u32 (a 6 : Int), .int .u32 (a 7 : Int)] 30)).alloc (.cells #[.int .u32 (b 0 : Int), .int .u32 (b 1 : Int), .int .u32 (b 2 : Int), .int .u32 (b 3 : Int), .int .u32 (b 4 : Int), .int .u32 (b 5 : Int), .int .u32 (b 6 : Int), .int .u32 (b 7 : Int)] 30)).heap[w.heap.size]? = some (.cells (vc a) 30 (0, 0)) := heap_al (heap_alloc_last' _ _) _
theorem box2_1 (w : World) (a b : Vec) : ((w.alloc (.cells #[.int .u32 (a 0 : Int), .int .u32 (a 1 : Int), .int .u32 (a 2 : Int), .int .u32 (a 3 : Int), .int .u32 (a 4 : Int), .int .u32 (a 5 : Int), .int .u32 (a 6 : Int), .int .u32 (a 7 : Int)] 30)).alloc (.cells #[.int .u32 (b 0 : Int), .int .u32 (b 1 : Int), .int .u32 (b 2 : Int), .int .u32 (b 3 : Int), .int .u32 (b 4 : Int), .int .u32 (b 5 : Int), .int .u32 (b 6 : Int), .int .u32 (b 7 : Int)] 30)).heap[w.heap.size + 1]? = some (.cells (vc b) 30 (0, 0)) := last2 _ _ _
set_option maxHeartbeats 1000000 in
set_option maxRecDepth 100000 in
theorem vec_Above (a b : Vec) (w : World) :
    Calls Tryd.prog 64 #[.agg #[.int .u32 (a 0 : Int), .int .u32 (a 1 : Int), .int .u32 (a 2 : Int), .int .u32 (a 3 : Int), .int .u32 (a 4 : Int), .int .u32 (a 5 : Int), .int .u32 (a 6 : Int), .int .u32 (a 7 : Int)], .agg #[.int .u32 (b 0 : Int), .int .u32 (b 1 : Int), .int .u32 (b 2 : Int), .int .u32 (b 3 : Int), .int .u32 (b 4 : Int), .int .u32 (b 5 : Int), .int .u32 (b 6 : Int), .int .u32 (b 7 : Int)]] w
      fun e w' => e = .returned (.bool (aboveB a b)) ∧ Below w.heap.size w w' := by
  have h0 := box2_0 w a b
  have h1 := box2_1 w a b
  have hb2 := below_al2 w (.cells #[.int .u32 (a 0 : Int), .int .u32 (a 1 : Int), .int .u32 (a 2 : Int), .int .u32 (a 3 : Int), .int .u32 (a 4 : Int), .int .u32 (a 5 : Int), .int .u32 (a 6 : Int), .int .u32 (a 7 : Int)] 30) (.cells #[.int .u32 (b 0 : Int), .int .u32 (b 1 : Int), .int .u32 (b 2 : Int), .int .u32 (b 3 : Int), .int .u32 (b 4 : Int), .int .u32 (b 5 : Int), .int .u32 (b 6 : Int), .int .u32 (b 7 : Int)] 30)
  have H0 := hid (And.intro h0 (And.intro h1 hb2))
  clear h0 h1 hb2
  go_enter Tryd.func64, Tryd.ntmps64
  go_wp2
  go_loopw [6] (fun i wr => ∃ k : Nat, k ≤ 8 ∧ i = .int .i64 k ∧ wr.heap[w.heap.size]? = some (.cells (vc a) 30 (0, 0)) ∧ wr.heap[w.heap.size + 1]? = some (.cells (vc b) 30 (0, 0)) ∧ (∀ j, j < k → b j ≤ a j) ∧ Below w.heap.size w wr) (fun i _ => 8 - (intOf i).toNat)
  case atStart => exact ⟨0, by omega, rfl, H0.out.1, H0.out.2.1, fun j hj => absurd hj (by omega), H0.out.2.2⟩
  case round =>
    obtain ⟨k, hk, rfl, hx, hy, hall, hB⟩ := hrel
    by_cases hlt : k < 8
    · have c0 := cellV hx hlt
      have c1 := cellV hy hlt
      have HX := hid (And.intro hx (And.intro hy hall))
      clear hx hy hall
      by_cases hle : b k ≤ a k
      · go_wp2
        go_quiet (fail)
        go_wp2
        go_roundw
        case rel =>
          refine ⟨k + 1, by omega, by go_num, HX.out.1, HX.out.2.1, fun j hj => ?_, hB.trans (below_drewN _ _ _)⟩
          by_cases hjk : j = k
          · rw [hjk]; exact hle
          · exact HX.out.2.2 j (by omega)
        case measure => simp [intOf]; omega
      · go_wp2
        go_quiet (fail)
        go_wp2
        go_ret
        refine ⟨?_, hB.trans (below_drewN _ _ _)⟩
        have : aboveB a b = false := by
          cases hc : aboveB a b
          · rfl
          · exact absurd (above_iff.1 hc k hlt) hle
        rw [this]; rfl
    · obtain rfl : k = 8 := by omega
      have HX := hid hall
      clear hall
      go_wp2
      go_ret
      refine ⟨?_, hB⟩
      rw [above_iff.2 HX.out]; rfl
end Go.Proofs.YtfnmekmgjcjglaaDoor.V
