/-
  The law VectorLacks.
-/
import Derived.Test.YtmligladfmkliaaLawVM
import Derived.Test.YtmligladfmkliaaVTr
namespace Go.Proofs.Ytmligladfmkliaa
set_option linter.unusedVariables false
set_option linter.unusedSimpArgs false
open Go Go.RowKit Go.Maps
attribute [local go_sem ↓] Go.wp_at_zero Go.wp_at_succ

/-- The boxes of two vectors. -/
structure Box2 (w : World) (a b : Vec) (W : World) : Prop where
  x : W.heap[w.heap.size]? = some (.cells (vc a) 24 (0, 0))
  y : W.heap[w.heap.size + 1]? = some (.cells (vc b) 24 (0, 0))
  below : Below w.heap.size w W
theorem Box2.keep {w : World} {a b : Vec} {W W' : World} (h : Box2 w a b W) (hB : Below W.heap.size W W') : Box2 w a b W' :=
  ⟨heap_keep h.x hB, heap_keep h.y hB, h.below.trans (hB.mono h.below.size)⟩
theorem Box2.al {w : World} {a b : Vec} {W W' : World} {o : Obj} (h : Box2 w a b W) (hB : Below (W.alloc o).heap.size (W.alloc o) W') : Box2 w a b W' := h.keep (st1 hB)
theorem box2_start (w : World) (a b : Vec) : Box2 w a b ((w.alloc (.cells #[.int .u32 (a 0 : Int), .int .u32 (a 1 : Int), .int .u32 (a 2 : Int), .int .u32 (a 3 : Int), .int .u32 (a 4 : Int), .int .u32 (a 5 : Int), .int .u32 (a 6 : Int), .int .u32 (a 7 : Int)] 24)).alloc (.cells #[.int .u32 (b 0 : Int), .int .u32 (b 1 : Int), .int .u32 (b 2 : Int), .int .u32 (b 3 : Int), .int .u32 (b 4 : Int), .int .u32 (b 5 : Int), .int .u32 (b 6 : Int), .int .u32 (b 7 : Int)] 24)) :=
  ⟨box2_0 w a b, box2_1 w a b, below_al2 w _ _⟩

theorem keep_last_dr {W W' : World} {a : Obj} (hB : Below (W.alloc a).drew.heap.size (W.alloc a).drew W') : W'.heap[W.heap.size]? = some a := heap_keep (show (W.alloc a).drew.heap[W.heap.size]? = some a from heap_alloc_last' _ _) hB
/-- The box of the loop's own, and all that was there. -/
structure NowS (N : Nat) (v : Vec) (w4 W : World) : Prop where
  x : W.heap[N]? = some (.cells (vc v) 24 (0, 0))
  below : Below w4.heap.size w4 W
section
variable {N B O r m g : Nat} {sp : Option Nat} {v : Vec} {w4 W W0 : World} {R : Prop}
theorem now_all (c0 : w4.cell? ⟨B, O, sp⟩ = some (.int .u8 (r : Int))) (c1 : w4.cell? ⟨B, O + 1, none⟩ = some (.int .u32 (m : Int))) (h : NowS N v w4 W) : NowS N v w4 W ∧ World.cell? W ⟨N, 0, none⟩ = some (.int .u32 (v 0 : Int)) ∧ World.cell? W ⟨N, 1, none⟩ = some (.int .u32 (v 1 : Int)) ∧ World.cell? W ⟨N, 2, none⟩ = some (.int .u32 (v 2 : Int)) ∧ World.cell? W ⟨N, 3, none⟩ = some (.int .u32 (v 3 : Int)) ∧ World.cell? W ⟨N, 4, none⟩ = some (.int .u32 (v 4 : Int)) ∧ World.cell? W ⟨N, 5, none⟩ = some (.int .u32 (v 5 : Int)) ∧ World.cell? W ⟨N, 6, none⟩ = some (.int .u32 (v 6 : Int)) ∧ World.cell? W ⟨N, 7, none⟩ = some (.int .u32 (v 7 : Int)) ∧ World.cell? W ⟨B, O, sp⟩ = some (.int .u8 (r : Int)) ∧ World.cell? W ⟨B, O + 1, none⟩ = some (.int .u32 (m : Int)) :=
  ⟨h, cellV h.x (k := 0) (by omega), cellV h.x (k := 1) (by omega), cellV h.x (k := 2) (by omega), cellV h.x (k := 3) (by omega), cellV h.x (k := 4) (by omega), cellV h.x (k := 5) (by omega), cellV h.x (k := 6) (by omega), cellV h.x (k := 7) (by omega), cell_keep h.below c0, cell_keep h.below c1⟩
theorem now_step (c0 : w4.cell? ⟨B, O, sp⟩ = some (.int .u8 (r : Int))) (c1 : w4.cell? ⟨B, O + 1, none⟩ = some (.int .u32 (m : Int))) (hB : Below W0.heap.size W0 W) (h : NowS N v w4 W0 ∧ R) : NowS N v w4 W ∧ World.cell? W ⟨N, 0, none⟩ = some (.int .u32 (v 0 : Int)) ∧ World.cell? W ⟨N, 1, none⟩ = some (.int .u32 (v 1 : Int)) ∧ World.cell? W ⟨N, 2, none⟩ = some (.int .u32 (v 2 : Int)) ∧ World.cell? W ⟨N, 3, none⟩ = some (.int .u32 (v 3 : Int)) ∧ World.cell? W ⟨N, 4, none⟩ = some (.int .u32 (v 4 : Int)) ∧ World.cell? W ⟨N, 5, none⟩ = some (.int .u32 (v 5 : Int)) ∧ World.cell? W ⟨N, 6, none⟩ = some (.int .u32 (v 6 : Int)) ∧ World.cell? W ⟨N, 7, none⟩ = some (.int .u32 (v 7 : Int)) ∧ World.cell? W ⟨B, O, sp⟩ = some (.int .u8 (r : Int)) ∧ World.cell? W ⟨B, O + 1, none⟩ = some (.int .u32 (m : Int)) :=
  now_all c0 c1 ⟨heap_keep h.1.x hB, h.1.below.trans (hB.mono h.1.below.size)⟩
theorem now_set (c0 : w4.cell? ⟨B, O, sp⟩ = some (.int .u8 (r : Int))) (c1 : w4.cell? ⟨B, O + 1, none⟩ = some (.int .u32 (m : Int))) (hg : w4.heap.size ≤ g) (hN : N < w4.heap.size) {x0 x1 x2 x3 x4 x5 x6 x7 : Value} (h : NowS N v w4 W ∧ R) : NowS N v w4 ((((((((W.setCell ⟨g, 0, none⟩ x0).setCell ⟨g, 1, none⟩ x1).setCell ⟨g, 2, none⟩ x2).setCell ⟨g, 3, none⟩ x3).setCell ⟨g, 4, none⟩ x4).setCell ⟨g, 5, none⟩ x5).setCell ⟨g, 6, none⟩ x6).setCell ⟨g, 7, none⟩ x7) ∧ World.cell? ((((((((W.setCell ⟨g, 0, none⟩ x0).setCell ⟨g, 1, none⟩ x1).setCell ⟨g, 2, none⟩ x2).setCell ⟨g, 3, none⟩ x3).setCell ⟨g, 4, none⟩ x4).setCell ⟨g, 5, none⟩ x5).setCell ⟨g, 6, none⟩ x6).setCell ⟨g, 7, none⟩ x7) ⟨N, 0, none⟩ = some (.int .u32 (v 0 : Int)) ∧ World.cell? ((((((((W.setCell ⟨g, 0, none⟩ x0).setCell ⟨g, 1, none⟩ x1).setCell ⟨g, 2, none⟩ x2).setCell ⟨g, 3, none⟩ x3).setCell ⟨g, 4, none⟩ x4).setCell ⟨g, 5, none⟩ x5).setCell ⟨g, 6, none⟩ x6).setCell ⟨g, 7, none⟩ x7) ⟨N, 1, none⟩ = some (.int .u32 (v 1 : Int)) ∧ World.cell? ((((((((W.setCell ⟨g, 0, none⟩ x0).setCell ⟨g, 1, none⟩ x1).setCell ⟨g, 2, none⟩ x2).setCell ⟨g, 3, none⟩ x3).setCell ⟨g, 4, none⟩ x4).setCell ⟨g, 5, none⟩ x5).setCell ⟨g, 6, none⟩ x6).setCell ⟨g, 7, none⟩ x7) ⟨N, 2, none⟩ = some (.int .u32 (v 2 : Int)) ∧ World.cell? ((((((((W.setCell ⟨g, 0, none⟩ x0).setCell ⟨g, 1, none⟩ x1).setCell ⟨g, 2, none⟩ x2).setCell ⟨g, 3, none⟩ x3).setCell ⟨g, 4, none⟩ x4).setCell ⟨g, 5, none⟩ x5).setCell ⟨g, 6, none⟩ x6).setCell ⟨g, 7, none⟩ x7) ⟨N, 3, none⟩ = some (.int .u32 (v 3 : Int)) ∧ World.cell? ((((((((W.setCell ⟨g, 0, none⟩ x0).setCell ⟨g, 1, none⟩ x1).setCell ⟨g, 2, none⟩ x2).setCell ⟨g, 3, none⟩ x3).setCell ⟨g, 4, none⟩ x4).setCell ⟨g, 5, none⟩ x5).setCell ⟨g, 6, none⟩ x6).setCell ⟨g, 7, none⟩ x7) ⟨N, 4, none⟩ = some (.int .u32 (v 4 : Int)) ∧ World.cell? ((((((((W.setCell ⟨g, 0, none⟩ x0).setCell ⟨g, 1, none⟩ x1).setCell ⟨g, 2, none⟩ x2).setCell ⟨g, 3, none⟩ x3).setCell ⟨g, 4, none⟩ x4).setCell ⟨g, 5, none⟩ x5).setCell ⟨g, 6, none⟩ x6).setCell ⟨g, 7, none⟩ x7) ⟨N, 5, none⟩ = some (.int .u32 (v 5 : Int)) ∧ World.cell? ((((((((W.setCell ⟨g, 0, none⟩ x0).setCell ⟨g, 1, none⟩ x1).setCell ⟨g, 2, none⟩ x2).setCell ⟨g, 3, none⟩ x3).setCell ⟨g, 4, none⟩ x4).setCell ⟨g, 5, none⟩ x5).setCell ⟨g, 6, none⟩ x6).setCell ⟨g, 7, none⟩ x7) ⟨N, 6, none⟩ = some (.int .u32 (v 6 : Int)) ∧ World.cell? ((((((((W.setCell ⟨g, 0, none⟩ x0).setCell ⟨g, 1, none⟩ x1).setCell ⟨g, 2, none⟩ x2).setCell ⟨g, 3, none⟩ x3).setCell ⟨g, 4, none⟩ x4).setCell ⟨g, 5, none⟩ x5).setCell ⟨g, 6, none⟩ x6).setCell ⟨g, 7, none⟩ x7) ⟨N, 7, none⟩ = some (.int .u32 (v 7 : Int)) ∧ World.cell? ((((((((W.setCell ⟨g, 0, none⟩ x0).setCell ⟨g, 1, none⟩ x1).setCell ⟨g, 2, none⟩ x2).setCell ⟨g, 3, none⟩ x3).setCell ⟨g, 4, none⟩ x4).setCell ⟨g, 5, none⟩ x5).setCell ⟨g, 6, none⟩ x6).setCell ⟨g, 7, none⟩ x7) ⟨B, O, sp⟩ = some (.int .u8 (r : Int)) ∧ World.cell? ((((((((W.setCell ⟨g, 0, none⟩ x0).setCell ⟨g, 1, none⟩ x1).setCell ⟨g, 2, none⟩ x2).setCell ⟨g, 3, none⟩ x3).setCell ⟨g, 4, none⟩ x4).setCell ⟨g, 5, none⟩ x5).setCell ⟨g, 6, none⟩ x6).setCell ⟨g, 7, none⟩ x7) ⟨B, O + 1, none⟩ = some (.int .u32 (m : Int)) :=
  now_all c0 c1 ⟨heap_set8_other (by omega) h.1.x, ((((((((h.1.below.setCell (p := ⟨g, 0, none⟩) hg x0).setCell (p := ⟨g, 1, none⟩) hg x1).setCell (p := ⟨g, 2, none⟩) hg x2).setCell (p := ⟨g, 3, none⟩) hg x3).setCell (p := ⟨g, 4, none⟩) hg x4).setCell (p := ⟨g, 5, none⟩) hg x5).setCell (p := ⟨g, 6, none⟩) hg x6).setCell (p := ⟨g, 7, none⟩) hg x7)⟩
end

set_option maxHeartbeats 8000000 in
set_option maxRecDepth 100000 in
theorem law_VectorLacks (hhead : HeadOk) (a b : Vec) (w : World) (ha : okV a) (hb : okV b) :
    Calls Try.prog 7 #[.agg #[.int .u32 (a 0 : Int), .int .u32 (a 1 : Int), .int .u32 (a 2 : Int), .int .u32 (a 3 : Int), .int .u32 (a 4 : Int), .int .u32 (a 5 : Int), .int .u32 (a 6 : Int), .int .u32 (a 7 : Int)], .agg #[.int .u32 (b 0 : Int), .int .u32 (b 1 : Int), .int .u32 (b 2 : Int), .int .u32 (b 3 : Int), .int .u32 (b 4 : Int), .int .u32 (b 5 : Int), .int .u32 (b 6 : Int), .int .u32 (b 7 : Int)]] w fun e w' => e = .returned (.bool true) ∧ Below w.heap.size w w' := by
  have hM := merge2 a b
  have hS1 := fun W => vec_Count (mx a b) (ok_mx ha hb) W
  have hS2 := fun W => vec_Count a ha W
  have hL := fun W => vec_Lacks a b ha hb W
  have hC1 := fun d W => vec_Covers a d W
  have hC2 := fun d W => vec_Covers b d W
  have hP := fun j d hd W => vec_Put (nowAt a b j) d (now_ok ha hb j) hd W
  have hstep := fun j (h : j < cntTo a b 8) => lack_step ha hb h
  have hend := now_end ha hb
  have hle := sumTo_le ha 8
  have hle2 := cntTo_le (a := a) hb 8
  have HLK := hid (lackL_ok (a := a) hb)
  have HO := hid (And.intro ha hb)
  clear ha hb
  have hsum := sum_mx a b 8
  obtain ⟨c, hc⟩ : ∃ c, c = cntTo a b 8 := ⟨_, rfl⟩
  obtain ⟨sc, hsc⟩ : ∃ sc, sc = sumTo a 8 := ⟨_, rfl⟩
  obtain ⟨s2, hs2⟩ : ∃ s2, s2 = sumTo (mx a b) 8 := ⟨_, rfl⟩
  rw [← hc, ← hsc, ← hs2] at hsum
  rw [← hs2] at hS1
  rw [← hsc] at hS2 hle
  rw [← hc] at hle2 hend
  have hsub : ((s2 : Int) - (sc : Int)) % 18446744073709551616 = (c : Int) := by omega
  have H0 := hid (box2_start w a b)
  unfold LackPost lackE lackL at hL
  unfold lackL at HLK
  rw [← hc] at hL HLK
  rw [← hc] at hstep
  clear hsum hs2 hsc hle
  go_enter Try.func7, Try.ntmps7
  go_wp2_with (first
    | (go_at_call 24; (with_reducible refine (hM _ _ ?_).mono ?_); (focus (repeat' (first | with_reducible assumption | ((with_reducible refine new2 _ _ _ _ ?_ HO.out.1 HO.out.2); (first | rfl | (simp; done))) | with_reducible refine VecsV.al ?_ _ | with_reducible refine VecsV.dr ?_))); rintro e w1 ⟨rfl, hB⟩; have HB1 := hid (Box2.al H0.out hB); clear hB))
  refine wp_region_later_n (by kernel_rfl) (by kernel_rfl) ?_
  intro wd hwd
  have HBd := hid (show Box2 w a b wd by rw [hwd]; exact HB1.out.keep (below_al _ _))
  have HUd := hid (show wd.heap[w1.heap.size]? = some (.cells (vc (mx a b)) 24 (0, 0)) by rw [hwd]; exact heap_alloc_last' _ _)
  clear hwd HB1
  have fa0 : ∀ p : Later wd.heap.size wd, p.val.cell? ⟨w.heap.size, 0, none⟩ = some (.int .u32 (a 0 : Int)) := fun p => cellV (heap_keep HBd.out.x p.ok) (by omega)
  have fa1 : ∀ p : Later wd.heap.size wd, p.val.cell? ⟨w.heap.size, 1, none⟩ = some (.int .u32 (a 1 : Int)) := fun p => cellV (heap_keep HBd.out.x p.ok) (by omega)
  have fa2 : ∀ p : Later wd.heap.size wd, p.val.cell? ⟨w.heap.size, 2, none⟩ = some (.int .u32 (a 2 : Int)) := fun p => cellV (heap_keep HBd.out.x p.ok) (by omega)
  have fa3 : ∀ p : Later wd.heap.size wd, p.val.cell? ⟨w.heap.size, 3, none⟩ = some (.int .u32 (a 3 : Int)) := fun p => cellV (heap_keep HBd.out.x p.ok) (by omega)
  have fa4 : ∀ p : Later wd.heap.size wd, p.val.cell? ⟨w.heap.size, 4, none⟩ = some (.int .u32 (a 4 : Int)) := fun p => cellV (heap_keep HBd.out.x p.ok) (by omega)
  have fa5 : ∀ p : Later wd.heap.size wd, p.val.cell? ⟨w.heap.size, 5, none⟩ = some (.int .u32 (a 5 : Int)) := fun p => cellV (heap_keep HBd.out.x p.ok) (by omega)
  have fa6 : ∀ p : Later wd.heap.size wd, p.val.cell? ⟨w.heap.size, 6, none⟩ = some (.int .u32 (a 6 : Int)) := fun p => cellV (heap_keep HBd.out.x p.ok) (by omega)
  have fa7 : ∀ p : Later wd.heap.size wd, p.val.cell? ⟨w.heap.size, 7, none⟩ = some (.int .u32 (a 7 : Int)) := fun p => cellV (heap_keep HBd.out.x p.ok) (by omega)
  have fu0 : ∀ p : Later wd.heap.size wd, p.val.cell? ⟨w1.heap.size, 0, none⟩ = some (.int .u32 (mx a b 0 : Int)) := fun p => cellV (heap_keep HUd.out p.ok) (by omega)
  have fu1 : ∀ p : Later wd.heap.size wd, p.val.cell? ⟨w1.heap.size, 1, none⟩ = some (.int .u32 (mx a b 1 : Int)) := fun p => cellV (heap_keep HUd.out p.ok) (by omega)
  have fu2 : ∀ p : Later wd.heap.size wd, p.val.cell? ⟨w1.heap.size, 2, none⟩ = some (.int .u32 (mx a b 2 : Int)) := fun p => cellV (heap_keep HUd.out p.ok) (by omega)
  have fu3 : ∀ p : Later wd.heap.size wd, p.val.cell? ⟨w1.heap.size, 3, none⟩ = some (.int .u32 (mx a b 3 : Int)) := fun p => cellV (heap_keep HUd.out p.ok) (by omega)
  have fu4 : ∀ p : Later wd.heap.size wd, p.val.cell? ⟨w1.heap.size, 4, none⟩ = some (.int .u32 (mx a b 4 : Int)) := fun p => cellV (heap_keep HUd.out p.ok) (by omega)
  have fu5 : ∀ p : Later wd.heap.size wd, p.val.cell? ⟨w1.heap.size, 5, none⟩ = some (.int .u32 (mx a b 5 : Int)) := fun p => cellV (heap_keep HUd.out p.ok) (by omega)
  have fu6 : ∀ p : Later wd.heap.size wd, p.val.cell? ⟨w1.heap.size, 6, none⟩ = some (.int .u32 (mx a b 6 : Int)) := fun p => cellV (heap_keep HUd.out p.ok) (by omega)
  have fu7 : ∀ p : Later wd.heap.size wd, p.val.cell? ⟨w1.heap.size, 7, none⟩ = some (.int .u32 (mx a b 7 : Int)) := fun p => cellV (heap_keep HUd.out p.ok) (by omega)
  repeat (go_big_quiet_step (first | (go_at_call 17; with_reducible exact Calls.later_of (Nat.le_refl _) (hS1 _)) | (go_at_call 17; with_reducible exact Calls.later_of (Nat.le_refl _) (hS2 _))))
  refine wpQuiet_nil ?_
  rintro _ ⟨p, rfl⟩
  have HB2 := hid (HBd.out.keep p.ok)
  have HU2 := hid (heap_keep HUd.out p.ok)
  generalize p.val = w2 at HB2 HU2
  clear fa0 fa1 fa2 fa3 fa4 fa5 fa6 fa7 fu0 fu1 fu2 fu3 fu4 fu5 fu6 fu7 HBd HUd hS1 hS2 hM H0
  obtain ⟨g0, g1, g2, g3, g4, g5, g6, g7⟩ := cells8 HB2.out.x
  obtain ⟨h0, h1, h2, h3, h4, h5, h6, h7⟩ := cells8 HB2.out.y
  rw [show IntKind.u64.wrap ((s2 : Int) - (sc : Int)) = (c : Int) from hsub]
  clear hsub
  by_cases hbig : c ≤ 65536
  · simp only [if_pos hbig] at hL HLK
    have hb0 : (c : Int) ≤ 65536 := by omega
    have hb1 : ¬ (65536 : Int) < c := by omega
    have hb2 : (c : Int) % 18446744073709551616 = c := by omega
    have hlen : (lackTo a b 8).length = c := by rw [lackTo_length, hc]
    have HLEN := hid hlen
    clear hlen hle2 hc
    by_cases hmid : c ≤ 300
    · have hb3 : (c : Int) ≤ 300 := by omega
      have hb4 : ¬ (300 : Int) < c := by omega
      go_wp2_with (first
        | (go_at_call 19; (with_reducible refine (hL _).mono ?_); rintro e w3 ⟨v3, rfl, hr, hB⟩; obtain ⟨ad, len, cap, rfl, hI⟩ := owns_dotsV hr HLK.out; obtain rfl : c = len := HLEN.out.symm.trans hI.1; have HI3 := hid hI; have HB3 := hid (HB2.out.keep hB); have HU3 := hid (heap_keep HU2.out hB); obtain ⟨i0, i1, i2, i3, i4, i5, i6, i7⟩ := cells8 HB3.out.x; clear hB hr hI g0 g1 g2 g3 g4 g5 g6 g7 h0 h1 h2 h3 h4 h5 h6 h7)
        | (go_at_call 23; (with_reducible refine (hhead _).mono ?_); rintro e wh ⟨rfl, hB⟩))
      have HEND := hid hend
      clear hend
      go_loopw [10] (fun i wr => ∃ j : Nat, j ≤ c ∧ i = .int .i64 j ∧ wr.heap[w3.heap.size]? = some (.cells (vc (nowAt a b j)) 24 (0, 0)) ∧ Below w3.heap.size w3 wr) (fun i _ => c - (intOf i).toNat)
      case atStart => exact ⟨0, by omega, rfl, by rw [now_zero]; exact heap_alloc_last' _ _, below_al _ _⟩
      case round =>
        obtain ⟨j, hj, rfl, hn, hB⟩ := hrel
        have hcap : (c : Int) ≤ 9223372036854775807 := by omega
        by_cases hlt : j < c
        · cases ad with
          | none => have := HI3.out.none_len; omega
          | some ad =>
            obtain ⟨d, hd1, hok, hca, hcb, hpv, hpe⟩ := hstep j hlt
            obtain ⟨r, m, B, O, sp, hx, _, _, hA, hc0, hc1⟩ := (HI3.out.keep hB).at j hlt
            obtain rfl : d = (r, m) := by rw [hd1] at hx; exact Option.some.inj hx
            have hC1' := hC1 (r, m)
            have hC2' := hC2 (r, m)
            have hP' := fun W => hP j (r, m) hok W
            rw [hca] at hC1'
            rw [hcb] at hC2'
            rw [hpv, hpe] at hP'
            dsimp only at hC1' hC2' hP'
            obtain ⟨nx, hnx⟩ : ∃ nx, nx = nowAt a b (j + 1) := ⟨_, rfl⟩
            obtain ⟨ny, hny⟩ : ∃ ny, ny = nowAt a b j := ⟨_, rfl⟩
            rw [← hnx, ← hny] at hP'
            rw [← hny] at hn
            have HNX := hid hnx
            have HBr := hid (HB3.out.keep hB)
            have HUr := hid (heap_keep HU3.out hB)
            have HNr := hid (And.intro hn (And.intro hB (And.intro hc0 hc1)))
            clear hnx hny hpv hpe hca hcb hok hd1 hx hC1 hC2 hP hstep hn hB hc0 hc1 hb0 hb1 hb2 hb3 hb4
            go_wp2
            refine wp_region_later_n (by kernel_rfl) (by kernel_rfl) ?_
            intro wd hwd
            have HBd := hid (show Box2 w a b wd by rw [hwd]; exact HBr.out)
            have HNd := hid (show wd.heap[w3.heap.size]? = some (.cells (vc ny) 24 (0, 0)) ∧ Below w3.heap.size w3 wd ∧ wd.cell? ⟨B, O, sp⟩ = some (.int .u8 (r : Int)) ∧ wd.cell? ⟨B, O + 1, none⟩ = some (.int .u32 (m : Int)) by rw [hwd]; exact ⟨HNr.out.1, HNr.out.2.1, HNr.out.2.2.1, HNr.out.2.2.2⟩)
            clear hwd
            have fa0 : ∀ p : Later wd.heap.size wd, p.val.cell? ⟨w.heap.size, 0, none⟩ = some (.int .u32 (a 0 : Int)) := fun p => cellV (heap_keep HBd.out.x p.ok) (by omega)
            have fa1 : ∀ p : Later wd.heap.size wd, p.val.cell? ⟨w.heap.size, 1, none⟩ = some (.int .u32 (a 1 : Int)) := fun p => cellV (heap_keep HBd.out.x p.ok) (by omega)
            have fa2 : ∀ p : Later wd.heap.size wd, p.val.cell? ⟨w.heap.size, 2, none⟩ = some (.int .u32 (a 2 : Int)) := fun p => cellV (heap_keep HBd.out.x p.ok) (by omega)
            have fa3 : ∀ p : Later wd.heap.size wd, p.val.cell? ⟨w.heap.size, 3, none⟩ = some (.int .u32 (a 3 : Int)) := fun p => cellV (heap_keep HBd.out.x p.ok) (by omega)
            have fa4 : ∀ p : Later wd.heap.size wd, p.val.cell? ⟨w.heap.size, 4, none⟩ = some (.int .u32 (a 4 : Int)) := fun p => cellV (heap_keep HBd.out.x p.ok) (by omega)
            have fa5 : ∀ p : Later wd.heap.size wd, p.val.cell? ⟨w.heap.size, 5, none⟩ = some (.int .u32 (a 5 : Int)) := fun p => cellV (heap_keep HBd.out.x p.ok) (by omega)
            have fa6 : ∀ p : Later wd.heap.size wd, p.val.cell? ⟨w.heap.size, 6, none⟩ = some (.int .u32 (a 6 : Int)) := fun p => cellV (heap_keep HBd.out.x p.ok) (by omega)
            have fa7 : ∀ p : Later wd.heap.size wd, p.val.cell? ⟨w.heap.size, 7, none⟩ = some (.int .u32 (a 7 : Int)) := fun p => cellV (heap_keep HBd.out.x p.ok) (by omega)
            have fb0 : ∀ p : Later wd.heap.size wd, p.val.cell? ⟨w.heap.size + 1, 0, none⟩ = some (.int .u32 (b 0 : Int)) := fun p => cellV (heap_keep HBd.out.y p.ok) (by omega)
            have fb1 : ∀ p : Later wd.heap.size wd, p.val.cell? ⟨w.heap.size + 1, 1, none⟩ = some (.int .u32 (b 1 : Int)) := fun p => cellV (heap_keep HBd.out.y p.ok) (by omega)
            have fb2 : ∀ p : Later wd.heap.size wd, p.val.cell? ⟨w.heap.size + 1, 2, none⟩ = some (.int .u32 (b 2 : Int)) := fun p => cellV (heap_keep HBd.out.y p.ok) (by omega)
            have fb3 : ∀ p : Later wd.heap.size wd, p.val.cell? ⟨w.heap.size + 1, 3, none⟩ = some (.int .u32 (b 3 : Int)) := fun p => cellV (heap_keep HBd.out.y p.ok) (by omega)
            have fb4 : ∀ p : Later wd.heap.size wd, p.val.cell? ⟨w.heap.size + 1, 4, none⟩ = some (.int .u32 (b 4 : Int)) := fun p => cellV (heap_keep HBd.out.y p.ok) (by omega)
            have fb5 : ∀ p : Later wd.heap.size wd, p.val.cell? ⟨w.heap.size + 1, 5, none⟩ = some (.int .u32 (b 5 : Int)) := fun p => cellV (heap_keep HBd.out.y p.ok) (by omega)
            have fb6 : ∀ p : Later wd.heap.size wd, p.val.cell? ⟨w.heap.size + 1, 6, none⟩ = some (.int .u32 (b 6 : Int)) := fun p => cellV (heap_keep HBd.out.y p.ok) (by omega)
            have fb7 : ∀ p : Later wd.heap.size wd, p.val.cell? ⟨w.heap.size + 1, 7, none⟩ = some (.int .u32 (b 7 : Int)) := fun p => cellV (heap_keep HBd.out.y p.ok) (by omega)
            have fd0 : ∀ p : Later wd.heap.size wd, p.val.cell? ⟨B, O, sp⟩ = some (.int .u8 (r : Int)) := fun p => cell_keep p.ok HNd.out.2.2.1
            have fd1 : ∀ p : Later wd.heap.size wd, p.val.cell? ⟨B, O + 1, none⟩ = some (.int .u32 (m : Int)) := fun p => cell_keep p.ok HNd.out.2.2.2
            repeat (go_big_quiet_step (first | (go_at_call 12; with_reducible exact Calls.later_of (Nat.le_refl _) (hC1' _)) | (go_at_call 12; with_reducible exact Calls.later_of (Nat.le_refl _) (hC2' _))))
            refine wpQuiet_nil ?_
            rintro _ ⟨p, rfl⟩
            have HB4 := hid (HBd.out.keep p.ok)
            have hn4 := heap_keep HNd.out.1 p.ok
            have hb4 := HNd.out.2.1.trans (p.ok.mono HNd.out.2.1.size)
            have hc04 := fd0 p
            have hc14 := fd1 p
            generalize p.val = w4 at HB4 hn4 hb4 hc04 hc14
            clear fa0 fa1 fa2 fa3 fa4 fa5 fa6 fa7 fb0 fb1 fb2 fb3 fb4 fb5 fb6 fb7 fd0 fd1 HBd HNd HNr HBr HUr
            have HH := hid (And.intro hn4 (And.intro hb4 (And.intro hc04 hc14)))
            have hlt4 : w3.heap.size < w4.heap.size := (Array.getElem?_eq_some_iff.1 hn4).1
            have hall := now_all hc04 hc14 (show NowS w3.heap.size ny w4 w4.drew from ⟨hn4, below_dr _⟩)
            clear hn4 hb4
            go_wp2
            refine wp_region_noPanic ?_
            refine wp_region_tree (S := (fun w' => NowS w3.heap.size ny w4 w' ∧ w'.cell? ⟨w3.heap.size, 0, none⟩ = some (.int .u32 (ny 0 : Int)) ∧ w'.cell? ⟨w3.heap.size, 1, none⟩ = some (.int .u32 (ny 1 : Int)) ∧ w'.cell? ⟨w3.heap.size, 2, none⟩ = some (.int .u32 (ny 2 : Int)) ∧ w'.cell? ⟨w3.heap.size, 3, none⟩ = some (.int .u32 (ny 3 : Int)) ∧ w'.cell? ⟨w3.heap.size, 4, none⟩ = some (.int .u32 (ny 4 : Int)) ∧ w'.cell? ⟨w3.heap.size, 5, none⟩ = some (.int .u32 (ny 5 : Int)) ∧ w'.cell? ⟨w3.heap.size, 6, none⟩ = some (.int .u32 (ny 6 : Int)) ∧ w'.cell? ⟨w3.heap.size, 7, none⟩ = some (.int .u32 (ny 7 : Int)) ∧ w'.cell? ⟨B, O, sp⟩ = some (.int .u8 (r : Int)) ∧ w'.cell? ⟨B, O + 1, none⟩ = some (.int .u32 (m : Int)))) [(0, 0), (1, 0), (2, 0), (3, 6), (4, 8), (5, 17), (6, 32), (7, 64), (8, 64), (9, 0), (10, 767), (11, 2047)] (.take 0 0 (.take 1 1 (.take 2 3 (.take 3 7 (.take 4 15 (.op 5 31 (.take 6 63 (.take 7 127 (.take 8 255 (.op 9 511 (.op 10 1023 (.take 11 2047 .nil) .stop) .stop)))) (.op 9 31 (.op 5 543 (.take 6 575 (.take 7 639 (.take 8 767 (.op 10 1023 (.take 11 2047 .nil) .stop)))) .stop) .stop))))))) (by kernel_rfl) (by kernel_rfl) (by kernel_rfl) (by kernel_rfl) (fun _ _ _ _ _ h => h) ?_ (fun hHeld => ?_)
            · exact hall
            refine tree_take (v := ?_) (at_drop rfl) rfl ?_ ?_
            rotate_left
            · (intro w' hSw; (try dsimp only at hSw); go_simp; try with_reducible rfl)
            try simp only [Act.put, List.setIfInBounds_toArray, List.set_cons_zero, List.set_cons_succ]
            refine tree_take (v := ?_) (at_drop rfl) rfl ?_ ?_
            rotate_left
            · (intro w' hSw; (try dsimp only at hSw); go_simp; try with_reducible rfl)
            try simp only [Act.put, List.setIfInBounds_toArray, List.set_cons_zero, List.set_cons_succ]
            refine tree_take (v := ?_) (at_drop rfl) rfl ?_ ?_
            rotate_left
            · (intro w' hSw; (try dsimp only at hSw); go_simp; try with_reducible rfl)
            try simp only [Act.put, List.setIfInBounds_toArray, List.set_cons_zero, List.set_cons_succ]
            refine tree_take (v := ?_) (at_drop rfl) rfl ?_ ?_
            rotate_left
            · (intro w' hSw; (try dsimp only at hSw); go_simp; try with_reducible rfl)
            try simp only [Act.put, List.setIfInBounds_toArray, List.set_cons_zero, List.set_cons_succ]
            refine tree_take (v := ?_) (at_drop rfl) rfl ?_ ?_
            rotate_left
            · (intro w' hSw; (try dsimp only at hSw); go_simp; try with_reducible rfl)
            try simp only [Act.put, List.setIfInBounds_toArray, List.set_cons_zero, List.set_cons_succ]
            refine tree_op (at_drop rfl) rfl (fun K hK => ?_) ?_
            · go_simp
              (go_at_call 10; ((with_reducible refine (hP' _).mono ?_); rintro e wm ⟨rfl, hB⟩; have hgm := hid (show w4.heap.size ≤ wm.heap.size by have := hB.size; simp at this; omega); have hSm := hid (now_step hc04 hc14 hB hHeld); try (have hlz := hid (show wm.heap[w4.heap.size]? = some (.cells (vc zeroV) 24 (0, 0)) from keep_last_dr hB); obtain ⟨z0, z1, z2, z3, z4, z5, z6, z7⟩ := cells8 (v := zeroV) hlz.out; have hfr := freeV hlz.out; have hs := lt_of_heap hlz.out)))
              refine hK.out _ _ ?_ (fun hNew => ?_)
              · exact hSm.out
              clear hHeld hK K
              have hHeld := hNew
              clear hNew
              try simp only [Act.put, List.setIfInBounds_toArray, List.set_cons_zero, List.set_cons_succ]
              refine tree_take (v := ?_) (at_drop rfl) rfl ?_ ?_
              rotate_left
              · (intro w' hSw; (try dsimp only at hSw); go_simp; try with_reducible rfl)
              try simp only [Act.put, List.setIfInBounds_toArray, List.set_cons_zero, List.set_cons_succ]
              refine tree_take (v := ?_) (at_drop rfl) rfl ?_ ?_
              rotate_left
              · (intro w' hSw; (try dsimp only at hSw); go_simp; try with_reducible rfl)
              try simp only [Act.put, List.setIfInBounds_toArray, List.set_cons_zero, List.set_cons_succ]
              refine tree_take (v := ?_) (at_drop rfl) rfl ?_ ?_
              rotate_left
              · (intro w' hSw; (try dsimp only at hSw); go_simp; try with_reducible rfl)
              try simp only [Act.put, List.setIfInBounds_toArray, List.set_cons_zero, List.set_cons_succ]
              refine tree_op (at_drop rfl) rfl (fun K hK => ?_) ?_
              · go_simp
                refine hK.out _ _ ?_ (fun hNew => ?_)
                · exact now_step hc04 hc14 (below_al _ _) hHeld
                clear hHeld hK K
                have hHeld := hNew
                clear hNew
                try simp only [Act.put, List.setIfInBounds_toArray, List.set_cons_zero, List.set_cons_succ]
                refine tree_op (at_drop rfl) rfl (fun K hK => ?_) ?_
                · go_simp
                  refine hK.out _ _ ?_ (fun hNew => ?_)
                  · exact now_step hc04 hc14 (below_al _ _) hSm.out
                  clear hHeld hK K
                  have hHeld := hNew
                  clear hNew
                  try simp only [Act.put, List.setIfInBounds_toArray, List.set_cons_zero, List.set_cons_succ]
                  refine tree_take (v := ?_) (at_drop rfl) rfl ?_ ?_
                  rotate_left
                  · (intro w' hSw; (try dsimp only at hSw); go_simp; try with_reducible rfl)
                  try simp only [Act.put, List.setIfInBounds_toArray, List.set_cons_zero, List.set_cons_succ]
                  refine NoPanic.normal ?_
                  have hx : (wm.alloc (.cells #[.int .u32 (nx 0 : Int), .int .u32 (nx 1 : Int), .int .u32 (nx 2 : Int), .int .u32 (nx 3 : Int), .int .u32 (nx 4 : Int), .int .u32 (nx 5 : Int), .int .u32 (nx 6 : Int), .int .u32 (nx 7 : Int)] 24)).heap[wm.heap.size]? = some (.cells (vc nx) 24 (0, 0)) := heap_alloc_last' _ _
                  have hz := hHeld.1
                  have HBz := hid (HB4.out.keep hz.below)
                  have hne : w3.heap.size ≠ wm.heap.size := by have := hgm.out; omega
                  generalize (wm.alloc (.cells #[.int .u32 (nx 0 : Int), .int .u32 (nx 1 : Int), .int .u32 (nx 2 : Int), .int .u32 (nx 3 : Int), .int .u32 (nx 4 : Int), .int .u32 (nx 5 : Int), .int .u32 (nx 6 : Int), .int .u32 (nx 7 : Int)] 24)) = wz at hx hz HBz ⊢
                  have HZ := hid (And.intro hx hz)
                  obtain ⟨v0, v1, v2, v3, v4, v5, v6, v7⟩ := cells8 hx
                  obtain ⟨y0, y1, y2, y3, y4, y5, y6, y7⟩ := cells8 hz.x
                  have hfn := freeV hz.x
                  have hsn := lt_of_heap hz.x
                  clear hHeld hSm hB hx hz hall hP' hC1' hC2' hc04 hc14
                  go_wp2
                  go_roundw
                  case rel =>
                    refine ⟨j + 1, by omega, by go_num, ?_, Below.set8 (HH.out.2.1.trans (HZ.out.2.below.mono HH.out.2.1.size)) (Nat.le_refl _) _ _ _ _ _ _ _ _⟩
                    rw [← HNX.out]
                    exact heap_set8 HZ.out.2.x rfl nx
                  case measure => simp [intOf]; omega
                exact tree_stop
              exact tree_stop
            refine tree_op (at_drop rfl) rfl (fun K hK => ?_) ?_
            · go_simp
              refine hK.out _ _ ?_ (fun hNew => ?_)
              · exact now_step hc04 hc14 (below_al _ _) hHeld
              clear hHeld hK K
              have hHeld := hNew
              clear hNew
              try simp only [Act.put, List.setIfInBounds_toArray, List.set_cons_zero, List.set_cons_succ]
              refine tree_op (at_drop rfl) rfl (fun K hK => ?_) ?_
              · go_simp
                (go_at_call 10; ((with_reducible refine (hP' _).mono ?_); rintro e wm ⟨rfl, hB⟩; have hgm := hid (show w4.heap.size ≤ wm.heap.size by have := hB.size; simp at this; omega); have hSm := hid (now_step hc04 hc14 hB hHeld); try (have hlz := hid (show wm.heap[w4.heap.size]? = some (.cells (vc zeroV) 24 (0, 0)) from keep_last_dr hB); obtain ⟨z0, z1, z2, z3, z4, z5, z6, z7⟩ := cells8 (v := zeroV) hlz.out; have hfr := freeV hlz.out; have hs := lt_of_heap hlz.out)))
                refine hK.out _ _ ?_ (fun hNew => ?_)
                · exact hSm.out
                clear hHeld hK K
                have hHeld := hNew
                clear hNew
                try simp only [Act.put, List.setIfInBounds_toArray, List.set_cons_zero, List.set_cons_succ]
                refine tree_take (v := ?_) (at_drop rfl) rfl ?_ ?_
                rotate_left
                · (intro w' hSw; (try dsimp only at hSw); go_simp; try with_reducible rfl)
                try simp only [Act.put, List.setIfInBounds_toArray, List.set_cons_zero, List.set_cons_succ]
                refine tree_take (v := ?_) (at_drop rfl) rfl ?_ ?_
                rotate_left
                · (intro w' hSw; (try dsimp only at hSw); go_simp; try with_reducible rfl)
                try simp only [Act.put, List.setIfInBounds_toArray, List.set_cons_zero, List.set_cons_succ]
                refine tree_take (v := ?_) (at_drop rfl) rfl ?_ ?_
                rotate_left
                · (intro w' hSw; (try dsimp only at hSw); go_simp; try with_reducible rfl)
                try simp only [Act.put, List.setIfInBounds_toArray, List.set_cons_zero, List.set_cons_succ]
                refine tree_op (at_drop rfl) rfl (fun K hK => ?_) ?_
                · go_simp
                  refine hK.out _ _ ?_ (fun hNew => ?_)
                  · exact now_set hc04 hc14 (Nat.le_refl _) hlt4 hHeld
                  clear hHeld hK K
                  have hHeld := hNew
                  clear hNew
                  try simp only [Act.put, List.setIfInBounds_toArray, List.set_cons_zero, List.set_cons_succ]
                  refine tree_take (v := ?_) (at_drop rfl) rfl ?_ ?_
                  rotate_left
                  · (intro w' hSw; (try dsimp only at hSw); go_simp; try with_reducible rfl)
                  try simp only [Act.put, List.setIfInBounds_toArray, List.set_cons_zero, List.set_cons_succ]
                  refine NoPanic.normal ?_
                  have hx := heap_set8 hlz.out rfl nx
                  have hz := hHeld.1
                  have HBz := hid (HB4.out.keep hz.below)
                  have hne : w3.heap.size ≠ w4.heap.size := by have := hgm.out; omega
                  generalize ((((((((wm.setCell ⟨w4.heap.size, 0, none⟩ (.int .u32 (nx 0 : Int))).setCell ⟨w4.heap.size, 1, none⟩ (.int .u32 (nx 1 : Int))).setCell ⟨w4.heap.size, 2, none⟩ (.int .u32 (nx 2 : Int))).setCell ⟨w4.heap.size, 3, none⟩ (.int .u32 (nx 3 : Int))).setCell ⟨w4.heap.size, 4, none⟩ (.int .u32 (nx 4 : Int))).setCell ⟨w4.heap.size, 5, none⟩ (.int .u32 (nx 5 : Int))).setCell ⟨w4.heap.size, 6, none⟩ (.int .u32 (nx 6 : Int))).setCell ⟨w4.heap.size, 7, none⟩ (.int .u32 (nx 7 : Int))) = wz at hx hz HBz ⊢
                  have HZ := hid (And.intro hx hz)
                  obtain ⟨v0, v1, v2, v3, v4, v5, v6, v7⟩ := cells8 hx
                  obtain ⟨y0, y1, y2, y3, y4, y5, y6, y7⟩ := cells8 hz.x
                  have hfn := freeV hz.x
                  have hsn := lt_of_heap hz.x
                  clear hHeld hSm hB hx hz hall hP' hC1' hC2' hc04 hc14 z0 z1 z2 z3 z4 z5 z6 z7 hfr hs hlz
                  go_wp2
                  go_roundw
                  case rel =>
                    refine ⟨j + 1, by omega, by go_num, ?_, Below.set8 (HH.out.2.1.trans (HZ.out.2.below.mono HH.out.2.1.size)) (Nat.le_refl _) _ _ _ _ _ _ _ _⟩
                    rw [← HNX.out]
                    exact heap_set8 HZ.out.2.x rfl nx
                  case measure => simp [intOf]; omega
                exact tree_stop
              exact tree_stop
            exact tree_stop
        · obtain rfl : j = c := by omega
          rw [HEND.out] at hn
          have hu := heap_keep HU3.out hB
          have HBr := hid (HB3.out.keep hB)
          obtain ⟨n0, n1, n2, n3, n4, n5, n6, n7⟩ := cells8 hn
          obtain ⟨u0, u1, u2, u3, u4, u5, u6, u7⟩ := cells8 hu
          have hq := fun W => eqlV (eqV_refl (mx a b)) W
          clear hstep hP hC1 hC2 hn hu hB
          go_wp2_with (go_at_call 23; (with_reducible refine (hhead _).mono ?_); rintro e wh ⟨rfl, hB⟩)
          go_ret
          exact ⟨rfl, HBr.out.below.trans (hB.mono HBr.out.below.size)⟩
    · have hb3 : ¬ (c : Int) ≤ 300 := by omega
      have hb4 : (300 : Int) < c := by omega
      clear hstep hend
      go_wp2_with (first
        | (go_at_call 19; (with_reducible refine (hL _).mono ?_); rintro e w3 ⟨v3, rfl, hr, hB⟩; obtain ⟨ad, len, cap, rfl, hI⟩ := owns_dotsV hr HLK.out; obtain rfl : c = len := HLEN.out.symm.trans hI.1; have HB3 := hid (HB2.out.keep hB); clear hB hr hI)
        | (go_at_call 23; (with_reducible refine (hhead _).mono ?_); rintro e wh ⟨rfl, hB⟩))
      go_ret
      exact ⟨rfl, HB3.out.below.trans (hB.mono HB3.out.below.size)⟩
  · simp only [if_neg hbig] at hL HLK
    have hb0 : ¬ (c : Int) ≤ 65536 := by omega
    have hb1 : (65536 : Int) < c := by omega
    clear hstep hend
    go_wp2_with (first
      | (go_at_call 19; (with_reducible refine (hL _).mono ?_); rintro e w3 ⟨v3, rfl, hr, hB⟩; obtain ⟨ad, len, cap, rfl, hI⟩ := owns_dotsV hr HLK.out; obtain rfl : 0 = len := hI.1; have HB3 := hid (HB2.out.keep hB); clear hB hr hI)
      | (go_at_call 23; (with_reducible refine (hhead _).mono ?_); rintro e wh ⟨rfl, hB⟩))
    go_ret
    exact ⟨rfl, HB3.out.below.trans (hB.mono HB3.out.below.size)⟩

end Go.Proofs.Ytmligladfmkliaa
