/-
  Which vectors are above which, what Put makes; the document's.
-/
import Derived.Test.YtckfdjfcikljaaaVA
namespace Go.Proofs.Ytckfdjfcikljaaa
set_option linter.unusedVariables false
set_option linter.unusedSimpArgs false
open Go Go.RowKit Go.Maps Go.Sort

theorem box2_0 (w : World) (a b : Vec) : ((w.alloc (.cells #[.int .u32 (a 0 : Int), .int .u32 (a 1 : Int), .int .u32 (a 2 : Int), .int .u32 (a 3 : Int), .int .u32 (a 4 : Int), .int .u32 (a 5 : Int), .int .u32 (a 6 : Int), .int .u32 (a 7 : Int)] 24)).alloc (.cells #[.int .u32 (b 0 : Int), .int .u32 (b 1 : Int), .int .u32 (b 2 : Int), .int .u32 (b 3 : Int), .int .u32 (b 4 : Int), .int .u32 (b 5 : Int), .int .u32 (b 6 : Int), .int .u32 (b 7 : Int)] 24)).heap[w.heap.size]? = some (.cells (vc a) 24 (0, 0)) := heap_al (heap_alloc_last' _ _) _
theorem cells2 {w : World} {b : Nat} {x y : Value} {t : TypeId} {fr : Nat × Nat} (h : w.heap[b]? = some (.cells #[x, y] t fr)) : w.cell? ⟨b, 0, none⟩ = some x ∧ w.cell? ⟨b, 1, none⟩ = some y := by constructor <;> simp [World.cell?, h]
theorem box3 (w : World) (a b c : Array Value) : (((w.alloc (.cells a 24)).alloc (.cells b 26)).alloc (.cells c 24)).heap[w.heap.size]? = some (.cells a 24 (0, 0)) ∧ (((w.alloc (.cells a 24)).alloc (.cells b 26)).alloc (.cells c 24)).heap[w.heap.size + 1]? = some (.cells b 26 (0, 0)) ∧ (((w.alloc (.cells a 24)).alloc (.cells b 26)).alloc (.cells c 24)).heap[w.heap.size + 2]? = some (.cells c 24 (0, 0)) ∧ Below w.heap.size w (((w.alloc (.cells a 24)).alloc (.cells b 26)).alloc (.cells c 24)) :=
  ⟨heap_al (heap_al (heap_alloc_last' _ _) _) _, heap_al (last2 _ _ _) _, last3 _ _ _ _, below_al3 _ _ _ _⟩
theorem Below.set8 {B : Nat} {w0 w : World} (h : Below B w0 w) {b : Nat} (hb : B ≤ b) (x0 x1 x2 x3 x4 x5 x6 x7 : Value) : Below B w0 ((((((((w.setCell ⟨b, 0, none⟩ x0).setCell ⟨b, 1, none⟩ x1).setCell ⟨b, 2, none⟩ x2).setCell ⟨b, 3, none⟩ x3).setCell ⟨b, 4, none⟩ x4).setCell ⟨b, 5, none⟩ x5).setCell ⟨b, 6, none⟩ x6).setCell ⟨b, 7, none⟩ x7) :=
  (((((((h.setCell (p := ⟨b, 0, none⟩) hb _).setCell (p := ⟨b, 1, none⟩) hb _).setCell (p := ⟨b, 2, none⟩) hb _).setCell (p := ⟨b, 3, none⟩) hb _).setCell (p := ⟨b, 4, none⟩) hb _).setCell (p := ⟨b, 5, none⟩) hb _).setCell (p := ⟨b, 6, none⟩) hb _).setCell (p := ⟨b, 7, none⟩) hb _
theorem put_cells {w1 : World} {b : Nat} {v : Vec} {t : TypeId} {r : Nat} (h : w1.heap[b]? = some (.cells (vc v) t (0, 0))) (hr : r < 8) (q : Nat) {k : Nat} (hk : k < 8) : ((w1.drewN q).setCell ⟨b, r, none⟩ (.int .u32 ((v r : Int) + 1))).cell? ⟨b, k, none⟩ = some (.int .u32 ((upd v r (v r + 1)) k : Int)) := by
  rw [show (v r : Int) + 1 = ((v r + 1 : Nat) : Int) by omega]
  exact cellV (heap_set (w := w1.drewN q) h hr (v r + 1)) hk
theorem heap_other {w : World} {b g k : Nat} {u : Value} {o : Obj} (hne : g ≠ b) (h : w.heap[g]? = some o) : (w.setCell ⟨b, k, none⟩ u).heap[g]? = some o :=
  (heap_setCell_other w ⟨b, k, none⟩ g u hne).trans h
theorem put_free {w1 : World} {g b : Nat} {cs : Array Value} {t : TypeId} {r : Nat} (h : w1.heap[g]? = some (.cells cs t (0, 0))) (hr : r < 8) (q : Nat) (u : Value) (hne : g ≠ b) (k : Nat) : ((w1.drewN q).setCell ⟨b, r, none⟩ u).frozen? ⟨g, k, none⟩ = false :=
  freeV (heap_other (w := w1.drewN q) hne h) k
theorem box2_1 (w : World) (a b : Vec) : ((w.alloc (.cells #[.int .u32 (a 0 : Int), .int .u32 (a 1 : Int), .int .u32 (a 2 : Int), .int .u32 (a 3 : Int), .int .u32 (a 4 : Int), .int .u32 (a 5 : Int), .int .u32 (a 6 : Int), .int .u32 (a 7 : Int)] 24)).alloc (.cells #[.int .u32 (b 0 : Int), .int .u32 (b 1 : Int), .int .u32 (b 2 : Int), .int .u32 (b 3 : Int), .int .u32 (b 4 : Int), .int .u32 (b 5 : Int), .int .u32 (b 6 : Int), .int .u32 (b 7 : Int)] 24)).heap[w.heap.size + 1]? = some (.cells (vc b) 24 (0, 0)) := last2 _ _ _

set_option maxHeartbeats 1000000 in
set_option maxRecDepth 100000 in
theorem vec_Above (a b : Vec) (w : World) :
    Calls Try.prog 14 #[.agg #[.int .u32 (a 0 : Int), .int .u32 (a 1 : Int), .int .u32 (a 2 : Int), .int .u32 (a 3 : Int), .int .u32 (a 4 : Int), .int .u32 (a 5 : Int), .int .u32 (a 6 : Int), .int .u32 (a 7 : Int)], .agg #[.int .u32 (b 0 : Int), .int .u32 (b 1 : Int), .int .u32 (b 2 : Int), .int .u32 (b 3 : Int), .int .u32 (b 4 : Int), .int .u32 (b 5 : Int), .int .u32 (b 6 : Int), .int .u32 (b 7 : Int)]] w
      fun e w' => e = .returned (.bool (aboveB a b)) ∧ Below w.heap.size w w' := by
  have h0 := box2_0 w a b
  have h1 := box2_1 w a b
  have hb2 := below_al2 w (.cells #[.int .u32 (a 0 : Int), .int .u32 (a 1 : Int), .int .u32 (a 2 : Int), .int .u32 (a 3 : Int), .int .u32 (a 4 : Int), .int .u32 (a 5 : Int), .int .u32 (a 6 : Int), .int .u32 (a 7 : Int)] 24) (.cells #[.int .u32 (b 0 : Int), .int .u32 (b 1 : Int), .int .u32 (b 2 : Int), .int .u32 (b 3 : Int), .int .u32 (b 4 : Int), .int .u32 (b 5 : Int), .int .u32 (b 6 : Int), .int .u32 (b 7 : Int)] 24)
  have H0 := hid (And.intro h0 (And.intro h1 hb2))
  clear h0 h1 hb2
  go_enter Try.func14, Try.ntmps14
  go_wp2
  go_loopw [6] (fun i wr => ∃ k : Nat, k ≤ 8 ∧ i = .int .i64 k ∧ wr.heap[w.heap.size]? = some (.cells (vc a) 24 (0, 0)) ∧ wr.heap[w.heap.size + 1]? = some (.cells (vc b) 24 (0, 0)) ∧ (∀ j, j < k → b j ≤ a j) ∧ Below w.heap.size w wr) (fun i _ => 8 - (intOf i).toNat)
  case atStart => exact ⟨0, by omega, rfl, H0.out.1, H0.out.2.1, fun j hj => absurd hj (by omega), H0.out.2.2⟩
  case round =>
    obtain ⟨k, hk, rfl, hx, hy, hall, hB⟩ := hrel
    by_cases hlt : k < 8
    · have c0 := cellV hx hlt
      have c1 := cellV hy hlt
      have HX := hid (And.intro hx (And.intro hy hall))
      clear hx hy hall
      by_cases hle : b k ≤ a k
      · go_wp2
        go_quiet (fail)
        go_wp2
        go_roundw
        case rel =>
          refine ⟨k + 1, by omega, by go_num, HX.out.1, HX.out.2.1, fun j hj => ?_, hB.trans (below_drewN _ _ _)⟩
          by_cases hjk : j = k
          · rw [hjk]; exact hle
          · exact HX.out.2.2 j (by omega)
        case measure => simp [intOf]; omega
      · go_wp2
        go_quiet (fail)
        go_wp2
        go_ret
        refine ⟨?_, hB.trans (below_drewN _ _ _)⟩
        have : aboveB a b = false := by
          cases hc : aboveB a b
          · rfl
          · exact absurd (above_iff.1 hc k hlt) hle
        rw [this]; rfl
    · obtain rfl : k = 8 := by omega
      have HX := hid hall
      clear hall
      go_wp2
      go_ret
      refine ⟨?_, hB⟩
      rw [above_iff.2 HX.out]; rfl

set_option maxHeartbeats 1000000 in
set_option maxRecDepth 100000 in
theorem ref_Above (a b : Vec) (w : World) :
    Calls Try.prog 15 #[.agg #[.int .u32 (a 0 : Int), .int .u32 (a 1 : Int), .int .u32 (a 2 : Int), .int .u32 (a 3 : Int), .int .u32 (a 4 : Int), .int .u32 (a 5 : Int), .int .u32 (a 6 : Int), .int .u32 (a 7 : Int)], .agg #[.int .u32 (b 0 : Int), .int .u32 (b 1 : Int), .int .u32 (b 2 : Int), .int .u32 (b 3 : Int), .int .u32 (b 4 : Int), .int .u32 (b 5 : Int), .int .u32 (b 6 : Int), .int .u32 (b 7 : Int)]] w
      fun e w' => e = .returned (.bool (aboveB a b)) ∧ Below w.heap.size w w' := by
  have h0 := box2_0 w a b
  have h1 := box2_1 w a b
  have hb2 := below_al2 w (.cells #[.int .u32 (a 0 : Int), .int .u32 (a 1 : Int), .int .u32 (a 2 : Int), .int .u32 (a 3 : Int), .int .u32 (a 4 : Int), .int .u32 (a 5 : Int), .int .u32 (a 6 : Int), .int .u32 (a 7 : Int)] 24) (.cells #[.int .u32 (b 0 : Int), .int .u32 (b 1 : Int), .int .u32 (b 2 : Int), .int .u32 (b 3 : Int), .int .u32 (b 4 : Int), .int .u32 (b 5 : Int), .int .u32 (b 6 : Int), .int .u32 (b 7 : Int)] 24)
  have H0 := hid (And.intro h0 (And.intro h1 hb2))
  clear h0 h1 hb2
  go_enter Try.func15, Try.ntmps15
  go_wp2
  go_loopw [5] (fun i wr => ∃ k : Nat, k ≤ 8 ∧ i = .int .i64 k ∧ wr.heap[w.heap.size]? = some (.cells (vc a) 24 (0, 0)) ∧ wr.heap[w.heap.size + 1]? = some (.cells (vc b) 24 (0, 0)) ∧ (∀ j, j < k → b j ≤ a j) ∧ Below w.heap.size w wr) (fun i _ => 8 - (intOf i).toNat)
  case atStart => exact ⟨0, by omega, rfl, H0.out.1, H0.out.2.1, fun j hj => absurd hj (by omega), H0.out.2.2⟩
  case round =>
    obtain ⟨k, hk, rfl, hx, hy, hall, hB⟩ := hrel
    by_cases hlt : k < 8
    · have c0 := cellV hx hlt
      have c1 := cellV hy hlt
      have HX := hid (And.intro hx (And.intro hy hall))
      clear hx hy hall
      by_cases hle : b k ≤ a k
      · go_wp2
        go_quiet (fail)
        go_wp2
        go_roundw
        case rel =>
          refine ⟨k + 1, by omega, by go_num, HX.out.1, HX.out.2.1, fun j hj => ?_, hB.trans (below_drewN _ _ _)⟩
          by_cases hjk : j = k
          · rw [hjk]; exact hle
          · exact HX.out.2.2 j (by omega)
        case measure => simp [intOf]; omega
      · go_wp2
        go_quiet (fail)
        go_wp2
        go_ret
        refine ⟨?_, hB.trans (below_drewN _ _ _)⟩
        have : aboveB a b = false := by
          cases hc : aboveB a b
          · rfl
          · exact absurd (above_iff.1 hc k hlt) hle
        rw [this]; rfl
    · obtain rfl : k = 8 := by omega
      have HX := hid hall
      clear hall
      go_wp2
      go_ret
      refine ⟨?_, hB⟩
      rw [above_iff.2 HX.out]; rfl

set_option maxHeartbeats 1000000 in
theorem vec_Beside (a b : Vec) (w : World) :
    Calls Try.prog 16 #[.agg #[.int .u32 (a 0 : Int), .int .u32 (a 1 : Int), .int .u32 (a 2 : Int), .int .u32 (a 3 : Int), .int .u32 (a 4 : Int), .int .u32 (a 5 : Int), .int .u32 (a 6 : Int), .int .u32 (a 7 : Int)], .agg #[.int .u32 (b 0 : Int), .int .u32 (b 1 : Int), .int .u32 (b 2 : Int), .int .u32 (b 3 : Int), .int .u32 (b 4 : Int), .int .u32 (b 5 : Int), .int .u32 (b 6 : Int), .int .u32 (b 7 : Int)]] w
      fun e w' => e = .returned (.bool (besB a b)) ∧ Below w.heap.size w w' := by
  have h1 := fun W => vec_Above a b W
  have h2 := fun W => vec_Above b a W
  have hb2 := below_al2 w (.cells #[.int .u32 (a 0 : Int), .int .u32 (a 1 : Int), .int .u32 (a 2 : Int), .int .u32 (a 3 : Int), .int .u32 (a 4 : Int), .int .u32 (a 5 : Int), .int .u32 (a 6 : Int), .int .u32 (a 7 : Int)] 24) (.cells #[.int .u32 (b 0 : Int), .int .u32 (b 1 : Int), .int .u32 (b 2 : Int), .int .u32 (b 3 : Int), .int .u32 (b 4 : Int), .int .u32 (b 5 : Int), .int .u32 (b 6 : Int), .int .u32 (b 7 : Int)] 24)
  have h0 := box2_0 w a b
  have h0' := box2_1 w a b
  have H0 := hid (And.intro h0 (And.intro h0' hb2))
  clear h0 h0' hb2
  unfold besB
  cases hc : aboveB a b
  · rw [hc] at h1
    have HC := hid hc
    clear hc
    go_enter Try.func16, Try.ntmps16
    go_wp2_with (first | (go_at_call 14; (with_reducible refine (h1 _).mono ?_); rintro e w1 ⟨rfl, hB⟩; have hx := heap_keep H0.out.1 hB; have hy := heap_keep H0.out.2.1 hB; obtain ⟨c0, c1, c2, c3, c4, c5, c6, c7⟩ := cells8 hx; obtain ⟨d0, d1, d2, d3, d4, d5, d6, d7⟩ := cells8 hy; have HB1 := hid (H0.out.2.2.trans (hB.mono H0.out.2.2.size)); clear hx hy hB) | (go_at_call 14; (with_reducible refine (h2 _).mono ?_); rintro e w2 ⟨rfl, hB2⟩))
    go_ret
    exact ⟨rfl, HB1.out.trans (hB2.mono HB1.out.size)⟩
  · rw [hc] at h1
    have HC := hid hc
    clear hc
    go_enter Try.func16, Try.ntmps16
    go_wp2_with (go_at_call 14; (with_reducible refine (h1 _).mono ?_); rintro e w1 ⟨rfl, hB⟩)
    go_ret
    exact ⟨rfl, H0.out.2.2.trans (hB.mono H0.out.2.2.size)⟩

set_option maxHeartbeats 2000000 in
set_option maxRecDepth 100000 in
theorem vec_Put (v : Vec) (d : Dot) (hv : okV v) (hd : d.ok) (w : World) :
    Calls Try.prog 10 #[.agg #[.int .u32 (v 0 : Int), .int .u32 (v 1 : Int), .int .u32 (v 2 : Int), .int .u32 (v 3 : Int), .int .u32 (v 4 : Int), .int .u32 (v 5 : Int), .int .u32 (v 6 : Int), .int .u32 (v 7 : Int)], .agg #[.int .u8 (d.1 : Int), .int .u32 (d.2 : Int)]] w
      fun e w' => e = .returned (.tuple #[.agg #[.int .u32 ((putV v d) 0 : Int), .int .u32 ((putV v d) 1 : Int), .int .u32 ((putV v d) 2 : Int), .int .u32 ((putV v d) 3 : Int), .int .u32 ((putV v d) 4 : Int), .int .u32 ((putV v d) 5 : Int), .int .u32 ((putV v d) 6 : Int), .int .u32 ((putV v d) 7 : Int)], .int .i64 (putE v d)]) ∧ Below w.heap.size w w' := by
  have hmay := fun W => dot_May d W
  obtain ⟨r, n⟩ := d
  have hvr := hv.1 r
  have hn : n < 4294967296 := hd.2
  clear hv hd
  dsimp only at hmay ⊢
  have H0 := hid (box3 w #[.int .u32 (v 0 : Int), .int .u32 (v 1 : Int), .int .u32 (v 2 : Int), .int .u32 (v 3 : Int), .int .u32 (v 4 : Int), .int .u32 (v 5 : Int), .int .u32 (v 6 : Int), .int .u32 (v 7 : Int)] #[.int .u8 (r : Int), .int .u32 (n : Int)] #[.int .u32 (zeroV 0 : Int), .int .u32 (zeroV 1 : Int), .int .u32 (zeroV 2 : Int), .int .u32 (zeroV 3 : Int), .int .u32 (zeroV 4 : Int), .int .u32 (zeroV 5 : Int), .int .u32 (zeroV 6 : Int), .int .u32 (zeroV 7 : Int)])
  cases hb : mayD (r, n)
  · rw [hb] at hmay
    rw [show putV v (r, n) = zeroV by simp [putV, hb], show putE v (r, n) = 2 by simp [putE, hb]]
    clear hb
    go_enter Try.func10, Try.ntmps10
    go_wp2_with (go_at_call 31; refine (hmay _).mono ?_; rintro e w1 ⟨rfl, hB⟩; have hx := heap_keep H0.out.1 hB; have hy := heap_keep H0.out.2.1 hB; have hz := heap_keep H0.out.2.2.1 hB; have hB1 := H0.out.2.2.2.trans (hB.mono H0.out.2.2.2.size); obtain ⟨c0, c1, c2, c3, c4, c5, c6, c7⟩ := cells8 hx; have fr1 := freeV hx; have fr2 := freeV hz; obtain ⟨d0, d1⟩ := cells2 hy; obtain ⟨z0, z1, z2, z3, z4, z5, z6, z7⟩ := cells8 (v := zeroV) hz; have HX := hid (And.intro hx (And.intro hz hB1)); clear hx hy hz hB hB1)
    exact bodyPost_ret (results_row_tmp rfl _ _ _ _ _ _ _ _ rfl rfl (heap_set8 HX.out.2.1 rfl zeroV) Try.underlying24 rfl (by kernel_rfl)) rfl ⟨rfl, Below.set8 HX.out.2.2 (by omega) _ _ _ _ _ _ _ _⟩
  · rw [hb] at hmay
    obtain ⟨hr8, hn0⟩ : r < 8 ∧ n ≠ 0 := by simpa [mayD] using hb
    by_cases hq : v r + 1 = n
    · rw [show putV v (r, n) = upd v r n by simp [putV, hb, hq], show putE v (r, n) = 0 by simp [putE, hb, hq]]
      subst hq
      have hq1 : (((v r + 1 : Nat) : Int) - 1) % 4294967296 = v r := by omega
      have hq2 : ((v r + 1 : Nat) : Int) = (v r : Int) + 1 := by omega
      clear hb
      go_enter Try.func10, Try.ntmps10
      go_wp2_with (go_at_call 31; refine (hmay _).mono ?_; rintro e w1 ⟨rfl, hB⟩; have hx := heap_keep H0.out.1 hB; have hy := heap_keep H0.out.2.1 hB; have hz := heap_keep H0.out.2.2.1 hB; have hB1 := H0.out.2.2.2.trans (hB.mono H0.out.2.2.2.size); obtain ⟨c0, c1, c2, c3, c4, c5, c6, c7⟩ := cells8 hx; have fr1 := freeV hx; have fr2 := freeV hz; obtain ⟨d0, d1⟩ := cells2 hy; obtain ⟨z0, z1, z2, z3, z4, z5, z6, z7⟩ := cells8 (v := zeroV) hz; have HX := hid (And.intro hx (And.intro hz hB1)); have cr := cellV hx hr8; have e0 := fun q => put_cells hx hr8 q (k := 0) (by omega); have e1 := fun q => put_cells hx hr8 q (k := 1) (by omega); have e2 := fun q => put_cells hx hr8 q (k := 2) (by omega); have e3 := fun q => put_cells hx hr8 q (k := 3) (by omega); have e4 := fun q => put_cells hx hr8 q (k := 4) (by omega); have e5 := fun q => put_cells hx hr8 q (k := 5) (by omega); have e6 := fun q => put_cells hx hr8 q (k := 6) (by omega); have e7 := fun q => put_cells hx hr8 q (k := 7) (by omega); have fr3 := fun q x => put_free hz hr8 q x (show w.heap.size + 2 ≠ w.heap.size by omega); clear hx hy hz hB hB1)
      go_quiet (fail)
      go_wp2
      exact bodyPost_ret (results_row_tmp rfl _ _ _ _ _ _ _ _ rfl rfl (heap_set8 (heap_other (by omega) HX.out.2.1) rfl (upd v r (v r + 1))) Try.underlying24 rfl (by kernel_rfl)) rfl ⟨rfl, Below.set8 (Below.setCell (p := ⟨w.heap.size, r, none⟩) (HX.out.2.2.trans (below_drewN _ _ _)) (Nat.le_refl _) _) (by omega) _ _ _ _ _ _ _ _⟩
    · rw [show putV v (r, n) = zeroV by simp [putV, hb, hq], show putE v (r, n) = 9 by simp [putE, hb, hq]]
      have hqa : ((v r : Int) == ((n : Int) - 1) % 4294967296) = false := by simp; omega
      have hqb : ((v r : Int) != ((n : Int) - 1) % 4294967296) = true := by simp; omega
      have hqc : ((n : Int) == (v r : Int) + 1) = false := by simp; omega
      have hqd : ((n : Int) != (v r : Int) + 1) = true := by simp; omega
      clear hb hq
      go_enter Try.func10, Try.ntmps10
      go_wp2_with (go_at_call 31; refine (hmay _).mono ?_; rintro e w1 ⟨rfl, hB⟩; have hx := heap_keep H0.out.1 hB; have hy := heap_keep H0.out.2.1 hB; have hz := heap_keep H0.out.2.2.1 hB; have hB1 := H0.out.2.2.2.trans (hB.mono H0.out.2.2.2.size); obtain ⟨c0, c1, c2, c3, c4, c5, c6, c7⟩ := cells8 hx; have fr1 := freeV hx; have fr2 := freeV hz; obtain ⟨d0, d1⟩ := cells2 hy; obtain ⟨z0, z1, z2, z3, z4, z5, z6, z7⟩ := cells8 (v := zeroV) hz; have HX := hid (And.intro hx (And.intro hz hB1)); have cr := cellV hx hr8; clear hx hy hz hB hB1)
      go_quiet (fail)
      go_wp2
      exact bodyPost_ret (results_row_tmp rfl _ _ _ _ _ _ _ _ rfl rfl (heap_set8 HX.out.2.1 rfl zeroV) Try.underlying24 rfl (by kernel_rfl)) rfl ⟨rfl, Below.set8 (HX.out.2.2.trans (below_drewN _ _ _)) (by omega) _ _ _ _ _ _ _ _⟩

set_option maxHeartbeats 2000000 in
set_option maxRecDepth 100000 in
theorem ref_Put (v : Vec) (d : Dot) (hv : okV v) (hd : d.ok) (w : World) :
    Calls Try.prog 11 #[.agg #[.int .u32 (v 0 : Int), .int .u32 (v 1 : Int), .int .u32 (v 2 : Int), .int .u32 (v 3 : Int), .int .u32 (v 4 : Int), .int .u32 (v 5 : Int), .int .u32 (v 6 : Int), .int .u32 (v 7 : Int)], .agg #[.int .u8 (d.1 : Int), .int .u32 (d.2 : Int)]] w
      fun e w' => e = .returned (.tuple #[.agg #[.int .u32 ((putV v d) 0 : Int), .int .u32 ((putV v d) 1 : Int), .int .u32 ((putV v d) 2 : Int), .int .u32 ((putV v d) 3 : Int), .int .u32 ((putV v d) 4 : Int), .int .u32 ((putV v d) 5 : Int), .int .u32 ((putV v d) 6 : Int), .int .u32 ((putV v d) 7 : Int)], .int .i64 (putE v d)]) ∧ Below w.heap.size w w' := by
  have hmay := fun W => ref_May d W
  obtain ⟨r, n⟩ := d
  have hvr := hv.1 r
  have hn : n < 4294967296 := hd.2
  clear hv hd
  dsimp only at hmay ⊢
  have H0 := hid (box3 w #[.int .u32 (v 0 : Int), .int .u32 (v 1 : Int), .int .u32 (v 2 : Int), .int .u32 (v 3 : Int), .int .u32 (v 4 : Int), .int .u32 (v 5 : Int), .int .u32 (v 6 : Int), .int .u32 (v 7 : Int)] #[.int .u8 (r : Int), .int .u32 (n : Int)] #[.int .u32 (zeroV 0 : Int), .int .u32 (zeroV 1 : Int), .int .u32 (zeroV 2 : Int), .int .u32 (zeroV 3 : Int), .int .u32 (zeroV 4 : Int), .int .u32 (zeroV 5 : Int), .int .u32 (zeroV 6 : Int), .int .u32 (zeroV 7 : Int)])
  cases hb : mayD (r, n)
  · rw [hb] at hmay
    rw [show putV v (r, n) = zeroV by simp [putV, hb], show putE v (r, n) = 2 by simp [putE, hb]]
    clear hb
    go_enter Try.func11, Try.ntmps11
    go_wp2_with (go_at_call 32; refine (hmay _).mono ?_; rintro e w1 ⟨rfl, hB⟩; have hx := heap_keep H0.out.1 hB; have hy := heap_keep H0.out.2.1 hB; have hz := heap_keep H0.out.2.2.1 hB; have hB1 := H0.out.2.2.2.trans (hB.mono H0.out.2.2.2.size); obtain ⟨c0, c1, c2, c3, c4, c5, c6, c7⟩ := cells8 hx; have fr1 := freeV hx; have fr2 := freeV hz; obtain ⟨d0, d1⟩ := cells2 hy; obtain ⟨z0, z1, z2, z3, z4, z5, z6, z7⟩ := cells8 (v := zeroV) hz; have HX := hid (And.intro hx (And.intro hz hB1)); clear hx hy hz hB hB1)
    exact bodyPost_ret (results_row_tmp rfl _ _ _ _ _ _ _ _ rfl rfl (heap_set8 HX.out.2.1 rfl zeroV) Try.underlying24 rfl (by kernel_rfl)) rfl ⟨rfl, Below.set8 HX.out.2.2 (by omega) _ _ _ _ _ _ _ _⟩
  · rw [hb] at hmay
    obtain ⟨hr8, hn0⟩ : r < 8 ∧ n ≠ 0 := by simpa [mayD] using hb
    by_cases hq : v r + 1 = n
    · rw [show putV v (r, n) = upd v r n by simp [putV, hb, hq], show putE v (r, n) = 0 by simp [putE, hb, hq]]
      subst hq
      have hq1 : (((v r + 1 : Nat) : Int) - 1) % 4294967296 = v r := by omega
      have hq2 : ((v r + 1 : Nat) : Int) = (v r : Int) + 1 := by omega
      clear hb
      go_enter Try.func11, Try.ntmps11
      go_wp2_with (go_at_call 32; refine (hmay _).mono ?_; rintro e w1 ⟨rfl, hB⟩; have hx := heap_keep H0.out.1 hB; have hy := heap_keep H0.out.2.1 hB; have hz := heap_keep H0.out.2.2.1 hB; have hB1 := H0.out.2.2.2.trans (hB.mono H0.out.2.2.2.size); obtain ⟨c0, c1, c2, c3, c4, c5, c6, c7⟩ := cells8 hx; have fr1 := freeV hx; have fr2 := freeV hz; obtain ⟨d0, d1⟩ := cells2 hy; obtain ⟨z0, z1, z2, z3, z4, z5, z6, z7⟩ := cells8 (v := zeroV) hz; have HX := hid (And.intro hx (And.intro hz hB1)); have cr := cellV hx hr8; have e0 := fun q => put_cells hx hr8 q (k := 0) (by omega); have e1 := fun q => put_cells hx hr8 q (k := 1) (by omega); have e2 := fun q => put_cells hx hr8 q (k := 2) (by omega); have e3 := fun q => put_cells hx hr8 q (k := 3) (by omega); have e4 := fun q => put_cells hx hr8 q (k := 4) (by omega); have e5 := fun q => put_cells hx hr8 q (k := 5) (by omega); have e6 := fun q => put_cells hx hr8 q (k := 6) (by omega); have e7 := fun q => put_cells hx hr8 q (k := 7) (by omega); have fr3 := fun q x => put_free hz hr8 q x (show w.heap.size + 2 ≠ w.heap.size by omega); clear hx hy hz hB hB1)
      go_quiet (fail)
      go_wp2
      exact bodyPost_ret (results_row_tmp rfl _ _ _ _ _ _ _ _ rfl rfl (heap_set8 (heap_other (by omega) HX.out.2.1) rfl (upd v r (v r + 1))) Try.underlying24 rfl (by kernel_rfl)) rfl ⟨rfl, Below.set8 (Below.setCell (p := ⟨w.heap.size, r, none⟩) (HX.out.2.2.trans (below_drewN _ _ _)) (Nat.le_refl _) _) (by omega) _ _ _ _ _ _ _ _⟩
    · rw [show putV v (r, n) = zeroV by simp [putV, hb, hq], show putE v (r, n) = 9 by simp [putE, hb, hq]]
      have hqa : ((v r : Int) == ((n : Int) - 1) % 4294967296) = false := by simp; omega
      have hqb : ((v r : Int) != ((n : Int) - 1) % 4294967296) = true := by simp; omega
      have hqc : ((n : Int) == (v r : Int) + 1) = false := by simp; omega
      have hqd : ((n : Int) != (v r : Int) + 1) = true := by simp; omega
      clear hb hq
      go_enter Try.func11, Try.ntmps11
      go_wp2_with (go_at_call 32; refine (hmay _).mono ?_; rintro e w1 ⟨rfl, hB⟩; have hx := heap_keep H0.out.1 hB; have hy := heap_keep H0.out.2.1 hB; have hz := heap_keep H0.out.2.2.1 hB; have hB1 := H0.out.2.2.2.trans (hB.mono H0.out.2.2.2.size); obtain ⟨c0, c1, c2, c3, c4, c5, c6, c7⟩ := cells8 hx; have fr1 := freeV hx; have fr2 := freeV hz; obtain ⟨d0, d1⟩ := cells2 hy; obtain ⟨z0, z1, z2, z3, z4, z5, z6, z7⟩ := cells8 (v := zeroV) hz; have HX := hid (And.intro hx (And.intro hz hB1)); have cr := cellV hx hr8; clear hx hy hz hB hB1)
      go_quiet (fail)
      go_wp2
      exact bodyPost_ret (results_row_tmp rfl _ _ _ _ _ _ _ _ rfl rfl (heap_set8 HX.out.2.1 rfl zeroV) Try.underlying24 rfl (by kernel_rfl)) rfl ⟨rfl, Below.set8 (HX.out.2.2.trans (below_drewN _ _ _)) (by omega) _ _ _ _ _ _ _ _⟩

end Go.Proofs.Ytckfdjfcikljaaa
