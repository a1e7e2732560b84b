/-
  Contracts of package dot: dots' order.
-/
import Derived.Test.YtmjmgjdklhdcdaaProg
import Derived.Test.YtmjmgjdklhdcdaaLater
import Derived.WalkKit
import Derived.LoopTactic
import Derived.StillTailTactics
import Derived.BigQuiet
import Derived.Sort.Grow
import Derived.Outline
namespace Go.Proofs.Ytmjmgjdklhdcdaa
set_option linter.unusedVariables false
set_option linter.unusedSimpArgs false
open Go Go.RowKit Go.Sort

theorem ret_int {k : IntKind} {a b : Int} (h : a = b) : Ending.returned (.int k a) = .returned (.int k b) := by rw [h]

/-- A dot: its replica and its number. -/
abbrev Dot := Nat × Nat
def Dot.enc (d : Dot) : List Value := [.int .u8 (d.1 : Int), .int .u32 (d.2 : Int)]
def Dot.ok (d : Dot) : Prop := d.1 < 256 ∧ d.2 < 4294967296

def cmpN (x y : Nat) : Int := if x < y then -1 else if y < x then 1 else 0
def orI (x y : Int) : Int := if x ≠ 0 then x else y
def cmpD (a b : Dot) : Int := orI (cmpN a.1 b.1) (cmpN a.2 b.2)

theorem compare_u8 (x y : Nat) (w : World) :
    Calls Try.prog 30 #[.int .u8 (x : Int), .int .u8 (y : Int)] w fun e w' => e = .returned (.int .i64 (cmpN x y)) ∧ w = w' := by
  by_cases h1 : x < y
  · go_enter Try.func30, Try.ntmps30
    go_wp2
    go_ret
    exact ⟨ret_int (by unfold cmpN; rw [if_pos h1]), rfl⟩
  · by_cases h2 : y < x
    · go_enter Try.func30, Try.ntmps30
      go_wp2
      go_ret
      exact ⟨ret_int (by unfold cmpN; rw [if_neg h1, if_pos h2]), rfl⟩
    · go_enter Try.func30, Try.ntmps30
      go_wp2
      go_ret
      exact ⟨ret_int (by unfold cmpN; rw [if_neg h1, if_neg h2]), rfl⟩

theorem compare_u32 (x y : Nat) (w : World) :
    Calls Try.prog 31 #[.int .u32 (x : Int), .int .u32 (y : Int)] w fun e w' => e = .returned (.int .i64 (cmpN x y)) ∧ w = w' := by
  by_cases h1 : x < y
  · go_enter Try.func31, Try.ntmps31
    go_wp2
    go_ret
    exact ⟨ret_int (by unfold cmpN; rw [if_pos h1]), rfl⟩
  · by_cases h2 : y < x
    · go_enter Try.func31, Try.ntmps31
      go_wp2
      go_ret
      exact ⟨ret_int (by unfold cmpN; rw [if_neg h1, if_pos h2]), rfl⟩
    · go_enter Try.func31, Try.ntmps31
      go_wp2
      go_ret
      exact ⟨ret_int (by unfold cmpN; rw [if_neg h1, if_neg h2]), rfl⟩

/-- cmp.Or of two. -/
theorem cmp_Or (b : Nat) (x y : Int) (w : World) (h0 : w.cell? ⟨b, 0, none⟩ = some (.int .i64 x)) (h1 : w.cell? ⟨b, 1, none⟩ = some (.int .i64 y)) :
    Calls Try.prog 29 #[.slice (some ⟨b, 0, none⟩) 2 2] w fun e w' => e = .returned (.int .i64 (orI x y)) ∧ w = w' := by
  unfold orI
  by_cases hx : x = 0
  · subst hx
    by_cases hy : y = 0
    · subst hy
      go_enter Try.func29, Try.ntmps29
      go_wp2
      refine wp_loop_rounds 3 ?_
      rw [rounds_succ]
      go_wp2
      rw [rounds_succ]
      go_wp2
      rw [rounds_succ]
      go_wp2
      go_ret
      exact ⟨rfl, rfl⟩
    · have hy' : (y == 0) = false := by simpa using hy
      have hy2 : (y != 0) = true := by simpa using hy
      go_enter Try.func29, Try.ntmps29
      go_wp2
      refine wp_loop_rounds 3 ?_
      rw [rounds_succ]
      go_wp2
      rw [rounds_succ]
      go_wp2
      go_ret
      exact ⟨rfl, rfl⟩
  · have hx' : (x == 0) = false := by simpa using hx
    have hx2 : (x != 0) = true := by simpa using hx
    go_enter Try.func29, Try.ntmps29
    go_wp2
    refine wp_loop_rounds 3 ?_
    rw [rounds_succ]
    go_wp2
    go_ret
    exact ⟨rfl, rfl⟩

theorem wp_region_still_tail_w {P : Program} {id : Nat} {Q : Exit → Act → World → Prop} {a : Act} {w : World} {l : List Oper} (n : Nat) (hm : P.follows .mixedOrders = true) (hB : Region.lexTailB .any l.toArray n = true)
    (h : ∀ wd, wd = w.drew → wpStill P l.toArray wd (fun a' => wpList P l.toArray Q (l.drop n) a' wd) (l.take n) a) : (Code.region id l.toArray true).wp P Q a w :=
  wp_region_still_tail n hm hB (h w.drew rfl)

theorem grow3 (w : World) (a b c : Obj) : ((w.alloc a).alloc b).drew.alloc c = grow (w.drewN 1) #[a, b, c] := by
  rw [alloc_eq_grow, alloc_eq_grow, alloc_eq_grow]
  show grow (grow (grow (w.drewN 1) _) _) _ = _
  rw [grow_grow, grow_grow]; rfl

/-- dot.Compare: the boxes of its two dots, and cmp.Or's slice, are made. -/
theorem dot_Compare (x y : Dot) (w : World) :
    Calls Try.prog 14 #[.agg #[.int .u8 (x.1 : Int), .int .u32 (x.2 : Int)], .agg #[.int .u8 (y.1 : Int), .int .u32 (y.2 : Int)]] w
      fun e w' => e = .returned (.int .i64 (cmpD x y)) ∧ ∃ q os, w' = grow (w.drewN q) os := by
  obtain ⟨r, hr⟩ : ∃ r, r = cmpN x.1 y.1 := ⟨_, rfl⟩
  obtain ⟨s, hs⟩ : ∃ s, s = cmpN x.2 y.2 := ⟨_, rfl⟩
  have c1 := fun w' => compare_u8 x.1 y.1 w'
  have c2 := fun w' => compare_u32 x.2 y.2 w'
  unfold cmpD
  rw [← hr, ← hs]
  rw [← hr] at c1
  rw [← hs] at c2
  clear hr hs
  go_enter Try.func14, Try.ntmps14
  go_wp2
  refine wp_region_still_tail_w 10 (by kernel_rfl) (by kernel_rfl) ?_
  intro wd hwd
  have e0 : wd.cell? ⟨w.heap.size, 0, none⟩ = some (.int .u8 (x.1 : Int)) := by rw [hwd]; simp
  have e1 : wd.cell? ⟨w.heap.size, 1, none⟩ = some (.int .u32 (x.2 : Int)) := by rw [hwd]; simp
  have e2 : wd.cell? ⟨w.heap.size + 1, 0, none⟩ = some (.int .u8 (y.1 : Int)) := by rw [hwd]; simp
  have e3 : wd.cell? ⟨w.heap.size + 1, 1, none⟩ = some (.int .u32 (y.2 : Int)) := by rw [hwd]; simp
  have hW : Hid (wd = ((w.alloc (.cells #[.int .u8 (x.1 : Int), .int .u32 (x.2 : Int)] 24)).alloc (.cells #[.int .u8 (y.1 : Int), .int .u32 (y.2 : Int)] 24)).drew) := hwd
  clear hwd
  simp only [List.take_succ_cons, List.take_zero, List.drop_succ_cons, List.drop_zero]
  repeat still_step
  still_call ((c1 _).mono fun _ _ ⟨he, hw⟩ => ⟨he, hw.symm⟩)
  repeat still_step
  still_call ((c2 _).mono fun _ _ ⟨he, hw⟩ => ⟨he, hw.symm⟩)
  refine wpStill_nil ?_
  go_wp2_with (go_at_call 29; (with_reducible refine (cmp_Or _ r s _ (by simp) (by simp)).mono ?_); rintro e w' ⟨rfl, rfl⟩)
  go_ret
  exact ⟨rfl, 1, _, by rw [hW.out]; exact grow3 _ _ _ _⟩

theorem below_grow (w : World) (q : Nat) (os : Array Obj) : Below w.heap.size w (grow (w.drewN q) os) :=
  ⟨rfl, rfl, rfl, by rw [size_grow]; exact Nat.le_add_right _ _, fun k hk => by
    show (w.heap ++ os)[k]? = _
    rw [Array.getElem?_append_left hk]⟩

/-- What lay before reads behind a call as it read. -/
theorem bcell {W w1 : World} (hb : Below W.heap.size W w1) : (∀ b o, b < W.heap.size → w1.cell? ⟨b, o, none⟩ = W.cell? ⟨b, o, none⟩) ∧ (∀ b o, b < W.heap.size → w1.frozen? ⟨b, o, none⟩ = W.frozen? ⟨b, o, none⟩) :=
  ⟨fun b o h => hb.cell (p := ⟨b, o, none⟩) h, fun b o h => hb.frozen (p := ⟨b, o, none⟩) h⟩

theorem compare_below (x y : Dot) (w : World) :
    Calls Try.prog 14 #[.agg #[.int .u8 (x.1 : Int), .int .u32 (x.2 : Int)], .agg #[.int .u8 (y.1 : Int), .int .u32 (y.2 : Int)]] w
      fun e w' => e = .returned (.int .i64 (cmpD x y)) ∧ Below w.heap.size w w' :=
  (dot_Compare x y w).mono fun _ _ ⟨he, q, os, hw⟩ => ⟨he, hw ▸ below_grow w q os⟩

/-- dot.May. -/
def mayD (d : Dot) : Bool := decide (d.1 < 8) && decide (d.2 ≠ 0)

theorem dot_May (d : Dot) (w : World) :
    Calls Try.prog 12 #[.agg #[.int .u8 (d.1 : Int), .int .u32 (d.2 : Int)]] w fun e w' => e = .returned (.bool (mayD d)) ∧ Below w.heap.size w w' := by
  obtain ⟨r, n⟩ := d
  by_cases h1 : r < 8
  · by_cases h2 : n = 0
    · subst h2
      go_enter Try.func12, Try.ntmps12
      go_wp2
      go_ret
      exact ⟨by simp [mayD], (Below.refl _ _).alloc (Nat.le_refl _) _⟩
    · have h2' : ((n : Int) == 0) = false := by simpa using h2
      have h3' : ((n : Int) != 0) = true := by simpa using h2
      go_enter Try.func12, Try.ntmps12
      go_wp2
      go_ret
      exact ⟨by simp [mayD, h1, h2], (Below.refl _ _).alloc (Nat.le_refl _) _⟩
  · go_enter Try.func12, Try.ntmps12
    go_wp2
    go_ret
    exact ⟨by simp [mayD, h1], (Below.refl _ _).alloc (Nat.le_refl _) _⟩

theorem ref_May (d : Dot) (w : World) :
    Calls Try.prog 13 #[.agg #[.int .u8 (d.1 : Int), .int .u32 (d.2 : Int)]] w fun e w' => e = .returned (.bool (mayD d)) ∧ Below w.heap.size w w' := by
  obtain ⟨r, n⟩ := d
  by_cases h1 : r < 8
  · by_cases h2 : n = 0
    · subst h2
      go_enter Try.func13, Try.ntmps13
      go_wp2
      go_ret
      exact ⟨by simp [mayD], (Below.refl _ _).alloc (Nat.le_refl _) _⟩
    · go_enter Try.func13, Try.ntmps13
      go_wp2
      go_ret
      exact ⟨by simp [mayD, h1, h2]; omega, (Below.refl _ _).alloc (Nat.le_refl _) _⟩
  · go_enter Try.func13, Try.ntmps13
    go_wp2
    go_ret
    exact ⟨by simp [mayD, h1], (Below.refl _ _).alloc (Nat.le_refl _) _⟩

end Go.Proofs.Ytmjmgjdklhdcdaa
