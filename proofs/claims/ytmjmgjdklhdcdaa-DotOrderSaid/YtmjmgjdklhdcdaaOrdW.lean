/-
  The law DotOrder: its walks, one for each way through its tests.
-/
import Derived.Test.YtmjmgjdklhdcdaaOrdL
namespace Go.Proofs.Ytmjmgjdklhdcdaa
set_option linter.unusedVariables false
set_option linter.unusedSimpArgs false
open Go Go.RowKit

set_option maxHeartbeats 4000000 in
theorem ord_p_n_2e1_ne {r0 n0 r1 n1 r2 n2 k0 k1 : Nat} {e1 : Int} (w : World)
    (hab : ∀ W, Calls Try.prog 14 #[.agg #[.int .u8 (r0 : Int), .int .u32 (n0 : Int)], .agg #[.int .u8 (r1 : Int), .int .u32 (n1 : Int)]] W fun e w' => e = .returned (.int .i64 (1)) ∧ Below W.heap.size W w')
    (hba : ∀ W, Calls Try.prog 14 #[.agg #[.int .u8 (r1 : Int), .int .u32 (n1 : Int)], .agg #[.int .u8 (r0 : Int), .int .u32 (n0 : Int)]] W fun e w' => e = .returned (.int .i64 (-1)) ∧ Below W.heap.size W w')
    (hk0 : ∀ W, Calls Try.prog 8 #[.agg #[.int .u8 (r0 : Int), .int .u32 (n0 : Int)]] W fun e w' => e = .returned (.tuple #[.int .u64 (k0 : Int), .int .i64 2]) ∧ Below W.heap.size W w')
    (hk1 : ∀ W, Calls Try.prog 8 #[.agg #[.int .u8 (r1 : Int), .int .u32 (n1 : Int)]] W fun e w' => e = .returned (.tuple #[.int .u64 (k1 : Int), .int .i64 e1]) ∧ Below W.heap.size W w')
    (heq : ∀ W, (binOp .eql 24 (.agg #[.int .u8 (r0 : Int), .int .u32 (n0 : Int)]) (.agg #[.int .u8 (r1 : Int), .int .u32 (n1 : Int)])).run Try.prog W = .ok (.bool false) W) :
    Calls Try.prog 7 #[.agg #[.int .u8 (r0 : Int), .int .u32 (n0 : Int)], .agg #[.int .u8 (r1 : Int), .int .u32 (n1 : Int)], .agg #[.int .u8 (r2 : Int), .int .u32 (n2 : Int)]] w fun e w' => e = .returned (.bool true) ∧ Below w.heap.size w w' := by
  go_enter Try.func7, Try.ntmps7
  go_wp2
  refine wp_region_later_n (by kernel_rfl) (by kernel_rfl) ?_
  intro wd hwd
  have c0 : wd.cell? ⟨w.heap.size, 0, none⟩ = some (.int .u8 (r0 : Int)) := by rw [hwd]; go_simp
  have c1 : wd.cell? ⟨w.heap.size, 1, none⟩ = some (.int .u32 (n0 : Int)) := by rw [hwd]; go_simp
  have c2 : wd.cell? ⟨w.heap.size + 1, 0, none⟩ = some (.int .u8 (r1 : Int)) := by rw [hwd]; go_simp
  have c3 : wd.cell? ⟨w.heap.size + 1, 1, none⟩ = some (.int .u32 (n1 : Int)) := by rw [hwd]; go_simp
  have c4 : wd.cell? ⟨w.heap.size + 1 + 1, 0, none⟩ = some (.int .u8 (r2 : Int)) := by rw [hwd]; go_simp
  have c5 : wd.cell? ⟨w.heap.size + 1 + 1, 1, none⟩ = some (.int .u32 (n2 : Int)) := by rw [hwd]; go_simp
  have hB0 := hid (show Below w.heap.size w wd by rw [hwd]; exact (((Below.refl _ _).alloc (Nat.le_refl _) _).alloc (by first | (go_simp; done) | (go_simp; omega)) _).alloc (by first | (go_simp; done) | (go_simp; omega)) _)
  clear hwd
  have f0 : ∀ p : Later wd.heap.size wd, p.val.cell? ⟨w.heap.size, 0, none⟩ = some (.int .u8 (r0 : Int)) := fun p => cell_keep p.ok c0
  have f1 : ∀ p : Later wd.heap.size wd, p.val.cell? ⟨w.heap.size, 1, none⟩ = some (.int .u32 (n0 : Int)) := fun p => cell_keep p.ok c1
  have f2 : ∀ p : Later wd.heap.size wd, p.val.cell? ⟨w.heap.size + 1, 0, none⟩ = some (.int .u8 (r1 : Int)) := fun p => cell_keep p.ok c2
  have f3 : ∀ p : Later wd.heap.size wd, p.val.cell? ⟨w.heap.size + 1, 1, none⟩ = some (.int .u32 (n1 : Int)) := fun p => cell_keep p.ok c3
  have f4 : ∀ p : Later wd.heap.size wd, p.val.cell? ⟨w.heap.size + 1 + 1, 0, none⟩ = some (.int .u8 (r2 : Int)) := fun p => cell_keep p.ok c4
  have f5 : ∀ p : Later wd.heap.size wd, p.val.cell? ⟨w.heap.size + 1 + 1, 1, none⟩ = some (.int .u32 (n2 : Int)) := fun p => cell_keep p.ok c5
  repeat (go_big_quiet_step ((go_at_call 14; (first | with_reducible exact Calls.later_of (Nat.le_refl _) (hab _) | with_reducible exact Calls.later_of (Nat.le_refl _) (hba _)))))
  refine wpQuiet_nil ?_
  rintro _ ⟨p, rfl⟩
  have g0 := f0 p
  have g1 := f1 p
  have g2 := f2 p
  have g3 := f3 p
  have hpo := hid p.ok
  clear f0 f1 f2 f3 f4 f5 c0 c1 c2 c3 c4 c5
  have HB1 := hid (hB0.out.trans (hpo.out.mono hB0.out.size))
  clear hB0 hpo
  generalize p.val = wq at g0 g1 g2 g3 HB1 ⊢
  go_wp2_with fail
  refine (hk0 _).mono ?_
  rintro e w2 ⟨rfl, hB⟩
  have a0 := cell_keep hB g0
  have a1 := cell_keep hB g1
  have a2 := cell_keep hB g2
  have a3 := cell_keep hB g3
  have HB2 := hid (HB1.out.trans (hB.mono HB1.out.size))
  clear hB HB1 g0 g1 g2 g3
  go_wp2_with fail
  refine (hk1 _).mono ?_
  rintro e w3 ⟨rfl, hB⟩
  have b0 := cell_keep hB a0
  have b1 := cell_keep hB a1
  have b2 := cell_keep hB a2
  have b3 := cell_keep hB a3
  have HB3 := hid (HB2.out.trans (hB.mono HB2.out.size))
  clear hB HB2 a0 a1 a2 a3
  go_wp2_with fail
  refine (law_head _).mono ?_
  rintro e w4 ⟨rfl, hB⟩
  go_wp2
  go_ret
  exact ⟨rfl, HB3.out.trans (hB.mono HB3.out.size)⟩

set_option maxHeartbeats 4000000 in
theorem ord_p_n_02_ne {r0 n0 r1 n1 r2 n2 k0 k1 : Nat} (w : World)
    (hab : ∀ W, Calls Try.prog 14 #[.agg #[.int .u8 (r0 : Int), .int .u32 (n0 : Int)], .agg #[.int .u8 (r1 : Int), .int .u32 (n1 : Int)]] W fun e w' => e = .returned (.int .i64 (1)) ∧ Below W.heap.size W w')
    (hba : ∀ W, Calls Try.prog 14 #[.agg #[.int .u8 (r1 : Int), .int .u32 (n1 : Int)], .agg #[.int .u8 (r0 : Int), .int .u32 (n0 : Int)]] W fun e w' => e = .returned (.int .i64 (-1)) ∧ Below W.heap.size W w')
    (hk0 : ∀ W, Calls Try.prog 8 #[.agg #[.int .u8 (r0 : Int), .int .u32 (n0 : Int)]] W fun e w' => e = .returned (.tuple #[.int .u64 (k0 : Int), .int .i64 0]) ∧ Below W.heap.size W w')
    (hk1 : ∀ W, Calls Try.prog 8 #[.agg #[.int .u8 (r1 : Int), .int .u32 (n1 : Int)]] W fun e w' => e = .returned (.tuple #[.int .u64 (k1 : Int), .int .i64 2]) ∧ Below W.heap.size W w')
    (heq : ∀ W, (binOp .eql 24 (.agg #[.int .u8 (r0 : Int), .int .u32 (n0 : Int)]) (.agg #[.int .u8 (r1 : Int), .int .u32 (n1 : Int)])).run Try.prog W = .ok (.bool false) W) :
    Calls Try.prog 7 #[.agg #[.int .u8 (r0 : Int), .int .u32 (n0 : Int)], .agg #[.int .u8 (r1 : Int), .int .u32 (n1 : Int)], .agg #[.int .u8 (r2 : Int), .int .u32 (n2 : Int)]] w fun e w' => e = .returned (.bool true) ∧ Below w.heap.size w w' := by
  go_enter Try.func7, Try.ntmps7
  go_wp2
  refine wp_region_later_n (by kernel_rfl) (by kernel_rfl) ?_
  intro wd hwd
  have c0 : wd.cell? ⟨w.heap.size, 0, none⟩ = some (.int .u8 (r0 : Int)) := by rw [hwd]; go_simp
  have c1 : wd.cell? ⟨w.heap.size, 1, none⟩ = some (.int .u32 (n0 : Int)) := by rw [hwd]; go_simp
  have c2 : wd.cell? ⟨w.heap.size + 1, 0, none⟩ = some (.int .u8 (r1 : Int)) := by rw [hwd]; go_simp
  have c3 : wd.cell? ⟨w.heap.size + 1, 1, none⟩ = some (.int .u32 (n1 : Int)) := by rw [hwd]; go_simp
  have c4 : wd.cell? ⟨w.heap.size + 1 + 1, 0, none⟩ = some (.int .u8 (r2 : Int)) := by rw [hwd]; go_simp
  have c5 : wd.cell? ⟨w.heap.size + 1 + 1, 1, none⟩ = some (.int .u32 (n2 : Int)) := by rw [hwd]; go_simp
  have hB0 := hid (show Below w.heap.size w wd by rw [hwd]; exact (((Below.refl _ _).alloc (Nat.le_refl _) _).alloc (by first | (go_simp; done) | (go_simp; omega)) _).alloc (by first | (go_simp; done) | (go_simp; omega)) _)
  clear hwd
  have f0 : ∀ p : Later wd.heap.size wd, p.val.cell? ⟨w.heap.size, 0, none⟩ = some (.int .u8 (r0 : Int)) := fun p => cell_keep p.ok c0
  have f1 : ∀ p : Later wd.heap.size wd, p.val.cell? ⟨w.heap.size, 1, none⟩ = some (.int .u32 (n0 : Int)) := fun p => cell_keep p.ok c1
  have f2 : ∀ p : Later wd.heap.size wd, p.val.cell? ⟨w.heap.size + 1, 0, none⟩ = some (.int .u8 (r1 : Int)) := fun p => cell_keep p.ok c2
  have f3 : ∀ p : Later wd.heap.size wd, p.val.cell? ⟨w.heap.size + 1, 1, none⟩ = some (.int .u32 (n1 : Int)) := fun p => cell_keep p.ok c3
  have f4 : ∀ p : Later wd.heap.size wd, p.val.cell? ⟨w.heap.size + 1 + 1, 0, none⟩ = some (.int .u8 (r2 : Int)) := fun p => cell_keep p.ok c4
  have f5 : ∀ p : Later wd.heap.size wd, p.val.cell? ⟨w.heap.size + 1 + 1, 1, none⟩ = some (.int .u32 (n2 : Int)) := fun p => cell_keep p.ok c5
  repeat (go_big_quiet_step ((go_at_call 14; (first | with_reducible exact Calls.later_of (Nat.le_refl _) (hab _) | with_reducible exact Calls.later_of (Nat.le_refl _) (hba _)))))
  refine wpQuiet_nil ?_
  rintro _ ⟨p, rfl⟩
  have g0 := f0 p
  have g1 := f1 p
  have g2 := f2 p
  have g3 := f3 p
  have hpo := hid p.ok
  clear f0 f1 f2 f3 f4 f5 c0 c1 c2 c3 c4 c5
  have HB1 := hid (hB0.out.trans (hpo.out.mono hB0.out.size))
  clear hB0 hpo
  generalize p.val = wq at g0 g1 g2 g3 HB1 ⊢
  go_wp2_with fail
  refine (hk0 _).mono ?_
  rintro e w2 ⟨rfl, hB⟩
  have a0 := cell_keep hB g0
  have a1 := cell_keep hB g1
  have a2 := cell_keep hB g2
  have a3 := cell_keep hB g3
  have HB2 := hid (HB1.out.trans (hB.mono HB1.out.size))
  clear hB HB1 g0 g1 g2 g3
  go_wp2_with fail
  refine (hk1 _).mono ?_
  rintro e w3 ⟨rfl, hB⟩
  have b0 := cell_keep hB a0
  have b1 := cell_keep hB a1
  have b2 := cell_keep hB a2
  have b3 := cell_keep hB a3
  have HB3 := hid (HB2.out.trans (hB.mono HB2.out.size))
  clear hB HB2 a0 a1 a2 a3
  go_wp2_with fail
  refine (law_head _).mono ?_
  rintro e w4 ⟨rfl, hB⟩
  go_wp2
  go_ret
  exact ⟨rfl, HB3.out.trans (hB.mono HB3.out.size)⟩

set_option maxHeartbeats 4000000 in
theorem ord_p_n_00_ne {r0 n0 r1 n1 r2 n2 k0 k1 : Nat} (w : World)
    (hab : ∀ W, Calls Try.prog 14 #[.agg #[.int .u8 (r0 : Int), .int .u32 (n0 : Int)], .agg #[.int .u8 (r1 : Int), .int .u32 (n1 : Int)]] W fun e w' => e = .returned (.int .i64 (1)) ∧ Below W.heap.size W w')
    (hba : ∀ W, Calls Try.prog 14 #[.agg #[.int .u8 (r1 : Int), .int .u32 (n1 : Int)], .agg #[.int .u8 (r0 : Int), .int .u32 (n0 : Int)]] W fun e w' => e = .returned (.int .i64 (-1)) ∧ Below W.heap.size W w')
    (hk0 : ∀ W, Calls Try.prog 8 #[.agg #[.int .u8 (r0 : Int), .int .u32 (n0 : Int)]] W fun e w' => e = .returned (.tuple #[.int .u64 (k0 : Int), .int .i64 0]) ∧ Below W.heap.size W w')
    (hk1 : ∀ W, Calls Try.prog 8 #[.agg #[.int .u8 (r1 : Int), .int .u32 (n1 : Int)]] W fun e w' => e = .returned (.tuple #[.int .u64 (k1 : Int), .int .i64 0]) ∧ Below W.heap.size W w')
    (heq : ∀ W, (binOp .eql 24 (.agg #[.int .u8 (r0 : Int), .int .u32 (n0 : Int)]) (.agg #[.int .u8 (r1 : Int), .int .u32 (n1 : Int)])).run Try.prog W = .ok (.bool false) W)
    (hkne : ((k0 : Int) == (k1 : Int)) = false)
    (hrne : ((r0 : Int) == (r1 : Int)) = false) :
    Calls Try.prog 7 #[.agg #[.int .u8 (r0 : Int), .int .u32 (n0 : Int)], .agg #[.int .u8 (r1 : Int), .int .u32 (n1 : Int)], .agg #[.int .u8 (r2 : Int), .int .u32 (n2 : Int)]] w fun e w' => e = .returned (.bool true) ∧ Below w.heap.size w w' := by
  have hr1 : ¬ (r0 : Int) = (r1 : Int) := by simpa using hrne
  have hr2 : ((r0 : Int) != (r1 : Int)) = true := by simpa using hr1
  have hr3 : ¬ r0 = r1 := fun e => hr1 (by rw [e])
  have hr4 : (r0 == r1) = false := by simpa using hr3
  have hr5 : (r0 != r1) = true := by simpa using hr3
  go_enter Try.func7, Try.ntmps7
  go_wp2
  refine wp_region_later_n (by kernel_rfl) (by kernel_rfl) ?_
  intro wd hwd
  have c0 : wd.cell? ⟨w.heap.size, 0, none⟩ = some (.int .u8 (r0 : Int)) := by rw [hwd]; go_simp
  have c1 : wd.cell? ⟨w.heap.size, 1, none⟩ = some (.int .u32 (n0 : Int)) := by rw [hwd]; go_simp
  have c2 : wd.cell? ⟨w.heap.size + 1, 0, none⟩ = some (.int .u8 (r1 : Int)) := by rw [hwd]; go_simp
  have c3 : wd.cell? ⟨w.heap.size + 1, 1, none⟩ = some (.int .u32 (n1 : Int)) := by rw [hwd]; go_simp
  have c4 : wd.cell? ⟨w.heap.size + 1 + 1, 0, none⟩ = some (.int .u8 (r2 : Int)) := by rw [hwd]; go_simp
  have c5 : wd.cell? ⟨w.heap.size + 1 + 1, 1, none⟩ = some (.int .u32 (n2 : Int)) := by rw [hwd]; go_simp
  have hB0 := hid (show Below w.heap.size w wd by rw [hwd]; exact (((Below.refl _ _).alloc (Nat.le_refl _) _).alloc (by first | (go_simp; done) | (go_simp; omega)) _).alloc (by first | (go_simp; done) | (go_simp; omega)) _)
  clear hwd
  have f0 : ∀ p : Later wd.heap.size wd, p.val.cell? ⟨w.heap.size, 0, none⟩ = some (.int .u8 (r0 : Int)) := fun p => cell_keep p.ok c0
  have f1 : ∀ p : Later wd.heap.size wd, p.val.cell? ⟨w.heap.size, 1, none⟩ = some (.int .u32 (n0 : Int)) := fun p => cell_keep p.ok c1
  have f2 : ∀ p : Later wd.heap.size wd, p.val.cell? ⟨w.heap.size + 1, 0, none⟩ = some (.int .u8 (r1 : Int)) := fun p => cell_keep p.ok c2
  have f3 : ∀ p : Later wd.heap.size wd, p.val.cell? ⟨w.heap.size + 1, 1, none⟩ = some (.int .u32 (n1 : Int)) := fun p => cell_keep p.ok c3
  have f4 : ∀ p : Later wd.heap.size wd, p.val.cell? ⟨w.heap.size + 1 + 1, 0, none⟩ = some (.int .u8 (r2 : Int)) := fun p => cell_keep p.ok c4
  have f5 : ∀ p : Later wd.heap.size wd, p.val.cell? ⟨w.heap.size + 1 + 1, 1, none⟩ = some (.int .u32 (n2 : Int)) := fun p => cell_keep p.ok c5
  repeat (go_big_quiet_step ((go_at_call 14; (first | with_reducible exact Calls.later_of (Nat.le_refl _) (hab _) | with_reducible exact Calls.later_of (Nat.le_refl _) (hba _)))))
  refine wpQuiet_nil ?_
  rintro _ ⟨p, rfl⟩
  have g0 := f0 p
  have g1 := f1 p
  have g2 := f2 p
  have g3 := f3 p
  have hpo := hid p.ok
  clear f0 f1 f2 f3 f4 f5 c0 c1 c2 c3 c4 c5
  have HB1 := hid (hB0.out.trans (hpo.out.mono hB0.out.size))
  clear hB0 hpo
  generalize p.val = wq at g0 g1 g2 g3 HB1 ⊢
  go_wp2_with fail
  refine (hk0 _).mono ?_
  rintro e w2 ⟨rfl, hB⟩
  have a0 := cell_keep hB g0
  have a1 := cell_keep hB g1
  have a2 := cell_keep hB g2
  have a3 := cell_keep hB g3
  have HB2 := hid (HB1.out.trans (hB.mono HB1.out.size))
  clear hB HB1 g0 g1 g2 g3
  go_wp2_with fail
  refine (hk1 _).mono ?_
  rintro e w3 ⟨rfl, hB⟩
  have b0 := cell_keep hB a0
  have b1 := cell_keep hB a1
  have b2 := cell_keep hB a2
  have b3 := cell_keep hB a3
  have HB3 := hid (HB2.out.trans (hB.mono HB2.out.size))
  clear hB HB2 a0 a1 a2 a3
  go_wp2_with fail
  refine (law_head _).mono ?_
  rintro e w4 ⟨rfl, hB⟩
  go_wp2
  go_ret
  exact ⟨rfl, HB3.out.trans (hB.mono HB3.out.size)⟩

set_option maxHeartbeats 4000000 in
theorem ord_p_n_00_same {r0 n0 n1 r2 n2 k0 k1 : Nat} (w : World)
    (hab : ∀ W, Calls Try.prog 14 #[.agg #[.int .u8 (r0 : Int), .int .u32 (n0 : Int)], .agg #[.int .u8 (r0 : Int), .int .u32 (n1 : Int)]] W fun e w' => e = .returned (.int .i64 (1)) ∧ Below W.heap.size W w')
    (hba : ∀ W, Calls Try.prog 14 #[.agg #[.int .u8 (r0 : Int), .int .u32 (n1 : Int)], .agg #[.int .u8 (r0 : Int), .int .u32 (n0 : Int)]] W fun e w' => e = .returned (.int .i64 (-1)) ∧ Below W.heap.size W w')
    (hk0 : ∀ W, Calls Try.prog 8 #[.agg #[.int .u8 (r0 : Int), .int .u32 (n0 : Int)]] W fun e w' => e = .returned (.tuple #[.int .u64 (k0 : Int), .int .i64 0]) ∧ Below W.heap.size W w')
    (hk1 : ∀ W, Calls Try.prog 8 #[.agg #[.int .u8 (r0 : Int), .int .u32 (n1 : Int)]] W fun e w' => e = .returned (.tuple #[.int .u64 (k1 : Int), .int .i64 0]) ∧ Below W.heap.size W w')
    (heq : ∀ W, (binOp .eql 24 (.agg #[.int .u8 (r0 : Int), .int .u32 (n0 : Int)]) (.agg #[.int .u8 (r0 : Int), .int .u32 (n1 : Int)])).run Try.prog W = .ok (.bool false) W)
    (hkne : ((k0 : Int) == (k1 : Int)) = false)
    (hklt : ¬ (k0 : Int) < (k1 : Int)) :
    Calls Try.prog 7 #[.agg #[.int .u8 (r0 : Int), .int .u32 (n0 : Int)], .agg #[.int .u8 (r0 : Int), .int .u32 (n1 : Int)], .agg #[.int .u8 (r2 : Int), .int .u32 (n2 : Int)]] w fun e w' => e = .returned (.bool true) ∧ Below w.heap.size w w' := by
  have hkl2 : ¬ k0 < k1 := by omega
  go_enter Try.func7, Try.ntmps7
  go_wp2
  refine wp_region_later_n (by kernel_rfl) (by kernel_rfl) ?_
  intro wd hwd
  have c0 : wd.cell? ⟨w.heap.size, 0, none⟩ = some (.int .u8 (r0 : Int)) := by rw [hwd]; go_simp
  have c1 : wd.cell? ⟨w.heap.size, 1, none⟩ = some (.int .u32 (n0 : Int)) := by rw [hwd]; go_simp
  have c2 : wd.cell? ⟨w.heap.size + 1, 0, none⟩ = some (.int .u8 (r0 : Int)) := by rw [hwd]; go_simp
  have c3 : wd.cell? ⟨w.heap.size + 1, 1, none⟩ = some (.int .u32 (n1 : Int)) := by rw [hwd]; go_simp
  have c4 : wd.cell? ⟨w.heap.size + 1 + 1, 0, none⟩ = some (.int .u8 (r2 : Int)) := by rw [hwd]; go_simp
  have c5 : wd.cell? ⟨w.heap.size + 1 + 1, 1, none⟩ = some (.int .u32 (n2 : Int)) := by rw [hwd]; go_simp
  have hB0 := hid (show Below w.heap.size w wd by rw [hwd]; exact (((Below.refl _ _).alloc (Nat.le_refl _) _).alloc (by first | (go_simp; done) | (go_simp; omega)) _).alloc (by first | (go_simp; done) | (go_simp; omega)) _)
  clear hwd
  have f0 : ∀ p : Later wd.heap.size wd, p.val.cell? ⟨w.heap.size, 0, none⟩ = some (.int .u8 (r0 : Int)) := fun p => cell_keep p.ok c0
  have f1 : ∀ p : Later wd.heap.size wd, p.val.cell? ⟨w.heap.size, 1, none⟩ = some (.int .u32 (n0 : Int)) := fun p => cell_keep p.ok c1
  have f2 : ∀ p : Later wd.heap.size wd, p.val.cell? ⟨w.heap.size + 1, 0, none⟩ = some (.int .u8 (r0 : Int)) := fun p => cell_keep p.ok c2
  have f3 : ∀ p : Later wd.heap.size wd, p.val.cell? ⟨w.heap.size + 1, 1, none⟩ = some (.int .u32 (n1 : Int)) := fun p => cell_keep p.ok c3
  have f4 : ∀ p : Later wd.heap.size wd, p.val.cell? ⟨w.heap.size + 1 + 1, 0, none⟩ = some (.int .u8 (r2 : Int)) := fun p => cell_keep p.ok c4
  have f5 : ∀ p : Later wd.heap.size wd, p.val.cell? ⟨w.heap.size + 1 + 1, 1, none⟩ = some (.int .u32 (n2 : Int)) := fun p => cell_keep p.ok c5
  repeat (go_big_quiet_step ((go_at_call 14; (first | with_reducible exact Calls.later_of (Nat.le_refl _) (hab _) | with_reducible exact Calls.later_of (Nat.le_refl _) (hba _)))))
  refine wpQuiet_nil ?_
  rintro _ ⟨p, rfl⟩
  have g0 := f0 p
  have g1 := f1 p
  have g2 := f2 p
  have g3 := f3 p
  have hpo := hid p.ok
  clear f0 f1 f2 f3 f4 f5 c0 c1 c2 c3 c4 c5
  have HB1 := hid (hB0.out.trans (hpo.out.mono hB0.out.size))
  clear hB0 hpo
  generalize p.val = wq at g0 g1 g2 g3 HB1 ⊢
  go_wp2_with fail
  refine (hk0 _).mono ?_
  rintro e w2 ⟨rfl, hB⟩
  have a0 := cell_keep hB g0
  have a1 := cell_keep hB g1
  have a2 := cell_keep hB g2
  have a3 := cell_keep hB g3
  have HB2 := hid (HB1.out.trans (hB.mono HB1.out.size))
  clear hB HB1 g0 g1 g2 g3
  go_wp2_with fail
  refine (hk1 _).mono ?_
  rintro e w3 ⟨rfl, hB⟩
  have b0 := cell_keep hB a0
  have b1 := cell_keep hB a1
  have b2 := cell_keep hB a2
  have b3 := cell_keep hB a3
  have HB3 := hid (HB2.out.trans (hB.mono HB2.out.size))
  clear hB HB2 a0 a1 a2 a3
  go_wp2_with fail
  refine (hab _).mono ?_
  rintro e w5 ⟨rfl, hB⟩
  have HB5 := hid (HB3.out.trans (hB.mono HB3.out.size))
  clear hB HB3
  go_wp2_with fail
  refine (law_head _).mono ?_
  rintro e w4 ⟨rfl, hB⟩
  go_wp2
  go_ret
  exact ⟨rfl, HB5.out.trans (hB.mono HB5.out.size)⟩

set_option maxHeartbeats 4000000 in
theorem ord_o_gt_2e1_ne {r0 n0 r2 n2 k0 : Nat} {y : Int} (w : World)
    (hab : ∀ W, Calls Try.prog 14 #[.agg #[.int .u8 (r0 : Int), .int .u32 (n0 : Int)], .agg #[.int .u8 (r0 : Int), .int .u32 (n0 : Int)]] W fun e w' => e = .returned (.int .i64 (0)) ∧ Below W.heap.size W w')
    (hbc : ∀ W, Calls Try.prog 14 #[.agg #[.int .u8 (r0 : Int), .int .u32 (n0 : Int)], .agg #[.int .u8 (r2 : Int), .int .u32 (n2 : Int)]] W fun e w' => e = .returned (.int .i64 y) ∧ Below W.heap.size W w')
    (hk0 : ∀ W, Calls Try.prog 8 #[.agg #[.int .u8 (r0 : Int), .int .u32 (n0 : Int)]] W fun e w' => e = .returned (.tuple #[.int .u64 (k0 : Int), .int .i64 2]) ∧ Below W.heap.size W w')
    (heq : ∀ W, (binOp .eql 24 (.agg #[.int .u8 (r0 : Int), .int .u32 (n0 : Int)]) (.agg #[.int .u8 (r0 : Int), .int .u32 (n0 : Int)])).run Try.prog W = .ok (.bool true) W)
    (hy : ¬ y ≤ 0) :
    Calls Try.prog 7 #[.agg #[.int .u8 (r0 : Int), .int .u32 (n0 : Int)], .agg #[.int .u8 (r0 : Int), .int .u32 (n0 : Int)], .agg #[.int .u8 (r2 : Int), .int .u32 (n2 : Int)]] w fun e w' => e = .returned (.bool true) ∧ Below w.heap.size w w' := by
  have hyd : decide (y ≤ 0) = false := decide_eq_false hy
  have hy0 : 0 < y := by omega
  go_enter Try.func7, Try.ntmps7
  go_wp2
  refine wp_region_later_n (by kernel_rfl) (by kernel_rfl) ?_
  intro wd hwd
  have c0 : wd.cell? ⟨w.heap.size, 0, none⟩ = some (.int .u8 (r0 : Int)) := by rw [hwd]; go_simp
  have c1 : wd.cell? ⟨w.heap.size, 1, none⟩ = some (.int .u32 (n0 : Int)) := by rw [hwd]; go_simp
  have c2 : wd.cell? ⟨w.heap.size + 1, 0, none⟩ = some (.int .u8 (r0 : Int)) := by rw [hwd]; go_simp
  have c3 : wd.cell? ⟨w.heap.size + 1, 1, none⟩ = some (.int .u32 (n0 : Int)) := by rw [hwd]; go_simp
  have c4 : wd.cell? ⟨w.heap.size + 1 + 1, 0, none⟩ = some (.int .u8 (r2 : Int)) := by rw [hwd]; go_simp
  have c5 : wd.cell? ⟨w.heap.size + 1 + 1, 1, none⟩ = some (.int .u32 (n2 : Int)) := by rw [hwd]; go_simp
  have hB0 := hid (show Below w.heap.size w wd by rw [hwd]; exact (((Below.refl _ _).alloc (Nat.le_refl _) _).alloc (by first | (go_simp; done) | (go_simp; omega)) _).alloc (by first | (go_simp; done) | (go_simp; omega)) _)
  clear hwd
  have f0 : ∀ p : Later wd.heap.size wd, p.val.cell? ⟨w.heap.size, 0, none⟩ = some (.int .u8 (r0 : Int)) := fun p => cell_keep p.ok c0
  have f1 : ∀ p : Later wd.heap.size wd, p.val.cell? ⟨w.heap.size, 1, none⟩ = some (.int .u32 (n0 : Int)) := fun p => cell_keep p.ok c1
  have f2 : ∀ p : Later wd.heap.size wd, p.val.cell? ⟨w.heap.size + 1, 0, none⟩ = some (.int .u8 (r0 : Int)) := fun p => cell_keep p.ok c2
  have f3 : ∀ p : Later wd.heap.size wd, p.val.cell? ⟨w.heap.size + 1, 1, none⟩ = some (.int .u32 (n0 : Int)) := fun p => cell_keep p.ok c3
  have f4 : ∀ p : Later wd.heap.size wd, p.val.cell? ⟨w.heap.size + 1 + 1, 0, none⟩ = some (.int .u8 (r2 : Int)) := fun p => cell_keep p.ok c4
  have f5 : ∀ p : Later wd.heap.size wd, p.val.cell? ⟨w.heap.size + 1 + 1, 1, none⟩ = some (.int .u32 (n2 : Int)) := fun p => cell_keep p.ok c5
  repeat (go_big_quiet_step ((go_at_call 14; (first | with_reducible exact Calls.later_of (Nat.le_refl _) (hab _) | with_reducible exact Calls.later_of (Nat.le_refl _) (hbc _)))))
  refine wpQuiet_nil ?_
  rintro _ ⟨p, rfl⟩
  have g0 := f0 p
  have g1 := f1 p
  have g2 := f2 p
  have g3 := f3 p
  have hpo := hid p.ok
  clear f0 f1 f2 f3 f4 f5 c0 c1 c2 c3 c4 c5
  have HB1 := hid (hB0.out.trans (hpo.out.mono hB0.out.size))
  clear hB0 hpo
  generalize p.val = wq at g0 g1 g2 g3 HB1 ⊢
  go_wp2_with fail
  refine (hk0 _).mono ?_
  rintro e w2 ⟨rfl, hB⟩
  have a0 := cell_keep hB g0
  have a1 := cell_keep hB g1
  have a2 := cell_keep hB g2
  have a3 := cell_keep hB g3
  have HB2 := hid (HB1.out.trans (hB.mono HB1.out.size))
  clear hB HB1 g0 g1 g2 g3
  go_wp2_with fail
  refine (hk0 _).mono ?_
  rintro e w3 ⟨rfl, hB⟩
  have b0 := cell_keep hB a0
  have b1 := cell_keep hB a1
  have b2 := cell_keep hB a2
  have b3 := cell_keep hB a3
  have HB3 := hid (HB2.out.trans (hB.mono HB2.out.size))
  clear hB HB2 a0 a1 a2 a3
  go_wp2_with fail
  refine (law_head _).mono ?_
  rintro e w4 ⟨rfl, hB⟩
  go_wp2
  go_ret
  exact ⟨rfl, HB3.out.trans (hB.mono HB3.out.size)⟩

set_option maxHeartbeats 4000000 in
theorem ord_o_gt_00_same {r0 n0 r2 n2 k0 : Nat} {y : Int} (w : World)
    (hab : ∀ W, Calls Try.prog 14 #[.agg #[.int .u8 (r0 : Int), .int .u32 (n0 : Int)], .agg #[.int .u8 (r0 : Int), .int .u32 (n0 : Int)]] W fun e w' => e = .returned (.int .i64 (0)) ∧ Below W.heap.size W w')
    (hbc : ∀ W, Calls Try.prog 14 #[.agg #[.int .u8 (r0 : Int), .int .u32 (n0 : Int)], .agg #[.int .u8 (r2 : Int), .int .u32 (n2 : Int)]] W fun e w' => e = .returned (.int .i64 y) ∧ Below W.heap.size W w')
    (hk0 : ∀ W, Calls Try.prog 8 #[.agg #[.int .u8 (r0 : Int), .int .u32 (n0 : Int)]] W fun e w' => e = .returned (.tuple #[.int .u64 (k0 : Int), .int .i64 0]) ∧ Below W.heap.size W w')
    (heq : ∀ W, (binOp .eql 24 (.agg #[.int .u8 (r0 : Int), .int .u32 (n0 : Int)]) (.agg #[.int .u8 (r0 : Int), .int .u32 (n0 : Int)])).run Try.prog W = .ok (.bool true) W)
    (hy : ¬ y ≤ 0) :
    Calls Try.prog 7 #[.agg #[.int .u8 (r0 : Int), .int .u32 (n0 : Int)], .agg #[.int .u8 (r0 : Int), .int .u32 (n0 : Int)], .agg #[.int .u8 (r2 : Int), .int .u32 (n2 : Int)]] w fun e w' => e = .returned (.bool true) ∧ Below w.heap.size w w' := by
  have hyd : decide (y ≤ 0) = false := decide_eq_false hy
  have hy0 : 0 < y := by omega
  go_enter Try.func7, Try.ntmps7
  go_wp2
  refine wp_region_later_n (by kernel_rfl) (by kernel_rfl) ?_
  intro wd hwd
  have c0 : wd.cell? ⟨w.heap.size, 0, none⟩ = some (.int .u8 (r0 : Int)) := by rw [hwd]; go_simp
  have c1 : wd.cell? ⟨w.heap.size, 1, none⟩ = some (.int .u32 (n0 : Int)) := by rw [hwd]; go_simp
  have c2 : wd.cell? ⟨w.heap.size + 1, 0, none⟩ = some (.int .u8 (r0 : Int)) := by rw [hwd]; go_simp
  have c3 : wd.cell? ⟨w.heap.size + 1, 1, none⟩ = some (.int .u32 (n0 : Int)) := by rw [hwd]; go_simp
  have c4 : wd.cell? ⟨w.heap.size + 1 + 1, 0, none⟩ = some (.int .u8 (r2 : Int)) := by rw [hwd]; go_simp
  have c5 : wd.cell? ⟨w.heap.size + 1 + 1, 1, none⟩ = some (.int .u32 (n2 : Int)) := by rw [hwd]; go_simp
  have hB0 := hid (show Below w.heap.size w wd by rw [hwd]; exact (((Below.refl _ _).alloc (Nat.le_refl _) _).alloc (by first | (go_simp; done) | (go_simp; omega)) _).alloc (by first | (go_simp; done) | (go_simp; omega)) _)
  clear hwd
  have f0 : ∀ p : Later wd.heap.size wd, p.val.cell? ⟨w.heap.size, 0, none⟩ = some (.int .u8 (r0 : Int)) := fun p => cell_keep p.ok c0
  have f1 : ∀ p : Later wd.heap.size wd, p.val.cell? ⟨w.heap.size, 1, none⟩ = some (.int .u32 (n0 : Int)) := fun p => cell_keep p.ok c1
  have f2 : ∀ p : Later wd.heap.size wd, p.val.cell? ⟨w.heap.size + 1, 0, none⟩ = some (.int .u8 (r0 : Int)) := fun p => cell_keep p.ok c2
  have f3 : ∀ p : Later wd.heap.size wd, p.val.cell? ⟨w.heap.size + 1, 1, none⟩ = some (.int .u32 (n0 : Int)) := fun p => cell_keep p.ok c3
  have f4 : ∀ p : Later wd.heap.size wd, p.val.cell? ⟨w.heap.size + 1 + 1, 0, none⟩ = some (.int .u8 (r2 : Int)) := fun p => cell_keep p.ok c4
  have f5 : ∀ p : Later wd.heap.size wd, p.val.cell? ⟨w.heap.size + 1 + 1, 1, none⟩ = some (.int .u32 (n2 : Int)) := fun p => cell_keep p.ok c5
  repeat (go_big_quiet_step ((go_at_call 14; (first | with_reducible exact Calls.later_of (Nat.le_refl _) (hab _) | with_reducible exact Calls.later_of (Nat.le_refl _) (hbc _)))))
  refine wpQuiet_nil ?_
  rintro _ ⟨p, rfl⟩
  have g0 := f0 p
  have g1 := f1 p
  have g2 := f2 p
  have g3 := f3 p
  have hpo := hid p.ok
  clear f0 f1 f2 f3 f4 f5 c0 c1 c2 c3 c4 c5
  have HB1 := hid (hB0.out.trans (hpo.out.mono hB0.out.size))
  clear hB0 hpo
  generalize p.val = wq at g0 g1 g2 g3 HB1 ⊢
  go_wp2_with fail
  refine (hk0 _).mono ?_
  rintro e w2 ⟨rfl, hB⟩
  have a0 := cell_keep hB g0
  have a1 := cell_keep hB g1
  have a2 := cell_keep hB g2
  have a3 := cell_keep hB g3
  have HB2 := hid (HB1.out.trans (hB.mono HB1.out.size))
  clear hB HB1 g0 g1 g2 g3
  go_wp2_with fail
  refine (hk0 _).mono ?_
  rintro e w3 ⟨rfl, hB⟩
  have b0 := cell_keep hB a0
  have b1 := cell_keep hB a1
  have b2 := cell_keep hB a2
  have b3 := cell_keep hB a3
  have HB3 := hid (HB2.out.trans (hB.mono HB2.out.size))
  clear hB HB2 a0 a1 a2 a3
  go_wp2_with fail
  refine (hab _).mono ?_
  rintro e w5 ⟨rfl, hB⟩
  have HB5 := hid (HB3.out.trans (hB.mono HB3.out.size))
  clear hB HB3
  go_wp2_with fail
  refine (law_head _).mono ?_
  rintro e w4 ⟨rfl, hB⟩
  go_wp2
  go_ret
  exact ⟨rfl, HB5.out.trans (hB.mono HB5.out.size)⟩

set_option maxHeartbeats 4000000 in
theorem ord_o_le_2e1_ne {r0 n0 r2 n2 k0 : Nat} {y : Int} (w : World)
    (hab : ∀ W, Calls Try.prog 14 #[.agg #[.int .u8 (r0 : Int), .int .u32 (n0 : Int)], .agg #[.int .u8 (r0 : Int), .int .u32 (n0 : Int)]] W fun e w' => e = .returned (.int .i64 (0)) ∧ Below W.heap.size W w')
    (hbc : ∀ W, Calls Try.prog 14 #[.agg #[.int .u8 (r0 : Int), .int .u32 (n0 : Int)], .agg #[.int .u8 (r2 : Int), .int .u32 (n2 : Int)]] W fun e w' => e = .returned (.int .i64 y) ∧ Below W.heap.size W w')
    (hk0 : ∀ W, Calls Try.prog 8 #[.agg #[.int .u8 (r0 : Int), .int .u32 (n0 : Int)]] W fun e w' => e = .returned (.tuple #[.int .u64 (k0 : Int), .int .i64 2]) ∧ Below W.heap.size W w')
    (heq : ∀ W, (binOp .eql 24 (.agg #[.int .u8 (r0 : Int), .int .u32 (n0 : Int)]) (.agg #[.int .u8 (r0 : Int), .int .u32 (n0 : Int)])).run Try.prog W = .ok (.bool true) W)
    (hy : y ≤ 0)
    (hz : ¬ 0 < y) :
    Calls Try.prog 7 #[.agg #[.int .u8 (r0 : Int), .int .u32 (n0 : Int)], .agg #[.int .u8 (r0 : Int), .int .u32 (n0 : Int)], .agg #[.int .u8 (r2 : Int), .int .u32 (n2 : Int)]] w fun e w' => e = .returned (.bool true) ∧ Below w.heap.size w w' := by
  go_enter Try.func7, Try.ntmps7
  go_wp2
  refine wp_region_later_n (by kernel_rfl) (by kernel_rfl) ?_
  intro wd hwd
  have c0 : wd.cell? ⟨w.heap.size, 0, none⟩ = some (.int .u8 (r0 : Int)) := by rw [hwd]; go_simp
  have c1 : wd.cell? ⟨w.heap.size, 1, none⟩ = some (.int .u32 (n0 : Int)) := by rw [hwd]; go_simp
  have c2 : wd.cell? ⟨w.heap.size + 1, 0, none⟩ = some (.int .u8 (r0 : Int)) := by rw [hwd]; go_simp
  have c3 : wd.cell? ⟨w.heap.size + 1, 1, none⟩ = some (.int .u32 (n0 : Int)) := by rw [hwd]; go_simp
  have c4 : wd.cell? ⟨w.heap.size + 1 + 1, 0, none⟩ = some (.int .u8 (r2 : Int)) := by rw [hwd]; go_simp
  have c5 : wd.cell? ⟨w.heap.size + 1 + 1, 1, none⟩ = some (.int .u32 (n2 : Int)) := by rw [hwd]; go_simp
  have hB0 := hid (show Below w.heap.size w wd by rw [hwd]; exact (((Below.refl _ _).alloc (Nat.le_refl _) _).alloc (by first | (go_simp; done) | (go_simp; omega)) _).alloc (by first | (go_simp; done) | (go_simp; omega)) _)
  clear hwd
  have f0 : ∀ p : Later wd.heap.size wd, p.val.cell? ⟨w.heap.size, 0, none⟩ = some (.int .u8 (r0 : Int)) := fun p => cell_keep p.ok c0
  have f1 : ∀ p : Later wd.heap.size wd, p.val.cell? ⟨w.heap.size, 1, none⟩ = some (.int .u32 (n0 : Int)) := fun p => cell_keep p.ok c1
  have f2 : ∀ p : Later wd.heap.size wd, p.val.cell? ⟨w.heap.size + 1, 0, none⟩ = some (.int .u8 (r0 : Int)) := fun p => cell_keep p.ok c2
  have f3 : ∀ p : Later wd.heap.size wd, p.val.cell? ⟨w.heap.size + 1, 1, none⟩ = some (.int .u32 (n0 : Int)) := fun p => cell_keep p.ok c3
  have f4 : ∀ p : Later wd.heap.size wd, p.val.cell? ⟨w.heap.size + 1 + 1, 0, none⟩ = some (.int .u8 (r2 : Int)) := fun p => cell_keep p.ok c4
  have f5 : ∀ p : Later wd.heap.size wd, p.val.cell? ⟨w.heap.size + 1 + 1, 1, none⟩ = some (.int .u32 (n2 : Int)) := fun p => cell_keep p.ok c5
  repeat (go_big_quiet_step ((go_at_call 14; (first | with_reducible exact Calls.later_of (Nat.le_refl _) (hab _) | with_reducible exact Calls.later_of (Nat.le_refl _) (hbc _)))))
  refine wpQuiet_nil ?_
  rintro _ ⟨p, rfl⟩
  have g0 := f0 p
  have g1 := f1 p
  have g2 := f2 p
  have g3 := f3 p
  have hpo := hid p.ok
  clear f0 f1 f2 f3 f4 f5 c0 c1 c2 c3 c4 c5
  have HB1 := hid (hB0.out.trans (hpo.out.mono hB0.out.size))
  clear hB0 hpo
  generalize p.val = wq at g0 g1 g2 g3 HB1 ⊢
  go_wp2_with fail
  refine (hk0 _).mono ?_
  rintro e w2 ⟨rfl, hB⟩
  have a0 := cell_keep hB g0
  have a1 := cell_keep hB g1
  have a2 := cell_keep hB g2
  have a3 := cell_keep hB g3
  have HB2 := hid (HB1.out.trans (hB.mono HB1.out.size))
  clear hB HB1 g0 g1 g2 g3
  go_wp2_with fail
  refine (hk0 _).mono ?_
  rintro e w3 ⟨rfl, hB⟩
  have b0 := cell_keep hB a0
  have b1 := cell_keep hB a1
  have b2 := cell_keep hB a2
  have b3 := cell_keep hB a3
  have HB3 := hid (HB2.out.trans (hB.mono HB2.out.size))
  clear hB HB2 a0 a1 a2 a3
  go_wp2_with fail
  refine (law_head _).mono ?_
  rintro e w4 ⟨rfl, hB⟩
  go_wp2
  go_ret
  exact ⟨rfl, HB3.out.trans (hB.mono HB3.out.size)⟩

set_option maxHeartbeats 4000000 in
theorem ord_o_le_00_same {r0 n0 r2 n2 k0 : Nat} {y : Int} (w : World)
    (hab : ∀ W, Calls Try.prog 14 #[.agg #[.int .u8 (r0 : Int), .int .u32 (n0 : Int)], .agg #[.int .u8 (r0 : Int), .int .u32 (n0 : Int)]] W fun e w' => e = .returned (.int .i64 (0)) ∧ Below W.heap.size W w')
    (hbc : ∀ W, Calls Try.prog 14 #[.agg #[.int .u8 (r0 : Int), .int .u32 (n0 : Int)], .agg #[.int .u8 (r2 : Int), .int .u32 (n2 : Int)]] W fun e w' => e = .returned (.int .i64 y) ∧ Below W.heap.size W w')
    (hk0 : ∀ W, Calls Try.prog 8 #[.agg #[.int .u8 (r0 : Int), .int .u32 (n0 : Int)]] W fun e w' => e = .returned (.tuple #[.int .u64 (k0 : Int), .int .i64 0]) ∧ Below W.heap.size W w')
    (heq : ∀ W, (binOp .eql 24 (.agg #[.int .u8 (r0 : Int), .int .u32 (n0 : Int)]) (.agg #[.int .u8 (r0 : Int), .int .u32 (n0 : Int)])).run Try.prog W = .ok (.bool true) W)
    (hy : y ≤ 0)
    (hz : ¬ 0 < y) :
    Calls Try.prog 7 #[.agg #[.int .u8 (r0 : Int), .int .u32 (n0 : Int)], .agg #[.int .u8 (r0 : Int), .int .u32 (n0 : Int)], .agg #[.int .u8 (r2 : Int), .int .u32 (n2 : Int)]] w fun e w' => e = .returned (.bool true) ∧ Below w.heap.size w w' := by
  go_enter Try.func7, Try.ntmps7
  go_wp2
  refine wp_region_later_n (by kernel_rfl) (by kernel_rfl) ?_
  intro wd hwd
  have c0 : wd.cell? ⟨w.heap.size, 0, none⟩ = some (.int .u8 (r0 : Int)) := by rw [hwd]; go_simp
  have c1 : wd.cell? ⟨w.heap.size, 1, none⟩ = some (.int .u32 (n0 : Int)) := by rw [hwd]; go_simp
  have c2 : wd.cell? ⟨w.heap.size + 1, 0, none⟩ = some (.int .u8 (r0 : Int)) := by rw [hwd]; go_simp
  have c3 : wd.cell? ⟨w.heap.size + 1, 1, none⟩ = some (.int .u32 (n0 : Int)) := by rw [hwd]; go_simp
  have c4 : wd.cell? ⟨w.heap.size + 1 + 1, 0, none⟩ = some (.int .u8 (r2 : Int)) := by rw [hwd]; go_simp
  have c5 : wd.cell? ⟨w.heap.size + 1 + 1, 1, none⟩ = some (.int .u32 (n2 : Int)) := by rw [hwd]; go_simp
  have hB0 := hid (show Below w.heap.size w wd by rw [hwd]; exact (((Below.refl _ _).alloc (Nat.le_refl _) _).alloc (by first | (go_simp; done) | (go_simp; omega)) _).alloc (by first | (go_simp; done) | (go_simp; omega)) _)
  clear hwd
  have f0 : ∀ p : Later wd.heap.size wd, p.val.cell? ⟨w.heap.size, 0, none⟩ = some (.int .u8 (r0 : Int)) := fun p => cell_keep p.ok c0
  have f1 : ∀ p : Later wd.heap.size wd, p.val.cell? ⟨w.heap.size, 1, none⟩ = some (.int .u32 (n0 : Int)) := fun p => cell_keep p.ok c1
  have f2 : ∀ p : Later wd.heap.size wd, p.val.cell? ⟨w.heap.size + 1, 0, none⟩ = some (.int .u8 (r0 : Int)) := fun p => cell_keep p.ok c2
  have f3 : ∀ p : Later wd.heap.size wd, p.val.cell? ⟨w.heap.size + 1, 1, none⟩ = some (.int .u32 (n0 : Int)) := fun p => cell_keep p.ok c3
  have f4 : ∀ p : Later wd.heap.size wd, p.val.cell? ⟨w.heap.size + 1 + 1, 0, none⟩ = some (.int .u8 (r2 : Int)) := fun p => cell_keep p.ok c4
  have f5 : ∀ p : Later wd.heap.size wd, p.val.cell? ⟨w.heap.size + 1 + 1, 1, none⟩ = some (.int .u32 (n2 : Int)) := fun p => cell_keep p.ok c5
  repeat (go_big_quiet_step ((go_at_call 14; (first | with_reducible exact Calls.later_of (Nat.le_refl _) (hab _) | with_reducible exact Calls.later_of (Nat.le_refl _) (hbc _)))))
  refine wpQuiet_nil ?_
  rintro _ ⟨p, rfl⟩
  have g0 := f0 p
  have g1 := f1 p
  have g2 := f2 p
  have g3 := f3 p
  have hpo := hid p.ok
  clear f0 f1 f2 f3 f4 f5 c0 c1 c2 c3 c4 c5
  have HB1 := hid (hB0.out.trans (hpo.out.mono hB0.out.size))
  clear hB0 hpo
  generalize p.val = wq at g0 g1 g2 g3 HB1 ⊢
  go_wp2_with fail
  refine (hk0 _).mono ?_
  rintro e w2 ⟨rfl, hB⟩
  have a0 := cell_keep hB g0
  have a1 := cell_keep hB g1
  have a2 := cell_keep hB g2
  have a3 := cell_keep hB g3
  have HB2 := hid (HB1.out.trans (hB.mono HB1.out.size))
  clear hB HB1 g0 g1 g2 g3
  go_wp2_with fail
  refine (hk0 _).mono ?_
  rintro e w3 ⟨rfl, hB⟩
  have b0 := cell_keep hB a0
  have b1 := cell_keep hB a1
  have b2 := cell_keep hB a2
  have b3 := cell_keep hB a3
  have HB3 := hid (HB2.out.trans (hB.mono HB2.out.size))
  clear hB HB2 a0 a1 a2 a3
  go_wp2_with fail
  refine (hab _).mono ?_
  rintro e w5 ⟨rfl, hB⟩
  have HB5 := hid (HB3.out.trans (hB.mono HB3.out.size))
  clear hB HB3
  go_wp2_with fail
  refine (law_head _).mono ?_
  rintro e w4 ⟨rfl, hB⟩
  go_wp2
  go_ret
  exact ⟨rfl, HB5.out.trans (hB.mono HB5.out.size)⟩

set_option maxHeartbeats 4000000 in
theorem ord_m_gt_2e1_ne {r0 n0 r1 n1 r2 n2 k0 k1 : Nat} {y e1 : Int} (w : World)
    (hab : ∀ W, Calls Try.prog 14 #[.agg #[.int .u8 (r0 : Int), .int .u32 (n0 : Int)], .agg #[.int .u8 (r1 : Int), .int .u32 (n1 : Int)]] W fun e w' => e = .returned (.int .i64 (-1)) ∧ Below W.heap.size W w')
    (hba : ∀ W, Calls Try.prog 14 #[.agg #[.int .u8 (r1 : Int), .int .u32 (n1 : Int)], .agg #[.int .u8 (r0 : Int), .int .u32 (n0 : Int)]] W fun e w' => e = .returned (.int .i64 (1)) ∧ Below W.heap.size W w')
    (hbc : ∀ W, Calls Try.prog 14 #[.agg #[.int .u8 (r1 : Int), .int .u32 (n1 : Int)], .agg #[.int .u8 (r2 : Int), .int .u32 (n2 : Int)]] W fun e w' => e = .returned (.int .i64 y) ∧ Below W.heap.size W w')
    (hk0 : ∀ W, Calls Try.prog 8 #[.agg #[.int .u8 (r0 : Int), .int .u32 (n0 : Int)]] W fun e w' => e = .returned (.tuple #[.int .u64 (k0 : Int), .int .i64 2]) ∧ Below W.heap.size W w')
    (hk1 : ∀ W, Calls Try.prog 8 #[.agg #[.int .u8 (r1 : Int), .int .u32 (n1 : Int)]] W fun e w' => e = .returned (.tuple #[.int .u64 (k1 : Int), .int .i64 e1]) ∧ Below W.heap.size W w')
    (heq : ∀ W, (binOp .eql 24 (.agg #[.int .u8 (r0 : Int), .int .u32 (n0 : Int)]) (.agg #[.int .u8 (r1 : Int), .int .u32 (n1 : Int)])).run Try.prog W = .ok (.bool false) W)
    (hy : ¬ y ≤ 0) :
    Calls Try.prog 7 #[.agg #[.int .u8 (r0 : Int), .int .u32 (n0 : Int)], .agg #[.int .u8 (r1 : Int), .int .u32 (n1 : Int)], .agg #[.int .u8 (r2 : Int), .int .u32 (n2 : Int)]] w fun e w' => e = .returned (.bool true) ∧ Below w.heap.size w w' := by
  have hyd : decide (y ≤ 0) = false := decide_eq_false hy
  have hy0 : 0 < y := by omega
  go_enter Try.func7, Try.ntmps7
  go_wp2
  refine wp_region_later_n (by kernel_rfl) (by kernel_rfl) ?_
  intro wd hwd
  have c0 : wd.cell? ⟨w.heap.size, 0, none⟩ = some (.int .u8 (r0 : Int)) := by rw [hwd]; go_simp
  have c1 : wd.cell? ⟨w.heap.size, 1, none⟩ = some (.int .u32 (n0 : Int)) := by rw [hwd]; go_simp
  have c2 : wd.cell? ⟨w.heap.size + 1, 0, none⟩ = some (.int .u8 (r1 : Int)) := by rw [hwd]; go_simp
  have c3 : wd.cell? ⟨w.heap.size + 1, 1, none⟩ = some (.int .u32 (n1 : Int)) := by rw [hwd]; go_simp
  have c4 : wd.cell? ⟨w.heap.size + 1 + 1, 0, none⟩ = some (.int .u8 (r2 : Int)) := by rw [hwd]; go_simp
  have c5 : wd.cell? ⟨w.heap.size + 1 + 1, 1, none⟩ = some (.int .u32 (n2 : Int)) := by rw [hwd]; go_simp
  have hB0 := hid (show Below w.heap.size w wd by rw [hwd]; exact (((Below.refl _ _).alloc (Nat.le_refl _) _).alloc (by first | (go_simp; done) | (go_simp; omega)) _).alloc (by first | (go_simp; done) | (go_simp; omega)) _)
  clear hwd
  have f0 : ∀ p : Later wd.heap.size wd, p.val.cell? ⟨w.heap.size, 0, none⟩ = some (.int .u8 (r0 : Int)) := fun p => cell_keep p.ok c0
  have f1 : ∀ p : Later wd.heap.size wd, p.val.cell? ⟨w.heap.size, 1, none⟩ = some (.int .u32 (n0 : Int)) := fun p => cell_keep p.ok c1
  have f2 : ∀ p : Later wd.heap.size wd, p.val.cell? ⟨w.heap.size + 1, 0, none⟩ = some (.int .u8 (r1 : Int)) := fun p => cell_keep p.ok c2
  have f3 : ∀ p : Later wd.heap.size wd, p.val.cell? ⟨w.heap.size + 1, 1, none⟩ = some (.int .u32 (n1 : Int)) := fun p => cell_keep p.ok c3
  have f4 : ∀ p : Later wd.heap.size wd, p.val.cell? ⟨w.heap.size + 1 + 1, 0, none⟩ = some (.int .u8 (r2 : Int)) := fun p => cell_keep p.ok c4
  have f5 : ∀ p : Later wd.heap.size wd, p.val.cell? ⟨w.heap.size + 1 + 1, 1, none⟩ = some (.int .u32 (n2 : Int)) := fun p => cell_keep p.ok c5
  repeat (go_big_quiet_step ((go_at_call 14; (first | with_reducible exact Calls.later_of (Nat.le_refl _) (hab _) | with_reducible exact Calls.later_of (Nat.le_refl _) (hba _) | with_reducible exact Calls.later_of (Nat.le_refl _) (hbc _)))))
  refine wpQuiet_nil ?_
  rintro _ ⟨p, rfl⟩
  have g0 := f0 p
  have g1 := f1 p
  have g2 := f2 p
  have g3 := f3 p
  have hpo := hid p.ok
  clear f0 f1 f2 f3 f4 f5 c0 c1 c2 c3 c4 c5
  have HB1 := hid (hB0.out.trans (hpo.out.mono hB0.out.size))
  clear hB0 hpo
  generalize p.val = wq at g0 g1 g2 g3 HB1 ⊢
  go_wp2_with fail
  refine (hk0 _).mono ?_
  rintro e w2 ⟨rfl, hB⟩
  have a0 := cell_keep hB g0
  have a1 := cell_keep hB g1
  have a2 := cell_keep hB g2
  have a3 := cell_keep hB g3
  have HB2 := hid (HB1.out.trans (hB.mono HB1.out.size))
  clear hB HB1 g0 g1 g2 g3
  go_wp2_with fail
  refine (hk1 _).mono ?_
  rintro e w3 ⟨rfl, hB⟩
  have b0 := cell_keep hB a0
  have b1 := cell_keep hB a1
  have b2 := cell_keep hB a2
  have b3 := cell_keep hB a3
  have HB3 := hid (HB2.out.trans (hB.mono HB2.out.size))
  clear hB HB2 a0 a1 a2 a3
  go_wp2_with fail
  refine (law_head _).mono ?_
  rintro e w4 ⟨rfl, hB⟩
  go_wp2
  go_ret
  exact ⟨rfl, HB3.out.trans (hB.mono HB3.out.size)⟩

set_option maxHeartbeats 4000000 in
theorem ord_m_gt_02_ne {r0 n0 r1 n1 r2 n2 k0 k1 : Nat} {y : Int} (w : World)
    (hab : ∀ W, Calls Try.prog 14 #[.agg #[.int .u8 (r0 : Int), .int .u32 (n0 : Int)], .agg #[.int .u8 (r1 : Int), .int .u32 (n1 : Int)]] W fun e w' => e = .returned (.int .i64 (-1)) ∧ Below W.heap.size W w')
    (hba : ∀ W, Calls Try.prog 14 #[.agg #[.int .u8 (r1 : Int), .int .u32 (n1 : Int)], .agg #[.int .u8 (r0 : Int), .int .u32 (n0 : Int)]] W fun e w' => e = .returned (.int .i64 (1)) ∧ Below W.heap.size W w')
    (hbc : ∀ W, Calls Try.prog 14 #[.agg #[.int .u8 (r1 : Int), .int .u32 (n1 : Int)], .agg #[.int .u8 (r2 : Int), .int .u32 (n2 : Int)]] W fun e w' => e = .returned (.int .i64 y) ∧ Below W.heap.size W w')
    (hk0 : ∀ W, Calls Try.prog 8 #[.agg #[.int .u8 (r0 : Int), .int .u32 (n0 : Int)]] W fun e w' => e = .returned (.tuple #[.int .u64 (k0 : Int), .int .i64 0]) ∧ Below W.heap.size W w')
    (hk1 : ∀ W, Calls Try.prog 8 #[.agg #[.int .u8 (r1 : Int), .int .u32 (n1 : Int)]] W fun e w' => e = .returned (.tuple #[.int .u64 (k1 : Int), .int .i64 2]) ∧ Below W.heap.size W w')
    (heq : ∀ W, (binOp .eql 24 (.agg #[.int .u8 (r0 : Int), .int .u32 (n0 : Int)]) (.agg #[.int .u8 (r1 : Int), .int .u32 (n1 : Int)])).run Try.prog W = .ok (.bool false) W)
    (hy : ¬ y ≤ 0) :
    Calls Try.prog 7 #[.agg #[.int .u8 (r0 : Int), .int .u32 (n0 : Int)], .agg #[.int .u8 (r1 : Int), .int .u32 (n1 : Int)], .agg #[.int .u8 (r2 : Int), .int .u32 (n2 : Int)]] w fun e w' => e = .returned (.bool true) ∧ Below w.heap.size w w' := by
  have hyd : decide (y ≤ 0) = false := decide_eq_false hy
  have hy0 : 0 < y := by omega
  go_enter Try.func7, Try.ntmps7
  go_wp2
  refine wp_region_later_n (by kernel_rfl) (by kernel_rfl) ?_
  intro wd hwd
  have c0 : wd.cell? ⟨w.heap.size, 0, none⟩ = some (.int .u8 (r0 : Int)) := by rw [hwd]; go_simp
  have c1 : wd.cell? ⟨w.heap.size, 1, none⟩ = some (.int .u32 (n0 : Int)) := by rw [hwd]; go_simp
  have c2 : wd.cell? ⟨w.heap.size + 1, 0, none⟩ = some (.int .u8 (r1 : Int)) := by rw [hwd]; go_simp
  have c3 : wd.cell? ⟨w.heap.size + 1, 1, none⟩ = some (.int .u32 (n1 : Int)) := by rw [hwd]; go_simp
  have c4 : wd.cell? ⟨w.heap.size + 1 + 1, 0, none⟩ = some (.int .u8 (r2 : Int)) := by rw [hwd]; go_simp
  have c5 : wd.cell? ⟨w.heap.size + 1 + 1, 1, none⟩ = some (.int .u32 (n2 : Int)) := by rw [hwd]; go_simp
  have hB0 := hid (show Below w.heap.size w wd by rw [hwd]; exact (((Below.refl _ _).alloc (Nat.le_refl _) _).alloc (by first | (go_simp; done) | (go_simp; omega)) _).alloc (by first | (go_simp; done) | (go_simp; omega)) _)
  clear hwd
  have f0 : ∀ p : Later wd.heap.size wd, p.val.cell? ⟨w.heap.size, 0, none⟩ = some (.int .u8 (r0 : Int)) := fun p => cell_keep p.ok c0
  have f1 : ∀ p : Later wd.heap.size wd, p.val.cell? ⟨w.heap.size, 1, none⟩ = some (.int .u32 (n0 : Int)) := fun p => cell_keep p.ok c1
  have f2 : ∀ p : Later wd.heap.size wd, p.val.cell? ⟨w.heap.size + 1, 0, none⟩ = some (.int .u8 (r1 : Int)) := fun p => cell_keep p.ok c2
  have f3 : ∀ p : Later wd.heap.size wd, p.val.cell? ⟨w.heap.size + 1, 1, none⟩ = some (.int .u32 (n1 : Int)) := fun p => cell_keep p.ok c3
  have f4 : ∀ p : Later wd.heap.size wd, p.val.cell? ⟨w.heap.size + 1 + 1, 0, none⟩ = some (.int .u8 (r2 : Int)) := fun p => cell_keep p.ok c4
  have f5 : ∀ p : Later wd.heap.size wd, p.val.cell? ⟨w.heap.size + 1 + 1, 1, none⟩ = some (.int .u32 (n2 : Int)) := fun p => cell_keep p.ok c5
  repeat (go_big_quiet_step ((go_at_call 14; (first | with_reducible exact Calls.later_of (Nat.le_refl _) (hab _) | with_reducible exact Calls.later_of (Nat.le_refl _) (hba _) | with_reducible exact Calls.later_of (Nat.le_refl _) (hbc _)))))
  refine wpQuiet_nil ?_
  rintro _ ⟨p, rfl⟩
  have g0 := f0 p
  have g1 := f1 p
  have g2 := f2 p
  have g3 := f3 p
  have hpo := hid p.ok
  clear f0 f1 f2 f3 f4 f5 c0 c1 c2 c3 c4 c5
  have HB1 := hid (hB0.out.trans (hpo.out.mono hB0.out.size))
  clear hB0 hpo
  generalize p.val = wq at g0 g1 g2 g3 HB1 ⊢
  go_wp2_with fail
  refine (hk0 _).mono ?_
  rintro e w2 ⟨rfl, hB⟩
  have a0 := cell_keep hB g0
  have a1 := cell_keep hB g1
  have a2 := cell_keep hB g2
  have a3 := cell_keep hB g3
  have HB2 := hid (HB1.out.trans (hB.mono HB1.out.size))
  clear hB HB1 g0 g1 g2 g3
  go_wp2_with fail
  refine (hk1 _).mono ?_
  rintro e w3 ⟨rfl, hB⟩
  have b0 := cell_keep hB a0
  have b1 := cell_keep hB a1
  have b2 := cell_keep hB a2
  have b3 := cell_keep hB a3
  have HB3 := hid (HB2.out.trans (hB.mono HB2.out.size))
  clear hB HB2 a0 a1 a2 a3
  go_wp2_with fail
  refine (law_head _).mono ?_
  rintro e w4 ⟨rfl, hB⟩
  go_wp2
  go_ret
  exact ⟨rfl, HB3.out.trans (hB.mono HB3.out.size)⟩

set_option maxHeartbeats 4000000 in
theorem ord_m_gt_00_ne {r0 n0 r1 n1 r2 n2 k0 k1 : Nat} {y : Int} (w : World)
    (hab : ∀ W, Calls Try.prog 14 #[.agg #[.int .u8 (r0 : Int), .int .u32 (n0 : Int)], .agg #[.int .u8 (r1 : Int), .int .u32 (n1 : Int)]] W fun e w' => e = .returned (.int .i64 (-1)) ∧ Below W.heap.size W w')
    (hba : ∀ W, Calls Try.prog 14 #[.agg #[.int .u8 (r1 : Int), .int .u32 (n1 : Int)], .agg #[.int .u8 (r0 : Int), .int .u32 (n0 : Int)]] W fun e w' => e = .returned (.int .i64 (1)) ∧ Below W.heap.size W w')
    (hbc : ∀ W, Calls Try.prog 14 #[.agg #[.int .u8 (r1 : Int), .int .u32 (n1 : Int)], .agg #[.int .u8 (r2 : Int), .int .u32 (n2 : Int)]] W fun e w' => e = .returned (.int .i64 y) ∧ Below W.heap.size W w')
    (hk0 : ∀ W, Calls Try.prog 8 #[.agg #[.int .u8 (r0 : Int), .int .u32 (n0 : Int)]] W fun e w' => e = .returned (.tuple #[.int .u64 (k0 : Int), .int .i64 0]) ∧ Below W.heap.size W w')
    (hk1 : ∀ W, Calls Try.prog 8 #[.agg #[.int .u8 (r1 : Int), .int .u32 (n1 : Int)]] W fun e w' => e = .returned (.tuple #[.int .u64 (k1 : Int), .int .i64 0]) ∧ Below W.heap.size W w')
    (heq : ∀ W, (binOp .eql 24 (.agg #[.int .u8 (r0 : Int), .int .u32 (n0 : Int)]) (.agg #[.int .u8 (r1 : Int), .int .u32 (n1 : Int)])).run Try.prog W = .ok (.bool false) W)
    (hy : ¬ y ≤ 0)
    (hkne : ((k0 : Int) == (k1 : Int)) = false)
    (hrne : ((r0 : Int) == (r1 : Int)) = false) :
    Calls Try.prog 7 #[.agg #[.int .u8 (r0 : Int), .int .u32 (n0 : Int)], .agg #[.int .u8 (r1 : Int), .int .u32 (n1 : Int)], .agg #[.int .u8 (r2 : Int), .int .u32 (n2 : Int)]] w fun e w' => e = .returned (.bool true) ∧ Below w.heap.size w w' := by
  have hr1 : ¬ (r0 : Int) = (r1 : Int) := by simpa using hrne
  have hr2 : ((r0 : Int) != (r1 : Int)) = true := by simpa using hr1
  have hr3 : ¬ r0 = r1 := fun e => hr1 (by rw [e])
  have hr4 : (r0 == r1) = false := by simpa using hr3
  have hr5 : (r0 != r1) = true := by simpa using hr3
  have hyd : decide (y ≤ 0) = false := decide_eq_false hy
  have hy0 : 0 < y := by omega
  go_enter Try.func7, Try.ntmps7
  go_wp2
  refine wp_region_later_n (by kernel_rfl) (by kernel_rfl) ?_
  intro wd hwd
  have c0 : wd.cell? ⟨w.heap.size, 0, none⟩ = some (.int .u8 (r0 : Int)) := by rw [hwd]; go_simp
  have c1 : wd.cell? ⟨w.heap.size, 1, none⟩ = some (.int .u32 (n0 : Int)) := by rw [hwd]; go_simp
  have c2 : wd.cell? ⟨w.heap.size + 1, 0, none⟩ = some (.int .u8 (r1 : Int)) := by rw [hwd]; go_simp
  have c3 : wd.cell? ⟨w.heap.size + 1, 1, none⟩ = some (.int .u32 (n1 : Int)) := by rw [hwd]; go_simp
  have c4 : wd.cell? ⟨w.heap.size + 1 + 1, 0, none⟩ = some (.int .u8 (r2 : Int)) := by rw [hwd]; go_simp
  have c5 : wd.cell? ⟨w.heap.size + 1 + 1, 1, none⟩ = some (.int .u32 (n2 : Int)) := by rw [hwd]; go_simp
  have hB0 := hid (show Below w.heap.size w wd by rw [hwd]; exact (((Below.refl _ _).alloc (Nat.le_refl _) _).alloc (by first | (go_simp; done) | (go_simp; omega)) _).alloc (by first | (go_simp; done) | (go_simp; omega)) _)
  clear hwd
  have f0 : ∀ p : Later wd.heap.size wd, p.val.cell? ⟨w.heap.size, 0, none⟩ = some (.int .u8 (r0 : Int)) := fun p => cell_keep p.ok c0
  have f1 : ∀ p : Later wd.heap.size wd, p.val.cell? ⟨w.heap.size, 1, none⟩ = some (.int .u32 (n0 : Int)) := fun p => cell_keep p.ok c1
  have f2 : ∀ p : Later wd.heap.size wd, p.val.cell? ⟨w.heap.size + 1, 0, none⟩ = some (.int .u8 (r1 : Int)) := fun p => cell_keep p.ok c2
  have f3 : ∀ p : Later wd.heap.size wd, p.val.cell? ⟨w.heap.size + 1, 1, none⟩ = some (.int .u32 (n1 : Int)) := fun p => cell_keep p.ok c3
  have f4 : ∀ p : Later wd.heap.size wd, p.val.cell? ⟨w.heap.size + 1 + 1, 0, none⟩ = some (.int .u8 (r2 : Int)) := fun p => cell_keep p.ok c4
  have f5 : ∀ p : Later wd.heap.size wd, p.val.cell? ⟨w.heap.size + 1 + 1, 1, none⟩ = some (.int .u32 (n2 : Int)) := fun p => cell_keep p.ok c5
  repeat (go_big_quiet_step ((go_at_call 14; (first | with_reducible exact Calls.later_of (Nat.le_refl _) (hab _) | with_reducible exact Calls.later_of (Nat.le_refl _) (hba _) | with_reducible exact Calls.later_of (Nat.le_refl _) (hbc _)))))
  refine wpQuiet_nil ?_
  rintro _ ⟨p, rfl⟩
  have g0 := f0 p
  have g1 := f1 p
  have g2 := f2 p
  have g3 := f3 p
  have hpo := hid p.ok
  clear f0 f1 f2 f3 f4 f5 c0 c1 c2 c3 c4 c5
  have HB1 := hid (hB0.out.trans (hpo.out.mono hB0.out.size))
  clear hB0 hpo
  generalize p.val = wq at g0 g1 g2 g3 HB1 ⊢
  go_wp2_with fail
  refine (hk0 _).mono ?_
  rintro e w2 ⟨rfl, hB⟩
  have a0 := cell_keep hB g0
  have a1 := cell_keep hB g1
  have a2 := cell_keep hB g2
  have a3 := cell_keep hB g3
  have HB2 := hid (HB1.out.trans (hB.mono HB1.out.size))
  clear hB HB1 g0 g1 g2 g3
  go_wp2_with fail
  refine (hk1 _).mono ?_
  rintro e w3 ⟨rfl, hB⟩
  have b0 := cell_keep hB a0
  have b1 := cell_keep hB a1
  have b2 := cell_keep hB a2
  have b3 := cell_keep hB a3
  have HB3 := hid (HB2.out.trans (hB.mono HB2.out.size))
  clear hB HB2 a0 a1 a2 a3
  go_wp2_with fail
  refine (law_head _).mono ?_
  rintro e w4 ⟨rfl, hB⟩
  go_wp2
  go_ret
  exact ⟨rfl, HB3.out.trans (hB.mono HB3.out.size)⟩

set_option maxHeartbeats 4000000 in
theorem ord_m_gt_00_same {r0 n0 n1 r2 n2 k0 k1 : Nat} {y : Int} (w : World)
    (hab : ∀ W, Calls Try.prog 14 #[.agg #[.int .u8 (r0 : Int), .int .u32 (n0 : Int)], .agg #[.int .u8 (r0 : Int), .int .u32 (n1 : Int)]] W fun e w' => e = .returned (.int .i64 (-1)) ∧ Below W.heap.size W w')
    (hba : ∀ W, Calls Try.prog 14 #[.agg #[.int .u8 (r0 : Int), .int .u32 (n1 : Int)], .agg #[.int .u8 (r0 : Int), .int .u32 (n0 : Int)]] W fun e w' => e = .returned (.int .i64 (1)) ∧ Below W.heap.size W w')
    (hbc : ∀ W, Calls Try.prog 14 #[.agg #[.int .u8 (r0 : Int), .int .u32 (n1 : Int)], .agg #[.int .u8 (r2 : Int), .int .u32 (n2 : Int)]] W fun e w' => e = .returned (.int .i64 y) ∧ Below W.heap.size W w')
    (hk0 : ∀ W, Calls Try.prog 8 #[.agg #[.int .u8 (r0 : Int), .int .u32 (n0 : Int)]] W fun e w' => e = .returned (.tuple #[.int .u64 (k0 : Int), .int .i64 0]) ∧ Below W.heap.size W w')
    (hk1 : ∀ W, Calls Try.prog 8 #[.agg #[.int .u8 (r0 : Int), .int .u32 (n1 : Int)]] W fun e w' => e = .returned (.tuple #[.int .u64 (k1 : Int), .int .i64 0]) ∧ Below W.heap.size W w')
    (heq : ∀ W, (binOp .eql 24 (.agg #[.int .u8 (r0 : Int), .int .u32 (n0 : Int)]) (.agg #[.int .u8 (r0 : Int), .int .u32 (n1 : Int)])).run Try.prog W = .ok (.bool false) W)
    (hy : ¬ y ≤ 0)
    (hkne : ((k0 : Int) == (k1 : Int)) = false)
    (hklt : (k0 : Int) < (k1 : Int)) :
    Calls Try.prog 7 #[.agg #[.int .u8 (r0 : Int), .int .u32 (n0 : Int)], .agg #[.int .u8 (r0 : Int), .int .u32 (n1 : Int)], .agg #[.int .u8 (r2 : Int), .int .u32 (n2 : Int)]] w fun e w' => e = .returned (.bool true) ∧ Below w.heap.size w w' := by
  have hyd : decide (y ≤ 0) = false := decide_eq_false hy
  have hy0 : 0 < y := by omega
  have hkl2 : k0 < k1 := by omega
  go_enter Try.func7, Try.ntmps7
  go_wp2
  refine wp_region_later_n (by kernel_rfl) (by kernel_rfl) ?_
  intro wd hwd
  have c0 : wd.cell? ⟨w.heap.size, 0, none⟩ = some (.int .u8 (r0 : Int)) := by rw [hwd]; go_simp
  have c1 : wd.cell? ⟨w.heap.size, 1, none⟩ = some (.int .u32 (n0 : Int)) := by rw [hwd]; go_simp
  have c2 : wd.cell? ⟨w.heap.size + 1, 0, none⟩ = some (.int .u8 (r0 : Int)) := by rw [hwd]; go_simp
  have c3 : wd.cell? ⟨w.heap.size + 1, 1, none⟩ = some (.int .u32 (n1 : Int)) := by rw [hwd]; go_simp
  have c4 : wd.cell? ⟨w.heap.size + 1 + 1, 0, none⟩ = some (.int .u8 (r2 : Int)) := by rw [hwd]; go_simp
  have c5 : wd.cell? ⟨w.heap.size + 1 + 1, 1, none⟩ = some (.int .u32 (n2 : Int)) := by rw [hwd]; go_simp
  have hB0 := hid (show Below w.heap.size w wd by rw [hwd]; exact (((Below.refl _ _).alloc (Nat.le_refl _) _).alloc (by first | (go_simp; done) | (go_simp; omega)) _).alloc (by first | (go_simp; done) | (go_simp; omega)) _)
  clear hwd
  have f0 : ∀ p : Later wd.heap.size wd, p.val.cell? ⟨w.heap.size, 0, none⟩ = some (.int .u8 (r0 : Int)) := fun p => cell_keep p.ok c0
  have f1 : ∀ p : Later wd.heap.size wd, p.val.cell? ⟨w.heap.size, 1, none⟩ = some (.int .u32 (n0 : Int)) := fun p => cell_keep p.ok c1
  have f2 : ∀ p : Later wd.heap.size wd, p.val.cell? ⟨w.heap.size + 1, 0, none⟩ = some (.int .u8 (r0 : Int)) := fun p => cell_keep p.ok c2
  have f3 : ∀ p : Later wd.heap.size wd, p.val.cell? ⟨w.heap.size + 1, 1, none⟩ = some (.int .u32 (n1 : Int)) := fun p => cell_keep p.ok c3
  have f4 : ∀ p : Later wd.heap.size wd, p.val.cell? ⟨w.heap.size + 1 + 1, 0, none⟩ = some (.int .u8 (r2 : Int)) := fun p => cell_keep p.ok c4
  have f5 : ∀ p : Later wd.heap.size wd, p.val.cell? ⟨w.heap.size + 1 + 1, 1, none⟩ = some (.int .u32 (n2 : Int)) := fun p => cell_keep p.ok c5
  repeat (go_big_quiet_step ((go_at_call 14; (first | with_reducible exact Calls.later_of (Nat.le_refl _) (hab _) | with_reducible exact Calls.later_of (Nat.le_refl _) (hba _) | with_reducible exact Calls.later_of (Nat.le_refl _) (hbc _)))))
  refine wpQuiet_nil ?_
  rintro _ ⟨p, rfl⟩
  have g0 := f0 p
  have g1 := f1 p
  have g2 := f2 p
  have g3 := f3 p
  have hpo := hid p.ok
  clear f0 f1 f2 f3 f4 f5 c0 c1 c2 c3 c4 c5
  have HB1 := hid (hB0.out.trans (hpo.out.mono hB0.out.size))
  clear hB0 hpo
  generalize p.val = wq at g0 g1 g2 g3 HB1 ⊢
  go_wp2_with fail
  refine (hk0 _).mono ?_
  rintro e w2 ⟨rfl, hB⟩
  have a0 := cell_keep hB g0
  have a1 := cell_keep hB g1
  have a2 := cell_keep hB g2
  have a3 := cell_keep hB g3
  have HB2 := hid (HB1.out.trans (hB.mono HB1.out.size))
  clear hB HB1 g0 g1 g2 g3
  go_wp2_with fail
  refine (hk1 _).mono ?_
  rintro e w3 ⟨rfl, hB⟩
  have b0 := cell_keep hB a0
  have b1 := cell_keep hB a1
  have b2 := cell_keep hB a2
  have b3 := cell_keep hB a3
  have HB3 := hid (HB2.out.trans (hB.mono HB2.out.size))
  clear hB HB2 a0 a1 a2 a3
  go_wp2_with fail
  refine (hab _).mono ?_
  rintro e w5 ⟨rfl, hB⟩
  have HB5 := hid (HB3.out.trans (hB.mono HB3.out.size))
  clear hB HB3
  go_wp2_with fail
  refine (law_head _).mono ?_
  rintro e w4 ⟨rfl, hB⟩
  go_wp2
  go_ret
  exact ⟨rfl, HB5.out.trans (hB.mono HB5.out.size)⟩

set_option maxHeartbeats 4000000 in
theorem ord_m_le_2e1_ne {r0 n0 r1 n1 r2 n2 k0 k1 : Nat} {y z e1 : Int} (w : World)
    (hab : ∀ W, Calls Try.prog 14 #[.agg #[.int .u8 (r0 : Int), .int .u32 (n0 : Int)], .agg #[.int .u8 (r1 : Int), .int .u32 (n1 : Int)]] W fun e w' => e = .returned (.int .i64 (-1)) ∧ Below W.heap.size W w')
    (hba : ∀ W, Calls Try.prog 14 #[.agg #[.int .u8 (r1 : Int), .int .u32 (n1 : Int)], .agg #[.int .u8 (r0 : Int), .int .u32 (n0 : Int)]] W fun e w' => e = .returned (.int .i64 (1)) ∧ Below W.heap.size W w')
    (hbc : ∀ W, Calls Try.prog 14 #[.agg #[.int .u8 (r1 : Int), .int .u32 (n1 : Int)], .agg #[.int .u8 (r2 : Int), .int .u32 (n2 : Int)]] W fun e w' => e = .returned (.int .i64 y) ∧ Below W.heap.size W w')
    (hac : ∀ W, Calls Try.prog 14 #[.agg #[.int .u8 (r0 : Int), .int .u32 (n0 : Int)], .agg #[.int .u8 (r2 : Int), .int .u32 (n2 : Int)]] W fun e w' => e = .returned (.int .i64 z) ∧ Below W.heap.size W w')
    (hk0 : ∀ W, Calls Try.prog 8 #[.agg #[.int .u8 (r0 : Int), .int .u32 (n0 : Int)]] W fun e w' => e = .returned (.tuple #[.int .u64 (k0 : Int), .int .i64 2]) ∧ Below W.heap.size W w')
    (hk1 : ∀ W, Calls Try.prog 8 #[.agg #[.int .u8 (r1 : Int), .int .u32 (n1 : Int)]] W fun e w' => e = .returned (.tuple #[.int .u64 (k1 : Int), .int .i64 e1]) ∧ Below W.heap.size W w')
    (heq : ∀ W, (binOp .eql 24 (.agg #[.int .u8 (r0 : Int), .int .u32 (n0 : Int)]) (.agg #[.int .u8 (r1 : Int), .int .u32 (n1 : Int)])).run Try.prog W = .ok (.bool false) W)
    (hy : y ≤ 0)
    (hz : ¬ 0 < z) :
    Calls Try.prog 7 #[.agg #[.int .u8 (r0 : Int), .int .u32 (n0 : Int)], .agg #[.int .u8 (r1 : Int), .int .u32 (n1 : Int)], .agg #[.int .u8 (r2 : Int), .int .u32 (n2 : Int)]] w fun e w' => e = .returned (.bool true) ∧ Below w.heap.size w w' := by
  go_enter Try.func7, Try.ntmps7
  go_wp2
  refine wp_region_later_n (by kernel_rfl) (by kernel_rfl) ?_
  intro wd hwd
  have c0 : wd.cell? ⟨w.heap.size, 0, none⟩ = some (.int .u8 (r0 : Int)) := by rw [hwd]; go_simp
  have c1 : wd.cell? ⟨w.heap.size, 1, none⟩ = some (.int .u32 (n0 : Int)) := by rw [hwd]; go_simp
  have c2 : wd.cell? ⟨w.heap.size + 1, 0, none⟩ = some (.int .u8 (r1 : Int)) := by rw [hwd]; go_simp
  have c3 : wd.cell? ⟨w.heap.size + 1, 1, none⟩ = some (.int .u32 (n1 : Int)) := by rw [hwd]; go_simp
  have c4 : wd.cell? ⟨w.heap.size + 1 + 1, 0, none⟩ = some (.int .u8 (r2 : Int)) := by rw [hwd]; go_simp
  have c5 : wd.cell? ⟨w.heap.size + 1 + 1, 1, none⟩ = some (.int .u32 (n2 : Int)) := by rw [hwd]; go_simp
  have hB0 := hid (show Below w.heap.size w wd by rw [hwd]; exact (((Below.refl _ _).alloc (Nat.le_refl _) _).alloc (by first | (go_simp; done) | (go_simp; omega)) _).alloc (by first | (go_simp; done) | (go_simp; omega)) _)
  clear hwd
  have f0 : ∀ p : Later wd.heap.size wd, p.val.cell? ⟨w.heap.size, 0, none⟩ = some (.int .u8 (r0 : Int)) := fun p => cell_keep p.ok c0
  have f1 : ∀ p : Later wd.heap.size wd, p.val.cell? ⟨w.heap.size, 1, none⟩ = some (.int .u32 (n0 : Int)) := fun p => cell_keep p.ok c1
  have f2 : ∀ p : Later wd.heap.size wd, p.val.cell? ⟨w.heap.size + 1, 0, none⟩ = some (.int .u8 (r1 : Int)) := fun p => cell_keep p.ok c2
  have f3 : ∀ p : Later wd.heap.size wd, p.val.cell? ⟨w.heap.size + 1, 1, none⟩ = some (.int .u32 (n1 : Int)) := fun p => cell_keep p.ok c3
  have f4 : ∀ p : Later wd.heap.size wd, p.val.cell? ⟨w.heap.size + 1 + 1, 0, none⟩ = some (.int .u8 (r2 : Int)) := fun p => cell_keep p.ok c4
  have f5 : ∀ p : Later wd.heap.size wd, p.val.cell? ⟨w.heap.size + 1 + 1, 1, none⟩ = some (.int .u32 (n2 : Int)) := fun p => cell_keep p.ok c5
  repeat (go_big_quiet_step ((go_at_call 14; (first | with_reducible exact Calls.later_of (Nat.le_refl _) (hab _) | with_reducible exact Calls.later_of (Nat.le_refl _) (hba _) | with_reducible exact Calls.later_of (Nat.le_refl _) (hbc _) | with_reducible exact Calls.later_of (Nat.le_refl _) (hac _)))))
  refine wpQuiet_nil ?_
  rintro _ ⟨p, rfl⟩
  have g0 := f0 p
  have g1 := f1 p
  have g2 := f2 p
  have g3 := f3 p
  have hpo := hid p.ok
  clear f0 f1 f2 f3 f4 f5 c0 c1 c2 c3 c4 c5
  have HB1 := hid (hB0.out.trans (hpo.out.mono hB0.out.size))
  clear hB0 hpo
  generalize p.val = wq at g0 g1 g2 g3 HB1 ⊢
  go_wp2_with fail
  refine (hk0 _).mono ?_
  rintro e w2 ⟨rfl, hB⟩
  have a0 := cell_keep hB g0
  have a1 := cell_keep hB g1
  have a2 := cell_keep hB g2
  have a3 := cell_keep hB g3
  have HB2 := hid (HB1.out.trans (hB.mono HB1.out.size))
  clear hB HB1 g0 g1 g2 g3
  go_wp2_with fail
  refine (hk1 _).mono ?_
  rintro e w3 ⟨rfl, hB⟩
  have b0 := cell_keep hB a0
  have b1 := cell_keep hB a1
  have b2 := cell_keep hB a2
  have b3 := cell_keep hB a3
  have HB3 := hid (HB2.out.trans (hB.mono HB2.out.size))
  clear hB HB2 a0 a1 a2 a3
  go_wp2_with fail
  refine (law_head _).mono ?_
  rintro e w4 ⟨rfl, hB⟩
  go_wp2
  go_ret
  exact ⟨rfl, HB3.out.trans (hB.mono HB3.out.size)⟩

set_option maxHeartbeats 4000000 in
theorem ord_m_le_02_ne {r0 n0 r1 n1 r2 n2 k0 k1 : Nat} {y z : Int} (w : World)
    (hab : ∀ W, Calls Try.prog 14 #[.agg #[.int .u8 (r0 : Int), .int .u32 (n0 : Int)], .agg #[.int .u8 (r1 : Int), .int .u32 (n1 : Int)]] W fun e w' => e = .returned (.int .i64 (-1)) ∧ Below W.heap.size W w')
    (hba : ∀ W, Calls Try.prog 14 #[.agg #[.int .u8 (r1 : Int), .int .u32 (n1 : Int)], .agg #[.int .u8 (r0 : Int), .int .u32 (n0 : Int)]] W fun e w' => e = .returned (.int .i64 (1)) ∧ Below W.heap.size W w')
    (hbc : ∀ W, Calls Try.prog 14 #[.agg #[.int .u8 (r1 : Int), .int .u32 (n1 : Int)], .agg #[.int .u8 (r2 : Int), .int .u32 (n2 : Int)]] W fun e w' => e = .returned (.int .i64 y) ∧ Below W.heap.size W w')
    (hac : ∀ W, Calls Try.prog 14 #[.agg #[.int .u8 (r0 : Int), .int .u32 (n0 : Int)], .agg #[.int .u8 (r2 : Int), .int .u32 (n2 : Int)]] W fun e w' => e = .returned (.int .i64 z) ∧ Below W.heap.size W w')
    (hk0 : ∀ W, Calls Try.prog 8 #[.agg #[.int .u8 (r0 : Int), .int .u32 (n0 : Int)]] W fun e w' => e = .returned (.tuple #[.int .u64 (k0 : Int), .int .i64 0]) ∧ Below W.heap.size W w')
    (hk1 : ∀ W, Calls Try.prog 8 #[.agg #[.int .u8 (r1 : Int), .int .u32 (n1 : Int)]] W fun e w' => e = .returned (.tuple #[.int .u64 (k1 : Int), .int .i64 2]) ∧ Below W.heap.size W w')
    (heq : ∀ W, (binOp .eql 24 (.agg #[.int .u8 (r0 : Int), .int .u32 (n0 : Int)]) (.agg #[.int .u8 (r1 : Int), .int .u32 (n1 : Int)])).run Try.prog W = .ok (.bool false) W)
    (hy : y ≤ 0)
    (hz : ¬ 0 < z) :
    Calls Try.prog 7 #[.agg #[.int .u8 (r0 : Int), .int .u32 (n0 : Int)], .agg #[.int .u8 (r1 : Int), .int .u32 (n1 : Int)], .agg #[.int .u8 (r2 : Int), .int .u32 (n2 : Int)]] w fun e w' => e = .returned (.bool true) ∧ Below w.heap.size w w' := by
  go_enter Try.func7, Try.ntmps7
  go_wp2
  refine wp_region_later_n (by kernel_rfl) (by kernel_rfl) ?_
  intro wd hwd
  have c0 : wd.cell? ⟨w.heap.size, 0, none⟩ = some (.int .u8 (r0 : Int)) := by rw [hwd]; go_simp
  have c1 : wd.cell? ⟨w.heap.size, 1, none⟩ = some (.int .u32 (n0 : Int)) := by rw [hwd]; go_simp
  have c2 : wd.cell? ⟨w.heap.size + 1, 0, none⟩ = some (.int .u8 (r1 : Int)) := by rw [hwd]; go_simp
  have c3 : wd.cell? ⟨w.heap.size + 1, 1, none⟩ = some (.int .u32 (n1 : Int)) := by rw [hwd]; go_simp
  have c4 : wd.cell? ⟨w.heap.size + 1 + 1, 0, none⟩ = some (.int .u8 (r2 : Int)) := by rw [hwd]; go_simp
  have c5 : wd.cell? ⟨w.heap.size + 1 + 1, 1, none⟩ = some (.int .u32 (n2 : Int)) := by rw [hwd]; go_simp
  have hB0 := hid (show Below w.heap.size w wd by rw [hwd]; exact (((Below.refl _ _).alloc (Nat.le_refl _) _).alloc (by first | (go_simp; done) | (go_simp; omega)) _).alloc (by first | (go_simp; done) | (go_simp; omega)) _)
  clear hwd
  have f0 : ∀ p : Later wd.heap.size wd, p.val.cell? ⟨w.heap.size, 0, none⟩ = some (.int .u8 (r0 : Int)) := fun p => cell_keep p.ok c0
  have f1 : ∀ p : Later wd.heap.size wd, p.val.cell? ⟨w.heap.size, 1, none⟩ = some (.int .u32 (n0 : Int)) := fun p => cell_keep p.ok c1
  have f2 : ∀ p : Later wd.heap.size wd, p.val.cell? ⟨w.heap.size + 1, 0, none⟩ = some (.int .u8 (r1 : Int)) := fun p => cell_keep p.ok c2
  have f3 : ∀ p : Later wd.heap.size wd, p.val.cell? ⟨w.heap.size + 1, 1, none⟩ = some (.int .u32 (n1 : Int)) := fun p => cell_keep p.ok c3
  have f4 : ∀ p : Later wd.heap.size wd, p.val.cell? ⟨w.heap.size + 1 + 1, 0, none⟩ = some (.int .u8 (r2 : Int)) := fun p => cell_keep p.ok c4
  have f5 : ∀ p : Later wd.heap.size wd, p.val.cell? ⟨w.heap.size + 1 + 1, 1, none⟩ = some (.int .u32 (n2 : Int)) := fun p => cell_keep p.ok c5
  repeat (go_big_quiet_step ((go_at_call 14; (first | with_reducible exact Calls.later_of (Nat.le_refl _) (hab _) | with_reducible exact Calls.later_of (Nat.le_refl _) (hba _) | with_reducible exact Calls.later_of (Nat.le_refl _) (hbc _) | with_reducible exact Calls.later_of (Nat.le_refl _) (hac _)))))
  refine wpQuiet_nil ?_
  rintro _ ⟨p, rfl⟩
  have g0 := f0 p
  have g1 := f1 p
  have g2 := f2 p
  have g3 := f3 p
  have hpo := hid p.ok
  clear f0 f1 f2 f3 f4 f5 c0 c1 c2 c3 c4 c5
  have HB1 := hid (hB0.out.trans (hpo.out.mono hB0.out.size))
  clear hB0 hpo
  generalize p.val = wq at g0 g1 g2 g3 HB1 ⊢
  go_wp2_with fail
  refine (hk0 _).mono ?_
  rintro e w2 ⟨rfl, hB⟩
  have a0 := cell_keep hB g0
  have a1 := cell_keep hB g1
  have a2 := cell_keep hB g2
  have a3 := cell_keep hB g3
  have HB2 := hid (HB1.out.trans (hB.mono HB1.out.size))
  clear hB HB1 g0 g1 g2 g3
  go_wp2_with fail
  refine (hk1 _).mono ?_
  rintro e w3 ⟨rfl, hB⟩
  have b0 := cell_keep hB a0
  have b1 := cell_keep hB a1
  have b2 := cell_keep hB a2
  have b3 := cell_keep hB a3
  have HB3 := hid (HB2.out.trans (hB.mono HB2.out.size))
  clear hB HB2 a0 a1 a2 a3
  go_wp2_with fail
  refine (law_head _).mono ?_
  rintro e w4 ⟨rfl, hB⟩
  go_wp2
  go_ret
  exact ⟨rfl, HB3.out.trans (hB.mono HB3.out.size)⟩

set_option maxHeartbeats 4000000 in
theorem ord_m_le_00_ne {r0 n0 r1 n1 r2 n2 k0 k1 : Nat} {y z : Int} (w : World)
    (hab : ∀ W, Calls Try.prog 14 #[.agg #[.int .u8 (r0 : Int), .int .u32 (n0 : Int)], .agg #[.int .u8 (r1 : Int), .int .u32 (n1 : Int)]] W fun e w' => e = .returned (.int .i64 (-1)) ∧ Below W.heap.size W w')
    (hba : ∀ W, Calls Try.prog 14 #[.agg #[.int .u8 (r1 : Int), .int .u32 (n1 : Int)], .agg #[.int .u8 (r0 : Int), .int .u32 (n0 : Int)]] W fun e w' => e = .returned (.int .i64 (1)) ∧ Below W.heap.size W w')
    (hbc : ∀ W, Calls Try.prog 14 #[.agg #[.int .u8 (r1 : Int), .int .u32 (n1 : Int)], .agg #[.int .u8 (r2 : Int), .int .u32 (n2 : Int)]] W fun e w' => e = .returned (.int .i64 y) ∧ Below W.heap.size W w')
    (hac : ∀ W, Calls Try.prog 14 #[.agg #[.int .u8 (r0 : Int), .int .u32 (n0 : Int)], .agg #[.int .u8 (r2 : Int), .int .u32 (n2 : Int)]] W fun e w' => e = .returned (.int .i64 z) ∧ Below W.heap.size W w')
    (hk0 : ∀ W, Calls Try.prog 8 #[.agg #[.int .u8 (r0 : Int), .int .u32 (n0 : Int)]] W fun e w' => e = .returned (.tuple #[.int .u64 (k0 : Int), .int .i64 0]) ∧ Below W.heap.size W w')
    (hk1 : ∀ W, Calls Try.prog 8 #[.agg #[.int .u8 (r1 : Int), .int .u32 (n1 : Int)]] W fun e w' => e = .returned (.tuple #[.int .u64 (k1 : Int), .int .i64 0]) ∧ Below W.heap.size W w')
    (heq : ∀ W, (binOp .eql 24 (.agg #[.int .u8 (r0 : Int), .int .u32 (n0 : Int)]) (.agg #[.int .u8 (r1 : Int), .int .u32 (n1 : Int)])).run Try.prog W = .ok (.bool false) W)
    (hy : y ≤ 0)
    (hz : ¬ 0 < z)
    (hkne : ((k0 : Int) == (k1 : Int)) = false)
    (hrne : ((r0 : Int) == (r1 : Int)) = false) :
    Calls Try.prog 7 #[.agg #[.int .u8 (r0 : Int), .int .u32 (n0 : Int)], .agg #[.int .u8 (r1 : Int), .int .u32 (n1 : Int)], .agg #[.int .u8 (r2 : Int), .int .u32 (n2 : Int)]] w fun e w' => e = .returned (.bool true) ∧ Below w.heap.size w w' := by
  have hr1 : ¬ (r0 : Int) = (r1 : Int) := by simpa using hrne
  have hr2 : ((r0 : Int) != (r1 : Int)) = true := by simpa using hr1
  have hr3 : ¬ r0 = r1 := fun e => hr1 (by rw [e])
  have hr4 : (r0 == r1) = false := by simpa using hr3
  have hr5 : (r0 != r1) = true := by simpa using hr3
  go_enter Try.func7, Try.ntmps7
  go_wp2
  refine wp_region_later_n (by kernel_rfl) (by kernel_rfl) ?_
  intro wd hwd
  have c0 : wd.cell? ⟨w.heap.size, 0, none⟩ = some (.int .u8 (r0 : Int)) := by rw [hwd]; go_simp
  have c1 : wd.cell? ⟨w.heap.size, 1, none⟩ = some (.int .u32 (n0 : Int)) := by rw [hwd]; go_simp
  have c2 : wd.cell? ⟨w.heap.size + 1, 0, none⟩ = some (.int .u8 (r1 : Int)) := by rw [hwd]; go_simp
  have c3 : wd.cell? ⟨w.heap.size + 1, 1, none⟩ = some (.int .u32 (n1 : Int)) := by rw [hwd]; go_simp
  have c4 : wd.cell? ⟨w.heap.size + 1 + 1, 0, none⟩ = some (.int .u8 (r2 : Int)) := by rw [hwd]; go_simp
  have c5 : wd.cell? ⟨w.heap.size + 1 + 1, 1, none⟩ = some (.int .u32 (n2 : Int)) := by rw [hwd]; go_simp
  have hB0 := hid (show Below w.heap.size w wd by rw [hwd]; exact (((Below.refl _ _).alloc (Nat.le_refl _) _).alloc (by first | (go_simp; done) | (go_simp; omega)) _).alloc (by first | (go_simp; done) | (go_simp; omega)) _)
  clear hwd
  have f0 : ∀ p : Later wd.heap.size wd, p.val.cell? ⟨w.heap.size, 0, none⟩ = some (.int .u8 (r0 : Int)) := fun p => cell_keep p.ok c0
  have f1 : ∀ p : Later wd.heap.size wd, p.val.cell? ⟨w.heap.size, 1, none⟩ = some (.int .u32 (n0 : Int)) := fun p => cell_keep p.ok c1
  have f2 : ∀ p : Later wd.heap.size wd, p.val.cell? ⟨w.heap.size + 1, 0, none⟩ = some (.int .u8 (r1 : Int)) := fun p => cell_keep p.ok c2
  have f3 : ∀ p : Later wd.heap.size wd, p.val.cell? ⟨w.heap.size + 1, 1, none⟩ = some (.int .u32 (n1 : Int)) := fun p => cell_keep p.ok c3
  have f4 : ∀ p : Later wd.heap.size wd, p.val.cell? ⟨w.heap.size + 1 + 1, 0, none⟩ = some (.int .u8 (r2 : Int)) := fun p => cell_keep p.ok c4
  have f5 : ∀ p : Later wd.heap.size wd, p.val.cell? ⟨w.heap.size + 1 + 1, 1, none⟩ = some (.int .u32 (n2 : Int)) := fun p => cell_keep p.ok c5
  repeat (go_big_quiet_step ((go_at_call 14; (first | with_reducible exact Calls.later_of (Nat.le_refl _) (hab _) | with_reducible exact Calls.later_of (Nat.le_refl _) (hba _) | with_reducible exact Calls.later_of (Nat.le_refl _) (hbc _) | with_reducible exact Calls.later_of (Nat.le_refl _) (hac _)))))
  refine wpQuiet_nil ?_
  rintro _ ⟨p, rfl⟩
  have g0 := f0 p
  have g1 := f1 p
  have g2 := f2 p
  have g3 := f3 p
  have hpo := hid p.ok
  clear f0 f1 f2 f3 f4 f5 c0 c1 c2 c3 c4 c5
  have HB1 := hid (hB0.out.trans (hpo.out.mono hB0.out.size))
  clear hB0 hpo
  generalize p.val = wq at g0 g1 g2 g3 HB1 ⊢
  go_wp2_with fail
  refine (hk0 _).mono ?_
  rintro e w2 ⟨rfl, hB⟩
  have a0 := cell_keep hB g0
  have a1 := cell_keep hB g1
  have a2 := cell_keep hB g2
  have a3 := cell_keep hB g3
  have HB2 := hid (HB1.out.trans (hB.mono HB1.out.size))
  clear hB HB1 g0 g1 g2 g3
  go_wp2_with fail
  refine (hk1 _).mono ?_
  rintro e w3 ⟨rfl, hB⟩
  have b0 := cell_keep hB a0
  have b1 := cell_keep hB a1
  have b2 := cell_keep hB a2
  have b3 := cell_keep hB a3
  have HB3 := hid (HB2.out.trans (hB.mono HB2.out.size))
  clear hB HB2 a0 a1 a2 a3
  go_wp2_with fail
  refine (law_head _).mono ?_
  rintro e w4 ⟨rfl, hB⟩
  go_wp2
  go_ret
  exact ⟨rfl, HB3.out.trans (hB.mono HB3.out.size)⟩

set_option maxHeartbeats 4000000 in
theorem ord_m_le_00_same {r0 n0 n1 r2 n2 k0 k1 : Nat} {y z : Int} (w : World)
    (hab : ∀ W, Calls Try.prog 14 #[.agg #[.int .u8 (r0 : Int), .int .u32 (n0 : Int)], .agg #[.int .u8 (r0 : Int), .int .u32 (n1 : Int)]] W fun e w' => e = .returned (.int .i64 (-1)) ∧ Below W.heap.size W w')
    (hba : ∀ W, Calls Try.prog 14 #[.agg #[.int .u8 (r0 : Int), .int .u32 (n1 : Int)], .agg #[.int .u8 (r0 : Int), .int .u32 (n0 : Int)]] W fun e w' => e = .returned (.int .i64 (1)) ∧ Below W.heap.size W w')
    (hbc : ∀ W, Calls Try.prog 14 #[.agg #[.int .u8 (r0 : Int), .int .u32 (n1 : Int)], .agg #[.int .u8 (r2 : Int), .int .u32 (n2 : Int)]] W fun e w' => e = .returned (.int .i64 y) ∧ Below W.heap.size W w')
    (hac : ∀ W, Calls Try.prog 14 #[.agg #[.int .u8 (r0 : Int), .int .u32 (n0 : Int)], .agg #[.int .u8 (r2 : Int), .int .u32 (n2 : Int)]] W fun e w' => e = .returned (.int .i64 z) ∧ Below W.heap.size W w')
    (hk0 : ∀ W, Calls Try.prog 8 #[.agg #[.int .u8 (r0 : Int), .int .u32 (n0 : Int)]] W fun e w' => e = .returned (.tuple #[.int .u64 (k0 : Int), .int .i64 0]) ∧ Below W.heap.size W w')
    (hk1 : ∀ W, Calls Try.prog 8 #[.agg #[.int .u8 (r0 : Int), .int .u32 (n1 : Int)]] W fun e w' => e = .returned (.tuple #[.int .u64 (k1 : Int), .int .i64 0]) ∧ Below W.heap.size W w')
    (heq : ∀ W, (binOp .eql 24 (.agg #[.int .u8 (r0 : Int), .int .u32 (n0 : Int)]) (.agg #[.int .u8 (r0 : Int), .int .u32 (n1 : Int)])).run Try.prog W = .ok (.bool false) W)
    (hy : y ≤ 0)
    (hz : ¬ 0 < z)
    (hkne : ((k0 : Int) == (k1 : Int)) = false)
    (hklt : (k0 : Int) < (k1 : Int)) :
    Calls Try.prog 7 #[.agg #[.int .u8 (r0 : Int), .int .u32 (n0 : Int)], .agg #[.int .u8 (r0 : Int), .int .u32 (n1 : Int)], .agg #[.int .u8 (r2 : Int), .int .u32 (n2 : Int)]] w fun e w' => e = .returned (.bool true) ∧ Below w.heap.size w w' := by
  have hkl2 : k0 < k1 := by omega
  go_enter Try.func7, Try.ntmps7
  go_wp2
  refine wp_region_later_n (by kernel_rfl) (by kernel_rfl) ?_
  intro wd hwd
  have c0 : wd.cell? ⟨w.heap.size, 0, none⟩ = some (.int .u8 (r0 : Int)) := by rw [hwd]; go_simp
  have c1 : wd.cell? ⟨w.heap.size, 1, none⟩ = some (.int .u32 (n0 : Int)) := by rw [hwd]; go_simp
  have c2 : wd.cell? ⟨w.heap.size + 1, 0, none⟩ = some (.int .u8 (r0 : Int)) := by rw [hwd]; go_simp
  have c3 : wd.cell? ⟨w.heap.size + 1, 1, none⟩ = some (.int .u32 (n1 : Int)) := by rw [hwd]; go_simp
  have c4 : wd.cell? ⟨w.heap.size + 1 + 1, 0, none⟩ = some (.int .u8 (r2 : Int)) := by rw [hwd]; go_simp
  have c5 : wd.cell? ⟨w.heap.size + 1 + 1, 1, none⟩ = some (.int .u32 (n2 : Int)) := by rw [hwd]; go_simp
  have hB0 := hid (show Below w.heap.size w wd by rw [hwd]; exact (((Below.refl _ _).alloc (Nat.le_refl _) _).alloc (by first | (go_simp; done) | (go_simp; omega)) _).alloc (by first | (go_simp; done) | (go_simp; omega)) _)
  clear hwd
  have f0 : ∀ p : Later wd.heap.size wd, p.val.cell? ⟨w.heap.size, 0, none⟩ = some (.int .u8 (r0 : Int)) := fun p => cell_keep p.ok c0
  have f1 : ∀ p : Later wd.heap.size wd, p.val.cell? ⟨w.heap.size, 1, none⟩ = some (.int .u32 (n0 : Int)) := fun p => cell_keep p.ok c1
  have f2 : ∀ p : Later wd.heap.size wd, p.val.cell? ⟨w.heap.size + 1, 0, none⟩ = some (.int .u8 (r0 : Int)) := fun p => cell_keep p.ok c2
  have f3 : ∀ p : Later wd.heap.size wd, p.val.cell? ⟨w.heap.size + 1, 1, none⟩ = some (.int .u32 (n1 : Int)) := fun p => cell_keep p.ok c3
  have f4 : ∀ p : Later wd.heap.size wd, p.val.cell? ⟨w.heap.size + 1 + 1, 0, none⟩ = some (.int .u8 (r2 : Int)) := fun p => cell_keep p.ok c4
  have f5 : ∀ p : Later wd.heap.size wd, p.val.cell? ⟨w.heap.size + 1 + 1, 1, none⟩ = some (.int .u32 (n2 : Int)) := fun p => cell_keep p.ok c5
  repeat (go_big_quiet_step ((go_at_call 14; (first | with_reducible exact Calls.later_of (Nat.le_refl _) (hab _) | with_reducible exact Calls.later_of (Nat.le_refl _) (hba _) | with_reducible exact Calls.later_of (Nat.le_refl _) (hbc _) | with_reducible exact Calls.later_of (Nat.le_refl _) (hac _)))))
  refine wpQuiet_nil ?_
  rintro _ ⟨p, rfl⟩
  have g0 := f0 p
  have g1 := f1 p
  have g2 := f2 p
  have g3 := f3 p
  have hpo := hid p.ok
  clear f0 f1 f2 f3 f4 f5 c0 c1 c2 c3 c4 c5
  have HB1 := hid (hB0.out.trans (hpo.out.mono hB0.out.size))
  clear hB0 hpo
  generalize p.val = wq at g0 g1 g2 g3 HB1 ⊢
  go_wp2_with fail
  refine (hk0 _).mono ?_
  rintro e w2 ⟨rfl, hB⟩
  have a0 := cell_keep hB g0
  have a1 := cell_keep hB g1
  have a2 := cell_keep hB g2
  have a3 := cell_keep hB g3
  have HB2 := hid (HB1.out.trans (hB.mono HB1.out.size))
  clear hB HB1 g0 g1 g2 g3
  go_wp2_with fail
  refine (hk1 _).mono ?_
  rintro e w3 ⟨rfl, hB⟩
  have b0 := cell_keep hB a0
  have b1 := cell_keep hB a1
  have b2 := cell_keep hB a2
  have b3 := cell_keep hB a3
  have HB3 := hid (HB2.out.trans (hB.mono HB2.out.size))
  clear hB HB2 a0 a1 a2 a3
  go_wp2_with fail
  refine (hab _).mono ?_
  rintro e w5 ⟨rfl, hB⟩
  have HB5 := hid (HB3.out.trans (hB.mono HB3.out.size))
  clear hB HB3
  go_wp2_with fail
  refine (law_head _).mono ?_
  rintro e w4 ⟨rfl, hB⟩
  go_wp2
  go_ret
  exact ⟨rfl, HB5.out.trans (hB.mono HB5.out.size)⟩

end Go.Proofs.Ytmjmgjdklhdcdaa
