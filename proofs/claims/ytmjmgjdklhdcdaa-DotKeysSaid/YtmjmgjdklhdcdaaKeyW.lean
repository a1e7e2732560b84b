/-
  The law DotKeys: its walks, one for each way through its last test.
-/
import Derived.Test.YtmjmgjdklhdcdaaOrdL
namespace Go.Proofs.Ytmjmgjdklhdcdaa
set_option linter.unusedVariables false
set_option linter.unusedSimpArgs false
open Go Go.RowKit

set_option maxHeartbeats 4000000 in
theorem keys_11 {r0 n0 r1 n1 pr pn key K : Nat} {c : Int} {M : Bool} (w : World)
    (h0 : ∀ W, Calls Try.prog 8 #[.agg #[.int .u8 (r0 : Int), .int .u32 (n0 : Int)]] W fun e w' => e = .returned (.tuple #[.int .u64 (K : Int), .int .i64 0]) ∧ Below W.heap.size W w')
    (h1 : ∀ W, Calls Try.prog 9 #[.agg #[.int .u8 (r0 : Int), .int .u32 (n0 : Int)]] W fun e w' => e = .returned (.tuple #[.int .u64 (K : Int), .int .i64 0]) ∧ Below W.heap.size W w')
    (h2 : ∀ W, Calls Try.prog 10 #[.int .u64 (key : Int)] W fun e w' => e = .returned (.tuple #[.agg #[.int .u8 (pr : Int), .int .u32 (pn : Int)], .int .i64 0]) ∧ Below W.heap.size W w')
    (h3 : ∀ W, Calls Try.prog 11 #[.int .u64 (key : Int)] W fun e w' => e = .returned (.tuple #[.agg #[.int .u8 (pr : Int), .int .u32 (pn : Int)], .int .i64 0]) ∧ Below W.heap.size W w')
    (h4 : ∀ W, Calls Try.prog 12 #[.agg #[.int .u8 (r0 : Int), .int .u32 (n0 : Int)]] W fun e w' => e = .returned (.bool M) ∧ Below W.heap.size W w')
    (h5 : ∀ W, Calls Try.prog 13 #[.agg #[.int .u8 (r0 : Int), .int .u32 (n0 : Int)]] W fun e w' => e = .returned (.bool M) ∧ Below W.heap.size W w')
    (h6 : ∀ W, Calls Try.prog 14 #[.agg #[.int .u8 (r0 : Int), .int .u32 (n0 : Int)], .agg #[.int .u8 (r1 : Int), .int .u32 (n1 : Int)]] W fun e w' => e = .returned (.int .i64 c) ∧ Below W.heap.size W w')
    (h7 : ∀ W, Calls Try.prog 15 #[.agg #[.int .u8 (r0 : Int), .int .u32 (n0 : Int)], .agg #[.int .u8 (r1 : Int), .int .u32 (n1 : Int)]] W fun e w' => e = .returned (.int .i64 c) ∧ Below W.heap.size W w')
    (h8 : ∀ W, Calls Try.prog 10 #[.int .u64 (K : Int)] W fun e w' => e = .returned (.tuple #[.agg #[.int .u8 (r0 : Int), .int .u32 (n0 : Int)], .int .i64 0]) ∧ Below W.heap.size W w')
    (h9 : ∀ W, Calls Try.prog 8 #[.agg #[.int .u8 (pr : Int), .int .u32 (pn : Int)]] W fun e w' => e = .returned (.tuple #[.int .u64 (key : Int), .int .i64 0]) ∧ Below W.heap.size W w')
    (h10 : ∀ W, (binOp .neq 24 (.agg #[.int .u8 (pr : Int), .int .u32 (pn : Int)]) (.agg #[.int .u8 (pr : Int), .int .u32 (pn : Int)])).run Try.prog W = .ok (.bool false) W)
    (h11 : ∀ W, (binOp .eql 24 (.agg #[.int .u8 (r0 : Int), .int .u32 (n0 : Int)]) (.agg #[.int .u8 (r0 : Int), .int .u32 (n0 : Int)])).run Try.prog W = .ok (.bool true) W) :
    Calls Try.prog 3 #[.agg #[.int .u8 (r0 : Int), .int .u32 (n0 : Int)], .agg #[.int .u8 (r1 : Int), .int .u32 (n1 : Int)], .int .u64 (key : Int)] w fun e w' => e = .returned (.bool true) ∧ Below w.heap.size w w' := by
  go_enter Try.func3, Try.ntmps3
  go_wp2_with fail
  refine (h0 _).mono ?_
  rintro e w1 ⟨rfl, hB⟩
  have xa0 : w1.cell? ⟨w.heap.size, 0, none⟩ = some (.int .u8 (r0 : Int)) := cell_keep hB (by simp)
  have xa1 : w1.cell? ⟨w.heap.size, 1, none⟩ = some (.int .u32 (n0 : Int)) := cell_keep hB (by simp)
  have xb0 : w1.cell? ⟨w.heap.size + 1, 0, none⟩ = some (.int .u8 (r1 : Int)) := cell_keep hB (by simp)
  have xb1 : w1.cell? ⟨w.heap.size + 1, 1, none⟩ = some (.int .u32 (n1 : Int)) := cell_keep hB (by simp)
  have HB := hid (st2 hB)
  clear hB
  go_wp2_with fail
  refine (h1 _).mono ?_
  rintro e w2 ⟨rfl, hB⟩
  replace xa0 := cell_keep hB xa0
  replace xa1 := cell_keep hB xa1
  replace xb0 := cell_keep hB xb0
  replace xb1 := cell_keep hB xb1
  replace HB := hid (HB.out.trans ((st0 hB).mono HB.out.size))
  clear hB
  go_wp2_with fail
  refine (h2 _).mono ?_
  rintro e w3 ⟨rfl, hB⟩
  replace xa0 := cell_keep hB xa0
  replace xa1 := cell_keep hB xa1
  replace xb0 := cell_keep hB xb0
  replace xb1 := cell_keep hB xb1
  replace HB := hid (HB.out.trans ((st0 hB).mono HB.out.size))
  clear hB
  go_wp2_with fail
  refine (h3 _).mono ?_
  rintro e w4 ⟨rfl, hB⟩
  replace xa0 := cell_keep (st1 hB) xa0
  replace xa1 := cell_keep (st1 hB) xa1
  replace xb0 := cell_keep (st1 hB) xb0
  replace xb1 := cell_keep (st1 hB) xb1
  have xp0 : w4.cell? ⟨w3.heap.size, 0, none⟩ = some (.int .u8 (pr : Int)) := cell_keep hB (by simp)
  have xp1 : w4.cell? ⟨w3.heap.size, 1, none⟩ = some (.int .u32 (pn : Int)) := cell_keep hB (by simp)
  replace HB := hid (HB.out.trans ((st1 hB).mono HB.out.size))
  clear hB
  go_wp2
  refine wp_region_later_n (by kernel_rfl) (by kernel_rfl) ?_
  intro wd hwd
  replace xa0 : wd.cell? ⟨w.heap.size, 0, none⟩ = some (.int .u8 (r0 : Int)) := by rw [hwd]; exact cell_keep (below_al _ _) xa0
  replace xa1 : wd.cell? ⟨w.heap.size, 1, none⟩ = some (.int .u32 (n0 : Int)) := by rw [hwd]; exact cell_keep (below_al _ _) xa1
  replace xb0 : wd.cell? ⟨w.heap.size + 1, 0, none⟩ = some (.int .u8 (r1 : Int)) := by rw [hwd]; exact cell_keep (below_al _ _) xb0
  replace xb1 : wd.cell? ⟨w.heap.size + 1, 1, none⟩ = some (.int .u32 (n1 : Int)) := by rw [hwd]; exact cell_keep (below_al _ _) xb1
  replace xp0 : wd.cell? ⟨w3.heap.size, 0, none⟩ = some (.int .u8 (pr : Int)) := by rw [hwd]; exact cell_keep (below_al _ _) xp0
  replace xp1 : wd.cell? ⟨w3.heap.size, 1, none⟩ = some (.int .u32 (pn : Int)) := by rw [hwd]; exact cell_keep (below_al _ _) xp1
  have xq0 : wd.cell? ⟨w4.heap.size, 0, none⟩ = some (.int .u8 (pr : Int)) := by rw [hwd]; simp
  have xq1 : wd.cell? ⟨w4.heap.size, 1, none⟩ = some (.int .u32 (pn : Int)) := by rw [hwd]; simp
  have hB0 := hid (show Below w.heap.size w wd by rw [hwd]; exact HB.out.trans ((below_al _ _).mono HB.out.size))
  clear hwd HB
  have fa0 : ∀ p : Later wd.heap.size wd, p.val.cell? ⟨w.heap.size, 0, none⟩ = some (.int .u8 (r0 : Int)) := fun p => cell_keep p.ok xa0
  have fa1 : ∀ p : Later wd.heap.size wd, p.val.cell? ⟨w.heap.size, 1, none⟩ = some (.int .u32 (n0 : Int)) := fun p => cell_keep p.ok xa1
  have fb0 : ∀ p : Later wd.heap.size wd, p.val.cell? ⟨w.heap.size + 1, 0, none⟩ = some (.int .u8 (r1 : Int)) := fun p => cell_keep p.ok xb0
  have fb1 : ∀ p : Later wd.heap.size wd, p.val.cell? ⟨w.heap.size + 1, 1, none⟩ = some (.int .u32 (n1 : Int)) := fun p => cell_keep p.ok xb1
  have fp0 : ∀ p : Later wd.heap.size wd, p.val.cell? ⟨w3.heap.size, 0, none⟩ = some (.int .u8 (pr : Int)) := fun p => cell_keep p.ok xp0
  have fp1 : ∀ p : Later wd.heap.size wd, p.val.cell? ⟨w3.heap.size, 1, none⟩ = some (.int .u32 (pn : Int)) := fun p => cell_keep p.ok xp1
  have fq0 : ∀ p : Later wd.heap.size wd, p.val.cell? ⟨w4.heap.size, 0, none⟩ = some (.int .u8 (pr : Int)) := fun p => cell_keep p.ok xq0
  have fq1 : ∀ p : Later wd.heap.size wd, p.val.cell? ⟨w4.heap.size, 1, none⟩ = some (.int .u32 (pn : Int)) := fun p => cell_keep p.ok xq1
  clear xa0 xa1 xb0 xb1 xp0 xp1 xq0 xq1
  repeat (go_big_quiet_step (first | (go_at_call 12; with_reducible exact Calls.later_of (Nat.le_refl _) (h4 _)) | (go_at_call 13; with_reducible exact Calls.later_of (Nat.le_refl _) (h5 _)) | (go_at_call 14; with_reducible exact Calls.later_of (Nat.le_refl _) (h6 _)) | (go_at_call 15; with_reducible exact Calls.later_of (Nat.le_refl _) (h7 _))))
  refine wpQuiet_nil ?_
  rintro _ ⟨p, rfl⟩
  have ya0 := fa0 p
  have ya1 := fa1 p
  have yp0 := fp0 p
  have yp1 := fp1 p
  have hpo := hid p.ok
  clear fa0 fa1 fb0 fb1 fp0 fp1 fq0 fq1
  have HB := hid (hB0.out.trans (hpo.out.mono hB0.out.size))
  clear hB0 hpo
  generalize p.val = wq at ya0 ya1 yp0 yp1 HB ⊢
  go_wp2_with fail
  refine (h8 _).mono ?_
  rintro e w5 ⟨rfl, hB⟩
  replace ya0 := cell_keep hB ya0
  replace ya1 := cell_keep hB ya1
  replace yp0 := cell_keep hB yp0
  replace yp1 := cell_keep hB yp1
  replace HB := hid (HB.out.trans ((st0 hB).mono HB.out.size))
  clear hB
  have zp0 : ∀ o, (w5.alloc o).cell? ⟨w3.heap.size, 0, none⟩ = some (.int .u8 (pr : Int)) := fun o => cell_keep (below_al _ o) yp0
  have zp1 : ∀ o, (w5.alloc o).cell? ⟨w3.heap.size, 1, none⟩ = some (.int .u32 (pn : Int)) := fun o => cell_keep (below_al _ o) yp1
  go_wp2_with fail
  clear zp0 zp1
  refine (h9 _).mono ?_
  rintro e w6 ⟨rfl, hB⟩
  replace ya0 := cell_keep (st1 hB) ya0
  replace ya1 := cell_keep (st1 hB) ya1
  replace yp0 := cell_keep (st1 hB) yp0
  replace yp1 := cell_keep (st1 hB) yp1
  have yk0 : w6.cell? ⟨w5.heap.size, 0, none⟩ = some (.int .u8 (r0 : Int)) := cell_keep hB (by simp)
  have yk1 : w6.cell? ⟨w5.heap.size, 1, none⟩ = some (.int .u32 (n0 : Int)) := cell_keep hB (by simp)
  replace HB := hid (HB.out.trans ((st1 hB).mono HB.out.size))
  clear hB
  go_wp2_with fail
  refine (law_head _).mono ?_
  rintro e w7 ⟨rfl, hB⟩
  replace HB := hid (HB.out.trans ((st0 hB).mono HB.out.size))
  clear hB
  go_wp2
  go_ret
  exact ⟨rfl, HB.out⟩

set_option maxHeartbeats 4000000 in
theorem keys_10 {r0 n0 r1 n1 pr pn key K K2 : Nat} {J c : Int} {M : Bool} (w : World)
    (h0 : ∀ W, Calls Try.prog 8 #[.agg #[.int .u8 (r0 : Int), .int .u32 (n0 : Int)]] W fun e w' => e = .returned (.tuple #[.int .u64 (K : Int), .int .i64 0]) ∧ Below W.heap.size W w')
    (h1 : ∀ W, Calls Try.prog 9 #[.agg #[.int .u8 (r0 : Int), .int .u32 (n0 : Int)]] W fun e w' => e = .returned (.tuple #[.int .u64 (K : Int), .int .i64 0]) ∧ Below W.heap.size W w')
    (h2 : ∀ W, Calls Try.prog 10 #[.int .u64 (key : Int)] W fun e w' => e = .returned (.tuple #[.agg #[.int .u8 (pr : Int), .int .u32 (pn : Int)], .int .i64 5]) ∧ Below W.heap.size W w')
    (h3 : ∀ W, Calls Try.prog 11 #[.int .u64 (key : Int)] W fun e w' => e = .returned (.tuple #[.agg #[.int .u8 (pr : Int), .int .u32 (pn : Int)], .int .i64 5]) ∧ Below W.heap.size W w')
    (h4 : ∀ W, Calls Try.prog 12 #[.agg #[.int .u8 (r0 : Int), .int .u32 (n0 : Int)]] W fun e w' => e = .returned (.bool M) ∧ Below W.heap.size W w')
    (h5 : ∀ W, Calls Try.prog 13 #[.agg #[.int .u8 (r0 : Int), .int .u32 (n0 : Int)]] W fun e w' => e = .returned (.bool M) ∧ Below W.heap.size W w')
    (h6 : ∀ W, Calls Try.prog 14 #[.agg #[.int .u8 (r0 : Int), .int .u32 (n0 : Int)], .agg #[.int .u8 (r1 : Int), .int .u32 (n1 : Int)]] W fun e w' => e = .returned (.int .i64 c) ∧ Below W.heap.size W w')
    (h7 : ∀ W, Calls Try.prog 15 #[.agg #[.int .u8 (r0 : Int), .int .u32 (n0 : Int)], .agg #[.int .u8 (r1 : Int), .int .u32 (n1 : Int)]] W fun e w' => e = .returned (.int .i64 c) ∧ Below W.heap.size W w')
    (h8 : ∀ W, Calls Try.prog 10 #[.int .u64 (K : Int)] W fun e w' => e = .returned (.tuple #[.agg #[.int .u8 (r0 : Int), .int .u32 (n0 : Int)], .int .i64 0]) ∧ Below W.heap.size W w')
    (h9 : ∀ W, Calls Try.prog 8 #[.agg #[.int .u8 (pr : Int), .int .u32 (pn : Int)]] W fun e w' => e = .returned (.tuple #[.int .u64 (K2 : Int), .int .i64 J]) ∧ Below W.heap.size W w')
    (h10 : ∀ W, (binOp .neq 24 (.agg #[.int .u8 (pr : Int), .int .u32 (pn : Int)]) (.agg #[.int .u8 (pr : Int), .int .u32 (pn : Int)])).run Try.prog W = .ok (.bool false) W)
    (h11 : ∀ W, (binOp .eql 24 (.agg #[.int .u8 (r0 : Int), .int .u32 (n0 : Int)]) (.agg #[.int .u8 (r0 : Int), .int .u32 (n0 : Int)])).run Try.prog W = .ok (.bool true) W) :
    Calls Try.prog 3 #[.agg #[.int .u8 (r0 : Int), .int .u32 (n0 : Int)], .agg #[.int .u8 (r1 : Int), .int .u32 (n1 : Int)], .int .u64 (key : Int)] w fun e w' => e = .returned (.bool true) ∧ Below w.heap.size w w' := by
  go_enter Try.func3, Try.ntmps3
  go_wp2_with fail
  refine (h0 _).mono ?_
  rintro e w1 ⟨rfl, hB⟩
  have xa0 : w1.cell? ⟨w.heap.size, 0, none⟩ = some (.int .u8 (r0 : Int)) := cell_keep hB (by simp)
  have xa1 : w1.cell? ⟨w.heap.size, 1, none⟩ = some (.int .u32 (n0 : Int)) := cell_keep hB (by simp)
  have xb0 : w1.cell? ⟨w.heap.size + 1, 0, none⟩ = some (.int .u8 (r1 : Int)) := cell_keep hB (by simp)
  have xb1 : w1.cell? ⟨w.heap.size + 1, 1, none⟩ = some (.int .u32 (n1 : Int)) := cell_keep hB (by simp)
  have HB := hid (st2 hB)
  clear hB
  go_wp2_with fail
  refine (h1 _).mono ?_
  rintro e w2 ⟨rfl, hB⟩
  replace xa0 := cell_keep hB xa0
  replace xa1 := cell_keep hB xa1
  replace xb0 := cell_keep hB xb0
  replace xb1 := cell_keep hB xb1
  replace HB := hid (HB.out.trans ((st0 hB).mono HB.out.size))
  clear hB
  go_wp2_with fail
  refine (h2 _).mono ?_
  rintro e w3 ⟨rfl, hB⟩
  replace xa0 := cell_keep hB xa0
  replace xa1 := cell_keep hB xa1
  replace xb0 := cell_keep hB xb0
  replace xb1 := cell_keep hB xb1
  replace HB := hid (HB.out.trans ((st0 hB).mono HB.out.size))
  clear hB
  go_wp2_with fail
  refine (h3 _).mono ?_
  rintro e w4 ⟨rfl, hB⟩
  replace xa0 := cell_keep (st1 hB) xa0
  replace xa1 := cell_keep (st1 hB) xa1
  replace xb0 := cell_keep (st1 hB) xb0
  replace xb1 := cell_keep (st1 hB) xb1
  have xp0 : w4.cell? ⟨w3.heap.size, 0, none⟩ = some (.int .u8 (pr : Int)) := cell_keep hB (by simp)
  have xp1 : w4.cell? ⟨w3.heap.size, 1, none⟩ = some (.int .u32 (pn : Int)) := cell_keep hB (by simp)
  replace HB := hid (HB.out.trans ((st1 hB).mono HB.out.size))
  clear hB
  go_wp2
  refine wp_region_later_n (by kernel_rfl) (by kernel_rfl) ?_
  intro wd hwd
  replace xa0 : wd.cell? ⟨w.heap.size, 0, none⟩ = some (.int .u8 (r0 : Int)) := by rw [hwd]; exact cell_keep (below_al _ _) xa0
  replace xa1 : wd.cell? ⟨w.heap.size, 1, none⟩ = some (.int .u32 (n0 : Int)) := by rw [hwd]; exact cell_keep (below_al _ _) xa1
  replace xb0 : wd.cell? ⟨w.heap.size + 1, 0, none⟩ = some (.int .u8 (r1 : Int)) := by rw [hwd]; exact cell_keep (below_al _ _) xb0
  replace xb1 : wd.cell? ⟨w.heap.size + 1, 1, none⟩ = some (.int .u32 (n1 : Int)) := by rw [hwd]; exact cell_keep (below_al _ _) xb1
  replace xp0 : wd.cell? ⟨w3.heap.size, 0, none⟩ = some (.int .u8 (pr : Int)) := by rw [hwd]; exact cell_keep (below_al _ _) xp0
  replace xp1 : wd.cell? ⟨w3.heap.size, 1, none⟩ = some (.int .u32 (pn : Int)) := by rw [hwd]; exact cell_keep (below_al _ _) xp1
  have xq0 : wd.cell? ⟨w4.heap.size, 0, none⟩ = some (.int .u8 (pr : Int)) := by rw [hwd]; simp
  have xq1 : wd.cell? ⟨w4.heap.size, 1, none⟩ = some (.int .u32 (pn : Int)) := by rw [hwd]; simp
  have hB0 := hid (show Below w.heap.size w wd by rw [hwd]; exact HB.out.trans ((below_al _ _).mono HB.out.size))
  clear hwd HB
  have fa0 : ∀ p : Later wd.heap.size wd, p.val.cell? ⟨w.heap.size, 0, none⟩ = some (.int .u8 (r0 : Int)) := fun p => cell_keep p.ok xa0
  have fa1 : ∀ p : Later wd.heap.size wd, p.val.cell? ⟨w.heap.size, 1, none⟩ = some (.int .u32 (n0 : Int)) := fun p => cell_keep p.ok xa1
  have fb0 : ∀ p : Later wd.heap.size wd, p.val.cell? ⟨w.heap.size + 1, 0, none⟩ = some (.int .u8 (r1 : Int)) := fun p => cell_keep p.ok xb0
  have fb1 : ∀ p : Later wd.heap.size wd, p.val.cell? ⟨w.heap.size + 1, 1, none⟩ = some (.int .u32 (n1 : Int)) := fun p => cell_keep p.ok xb1
  have fp0 : ∀ p : Later wd.heap.size wd, p.val.cell? ⟨w3.heap.size, 0, none⟩ = some (.int .u8 (pr : Int)) := fun p => cell_keep p.ok xp0
  have fp1 : ∀ p : Later wd.heap.size wd, p.val.cell? ⟨w3.heap.size, 1, none⟩ = some (.int .u32 (pn : Int)) := fun p => cell_keep p.ok xp1
  have fq0 : ∀ p : Later wd.heap.size wd, p.val.cell? ⟨w4.heap.size, 0, none⟩ = some (.int .u8 (pr : Int)) := fun p => cell_keep p.ok xq0
  have fq1 : ∀ p : Later wd.heap.size wd, p.val.cell? ⟨w4.heap.size, 1, none⟩ = some (.int .u32 (pn : Int)) := fun p => cell_keep p.ok xq1
  clear xa0 xa1 xb0 xb1 xp0 xp1 xq0 xq1
  repeat (go_big_quiet_step (first | (go_at_call 12; with_reducible exact Calls.later_of (Nat.le_refl _) (h4 _)) | (go_at_call 13; with_reducible exact Calls.later_of (Nat.le_refl _) (h5 _)) | (go_at_call 14; with_reducible exact Calls.later_of (Nat.le_refl _) (h6 _)) | (go_at_call 15; with_reducible exact Calls.later_of (Nat.le_refl _) (h7 _))))
  refine wpQuiet_nil ?_
  rintro _ ⟨p, rfl⟩
  have ya0 := fa0 p
  have ya1 := fa1 p
  have yp0 := fp0 p
  have yp1 := fp1 p
  have hpo := hid p.ok
  clear fa0 fa1 fb0 fb1 fp0 fp1 fq0 fq1
  have HB := hid (hB0.out.trans (hpo.out.mono hB0.out.size))
  clear hB0 hpo
  generalize p.val = wq at ya0 ya1 yp0 yp1 HB ⊢
  go_wp2_with fail
  refine (h8 _).mono ?_
  rintro e w5 ⟨rfl, hB⟩
  replace ya0 := cell_keep hB ya0
  replace ya1 := cell_keep hB ya1
  replace yp0 := cell_keep hB yp0
  replace yp1 := cell_keep hB yp1
  replace HB := hid (HB.out.trans ((st0 hB).mono HB.out.size))
  clear hB
  have zp0 : ∀ o, (w5.alloc o).cell? ⟨w3.heap.size, 0, none⟩ = some (.int .u8 (pr : Int)) := fun o => cell_keep (below_al _ o) yp0
  have zp1 : ∀ o, (w5.alloc o).cell? ⟨w3.heap.size, 1, none⟩ = some (.int .u32 (pn : Int)) := fun o => cell_keep (below_al _ o) yp1
  go_wp2_with fail
  clear zp0 zp1
  refine (h9 _).mono ?_
  rintro e w6 ⟨rfl, hB⟩
  replace ya0 := cell_keep (st1 hB) ya0
  replace ya1 := cell_keep (st1 hB) ya1
  replace yp0 := cell_keep (st1 hB) yp0
  replace yp1 := cell_keep (st1 hB) yp1
  have yk0 : w6.cell? ⟨w5.heap.size, 0, none⟩ = some (.int .u8 (r0 : Int)) := cell_keep hB (by simp)
  have yk1 : w6.cell? ⟨w5.heap.size, 1, none⟩ = some (.int .u32 (n0 : Int)) := cell_keep hB (by simp)
  replace HB := hid (HB.out.trans ((st1 hB).mono HB.out.size))
  clear hB
  go_wp2_with fail
  refine (law_head _).mono ?_
  rintro e w7 ⟨rfl, hB⟩
  replace HB := hid (HB.out.trans ((st0 hB).mono HB.out.size))
  clear hB
  go_wp2
  go_ret
  exact ⟨rfl, HB.out⟩

set_option maxHeartbeats 4000000 in
theorem keys_01 {r0 n0 r1 n1 pr pn br bn key K : Nat} {I c : Int} {M : Bool} (w : World)
    (h0 : ∀ W, Calls Try.prog 8 #[.agg #[.int .u8 (r0 : Int), .int .u32 (n0 : Int)]] W fun e w' => e = .returned (.tuple #[.int .u64 (K : Int), .int .i64 2]) ∧ Below W.heap.size W w')
    (h1 : ∀ W, Calls Try.prog 9 #[.agg #[.int .u8 (r0 : Int), .int .u32 (n0 : Int)]] W fun e w' => e = .returned (.tuple #[.int .u64 (K : Int), .int .i64 2]) ∧ Below W.heap.size W w')
    (h2 : ∀ W, Calls Try.prog 10 #[.int .u64 (key : Int)] W fun e w' => e = .returned (.tuple #[.agg #[.int .u8 (pr : Int), .int .u32 (pn : Int)], .int .i64 0]) ∧ Below W.heap.size W w')
    (h3 : ∀ W, Calls Try.prog 11 #[.int .u64 (key : Int)] W fun e w' => e = .returned (.tuple #[.agg #[.int .u8 (pr : Int), .int .u32 (pn : Int)], .int .i64 0]) ∧ Below W.heap.size W w')
    (h4 : ∀ W, Calls Try.prog 12 #[.agg #[.int .u8 (r0 : Int), .int .u32 (n0 : Int)]] W fun e w' => e = .returned (.bool M) ∧ Below W.heap.size W w')
    (h5 : ∀ W, Calls Try.prog 13 #[.agg #[.int .u8 (r0 : Int), .int .u32 (n0 : Int)]] W fun e w' => e = .returned (.bool M) ∧ Below W.heap.size W w')
    (h6 : ∀ W, Calls Try.prog 14 #[.agg #[.int .u8 (r0 : Int), .int .u32 (n0 : Int)], .agg #[.int .u8 (r1 : Int), .int .u32 (n1 : Int)]] W fun e w' => e = .returned (.int .i64 c) ∧ Below W.heap.size W w')
    (h7 : ∀ W, Calls Try.prog 15 #[.agg #[.int .u8 (r0 : Int), .int .u32 (n0 : Int)], .agg #[.int .u8 (r1 : Int), .int .u32 (n1 : Int)]] W fun e w' => e = .returned (.int .i64 c) ∧ Below W.heap.size W w')
    (h8 : ∀ W, Calls Try.prog 10 #[.int .u64 (K : Int)] W fun e w' => e = .returned (.tuple #[.agg #[.int .u8 (br : Int), .int .u32 (bn : Int)], .int .i64 I]) ∧ Below W.heap.size W w')
    (h9 : ∀ W, Calls Try.prog 8 #[.agg #[.int .u8 (pr : Int), .int .u32 (pn : Int)]] W fun e w' => e = .returned (.tuple #[.int .u64 (key : Int), .int .i64 0]) ∧ Below W.heap.size W w')
    (h10 : ∀ W, (binOp .neq 24 (.agg #[.int .u8 (pr : Int), .int .u32 (pn : Int)]) (.agg #[.int .u8 (pr : Int), .int .u32 (pn : Int)])).run Try.prog W = .ok (.bool false) W) :
    Calls Try.prog 3 #[.agg #[.int .u8 (r0 : Int), .int .u32 (n0 : Int)], .agg #[.int .u8 (r1 : Int), .int .u32 (n1 : Int)], .int .u64 (key : Int)] w fun e w' => e = .returned (.bool true) ∧ Below w.heap.size w w' := by
  go_enter Try.func3, Try.ntmps3
  go_wp2_with fail
  refine (h0 _).mono ?_
  rintro e w1 ⟨rfl, hB⟩
  have xa0 : w1.cell? ⟨w.heap.size, 0, none⟩ = some (.int .u8 (r0 : Int)) := cell_keep hB (by simp)
  have xa1 : w1.cell? ⟨w.heap.size, 1, none⟩ = some (.int .u32 (n0 : Int)) := cell_keep hB (by simp)
  have xb0 : w1.cell? ⟨w.heap.size + 1, 0, none⟩ = some (.int .u8 (r1 : Int)) := cell_keep hB (by simp)
  have xb1 : w1.cell? ⟨w.heap.size + 1, 1, none⟩ = some (.int .u32 (n1 : Int)) := cell_keep hB (by simp)
  have HB := hid (st2 hB)
  clear hB
  go_wp2_with fail
  refine (h1 _).mono ?_
  rintro e w2 ⟨rfl, hB⟩
  replace xa0 := cell_keep hB xa0
  replace xa1 := cell_keep hB xa1
  replace xb0 := cell_keep hB xb0
  replace xb1 := cell_keep hB xb1
  replace HB := hid (HB.out.trans ((st0 hB).mono HB.out.size))
  clear hB
  go_wp2_with fail
  refine (h2 _).mono ?_
  rintro e w3 ⟨rfl, hB⟩
  replace xa0 := cell_keep hB xa0
  replace xa1 := cell_keep hB xa1
  replace xb0 := cell_keep hB xb0
  replace xb1 := cell_keep hB xb1
  replace HB := hid (HB.out.trans ((st0 hB).mono HB.out.size))
  clear hB
  go_wp2_with fail
  refine (h3 _).mono ?_
  rintro e w4 ⟨rfl, hB⟩
  replace xa0 := cell_keep (st1 hB) xa0
  replace xa1 := cell_keep (st1 hB) xa1
  replace xb0 := cell_keep (st1 hB) xb0
  replace xb1 := cell_keep (st1 hB) xb1
  have xp0 : w4.cell? ⟨w3.heap.size, 0, none⟩ = some (.int .u8 (pr : Int)) := cell_keep hB (by simp)
  have xp1 : w4.cell? ⟨w3.heap.size, 1, none⟩ = some (.int .u32 (pn : Int)) := cell_keep hB (by simp)
  replace HB := hid (HB.out.trans ((st1 hB).mono HB.out.size))
  clear hB
  go_wp2
  refine wp_region_later_n (by kernel_rfl) (by kernel_rfl) ?_
  intro wd hwd
  replace xa0 : wd.cell? ⟨w.heap.size, 0, none⟩ = some (.int .u8 (r0 : Int)) := by rw [hwd]; exact cell_keep (below_al _ _) xa0
  replace xa1 : wd.cell? ⟨w.heap.size, 1, none⟩ = some (.int .u32 (n0 : Int)) := by rw [hwd]; exact cell_keep (below_al _ _) xa1
  replace xb0 : wd.cell? ⟨w.heap.size + 1, 0, none⟩ = some (.int .u8 (r1 : Int)) := by rw [hwd]; exact cell_keep (below_al _ _) xb0
  replace xb1 : wd.cell? ⟨w.heap.size + 1, 1, none⟩ = some (.int .u32 (n1 : Int)) := by rw [hwd]; exact cell_keep (below_al _ _) xb1
  replace xp0 : wd.cell? ⟨w3.heap.size, 0, none⟩ = some (.int .u8 (pr : Int)) := by rw [hwd]; exact cell_keep (below_al _ _) xp0
  replace xp1 : wd.cell? ⟨w3.heap.size, 1, none⟩ = some (.int .u32 (pn : Int)) := by rw [hwd]; exact cell_keep (below_al _ _) xp1
  have xq0 : wd.cell? ⟨w4.heap.size, 0, none⟩ = some (.int .u8 (pr : Int)) := by rw [hwd]; simp
  have xq1 : wd.cell? ⟨w4.heap.size, 1, none⟩ = some (.int .u32 (pn : Int)) := by rw [hwd]; simp
  have hB0 := hid (show Below w.heap.size w wd by rw [hwd]; exact HB.out.trans ((below_al _ _).mono HB.out.size))
  clear hwd HB
  have fa0 : ∀ p : Later wd.heap.size wd, p.val.cell? ⟨w.heap.size, 0, none⟩ = some (.int .u8 (r0 : Int)) := fun p => cell_keep p.ok xa0
  have fa1 : ∀ p : Later wd.heap.size wd, p.val.cell? ⟨w.heap.size, 1, none⟩ = some (.int .u32 (n0 : Int)) := fun p => cell_keep p.ok xa1
  have fb0 : ∀ p : Later wd.heap.size wd, p.val.cell? ⟨w.heap.size + 1, 0, none⟩ = some (.int .u8 (r1 : Int)) := fun p => cell_keep p.ok xb0
  have fb1 : ∀ p : Later wd.heap.size wd, p.val.cell? ⟨w.heap.size + 1, 1, none⟩ = some (.int .u32 (n1 : Int)) := fun p => cell_keep p.ok xb1
  have fp0 : ∀ p : Later wd.heap.size wd, p.val.cell? ⟨w3.heap.size, 0, none⟩ = some (.int .u8 (pr : Int)) := fun p => cell_keep p.ok xp0
  have fp1 : ∀ p : Later wd.heap.size wd, p.val.cell? ⟨w3.heap.size, 1, none⟩ = some (.int .u32 (pn : Int)) := fun p => cell_keep p.ok xp1
  have fq0 : ∀ p : Later wd.heap.size wd, p.val.cell? ⟨w4.heap.size, 0, none⟩ = some (.int .u8 (pr : Int)) := fun p => cell_keep p.ok xq0
  have fq1 : ∀ p : Later wd.heap.size wd, p.val.cell? ⟨w4.heap.size, 1, none⟩ = some (.int .u32 (pn : Int)) := fun p => cell_keep p.ok xq1
  clear xa0 xa1 xb0 xb1 xp0 xp1 xq0 xq1
  repeat (go_big_quiet_step (first | (go_at_call 12; with_reducible exact Calls.later_of (Nat.le_refl _) (h4 _)) | (go_at_call 13; with_reducible exact Calls.later_of (Nat.le_refl _) (h5 _)) | (go_at_call 14; with_reducible exact Calls.later_of (Nat.le_refl _) (h6 _)) | (go_at_call 15; with_reducible exact Calls.later_of (Nat.le_refl _) (h7 _))))
  refine wpQuiet_nil ?_
  rintro _ ⟨p, rfl⟩
  have ya0 := fa0 p
  have ya1 := fa1 p
  have yp0 := fp0 p
  have yp1 := fp1 p
  have hpo := hid p.ok
  clear fa0 fa1 fb0 fb1 fp0 fp1 fq0 fq1
  have HB := hid (hB0.out.trans (hpo.out.mono hB0.out.size))
  clear hB0 hpo
  generalize p.val = wq at ya0 ya1 yp0 yp1 HB ⊢
  go_wp2_with fail
  refine (h8 _).mono ?_
  rintro e w5 ⟨rfl, hB⟩
  replace ya0 := cell_keep hB ya0
  replace ya1 := cell_keep hB ya1
  replace yp0 := cell_keep hB yp0
  replace yp1 := cell_keep hB yp1
  replace HB := hid (HB.out.trans ((st0 hB).mono HB.out.size))
  clear hB
  have zp0 : ∀ o, (w5.alloc o).cell? ⟨w3.heap.size, 0, none⟩ = some (.int .u8 (pr : Int)) := fun o => cell_keep (below_al _ o) yp0
  have zp1 : ∀ o, (w5.alloc o).cell? ⟨w3.heap.size, 1, none⟩ = some (.int .u32 (pn : Int)) := fun o => cell_keep (below_al _ o) yp1
  go_wp2_with fail
  clear zp0 zp1
  refine (h9 _).mono ?_
  rintro e w6 ⟨rfl, hB⟩
  replace ya0 := cell_keep (st1 hB) ya0
  replace ya1 := cell_keep (st1 hB) ya1
  replace yp0 := cell_keep (st1 hB) yp0
  replace yp1 := cell_keep (st1 hB) yp1
  have yk0 : w6.cell? ⟨w5.heap.size, 0, none⟩ = some (.int .u8 (br : Int)) := cell_keep hB (by simp)
  have yk1 : w6.cell? ⟨w5.heap.size, 1, none⟩ = some (.int .u32 (bn : Int)) := cell_keep hB (by simp)
  replace HB := hid (HB.out.trans ((st1 hB).mono HB.out.size))
  clear hB
  go_wp2_with fail
  refine (law_head _).mono ?_
  rintro e w7 ⟨rfl, hB⟩
  replace HB := hid (HB.out.trans ((st0 hB).mono HB.out.size))
  clear hB
  go_wp2
  go_ret
  exact ⟨rfl, HB.out⟩

set_option maxHeartbeats 4000000 in
theorem keys_00 {r0 n0 r1 n1 pr pn br bn key K K2 : Nat} {I J c : Int} {M : Bool} (w : World)
    (h0 : ∀ W, Calls Try.prog 8 #[.agg #[.int .u8 (r0 : Int), .int .u32 (n0 : Int)]] W fun e w' => e = .returned (.tuple #[.int .u64 (K : Int), .int .i64 2]) ∧ Below W.heap.size W w')
    (h1 : ∀ W, Calls Try.prog 9 #[.agg #[.int .u8 (r0 : Int), .int .u32 (n0 : Int)]] W fun e w' => e = .returned (.tuple #[.int .u64 (K : Int), .int .i64 2]) ∧ Below W.heap.size W w')
    (h2 : ∀ W, Calls Try.prog 10 #[.int .u64 (key : Int)] W fun e w' => e = .returned (.tuple #[.agg #[.int .u8 (pr : Int), .int .u32 (pn : Int)], .int .i64 5]) ∧ Below W.heap.size W w')
    (h3 : ∀ W, Calls Try.prog 11 #[.int .u64 (key : Int)] W fun e w' => e = .returned (.tuple #[.agg #[.int .u8 (pr : Int), .int .u32 (pn : Int)], .int .i64 5]) ∧ Below W.heap.size W w')
    (h4 : ∀ W, Calls Try.prog 12 #[.agg #[.int .u8 (r0 : Int), .int .u32 (n0 : Int)]] W fun e w' => e = .returned (.bool M) ∧ Below W.heap.size W w')
    (h5 : ∀ W, Calls Try.prog 13 #[.agg #[.int .u8 (r0 : Int), .int .u32 (n0 : Int)]] W fun e w' => e = .returned (.bool M) ∧ Below W.heap.size W w')
    (h6 : ∀ W, Calls Try.prog 14 #[.agg #[.int .u8 (r0 : Int), .int .u32 (n0 : Int)], .agg #[.int .u8 (r1 : Int), .int .u32 (n1 : Int)]] W fun e w' => e = .returned (.int .i64 c) ∧ Below W.heap.size W w')
    (h7 : ∀ W, Calls Try.prog 15 #[.agg #[.int .u8 (r0 : Int), .int .u32 (n0 : Int)], .agg #[.int .u8 (r1 : Int), .int .u32 (n1 : Int)]] W fun e w' => e = .returned (.int .i64 c) ∧ Below W.heap.size W w')
    (h8 : ∀ W, Calls Try.prog 10 #[.int .u64 (K : Int)] W fun e w' => e = .returned (.tuple #[.agg #[.int .u8 (br : Int), .int .u32 (bn : Int)], .int .i64 I]) ∧ Below W.heap.size W w')
    (h9 : ∀ W, Calls Try.prog 8 #[.agg #[.int .u8 (pr : Int), .int .u32 (pn : Int)]] W fun e w' => e = .returned (.tuple #[.int .u64 (K2 : Int), .int .i64 J]) ∧ Below W.heap.size W w')
    (h10 : ∀ W, (binOp .neq 24 (.agg #[.int .u8 (pr : Int), .int .u32 (pn : Int)]) (.agg #[.int .u8 (pr : Int), .int .u32 (pn : Int)])).run Try.prog W = .ok (.bool false) W) :
    Calls Try.prog 3 #[.agg #[.int .u8 (r0 : Int), .int .u32 (n0 : Int)], .agg #[.int .u8 (r1 : Int), .int .u32 (n1 : Int)], .int .u64 (key : Int)] w fun e w' => e = .returned (.bool true) ∧ Below w.heap.size w w' := by
  go_enter Try.func3, Try.ntmps3
  go_wp2_with fail
  refine (h0 _).mono ?_
  rintro e w1 ⟨rfl, hB⟩
  have xa0 : w1.cell? ⟨w.heap.size, 0, none⟩ = some (.int .u8 (r0 : Int)) := cell_keep hB (by simp)
  have xa1 : w1.cell? ⟨w.heap.size, 1, none⟩ = some (.int .u32 (n0 : Int)) := cell_keep hB (by simp)
  have xb0 : w1.cell? ⟨w.heap.size + 1, 0, none⟩ = some (.int .u8 (r1 : Int)) := cell_keep hB (by simp)
  have xb1 : w1.cell? ⟨w.heap.size + 1, 1, none⟩ = some (.int .u32 (n1 : Int)) := cell_keep hB (by simp)
  have HB := hid (st2 hB)
  clear hB
  go_wp2_with fail
  refine (h1 _).mono ?_
  rintro e w2 ⟨rfl, hB⟩
  replace xa0 := cell_keep hB xa0
  replace xa1 := cell_keep hB xa1
  replace xb0 := cell_keep hB xb0
  replace xb1 := cell_keep hB xb1
  replace HB := hid (HB.out.trans ((st0 hB).mono HB.out.size))
  clear hB
  go_wp2_with fail
  refine (h2 _).mono ?_
  rintro e w3 ⟨rfl, hB⟩
  replace xa0 := cell_keep hB xa0
  replace xa1 := cell_keep hB xa1
  replace xb0 := cell_keep hB xb0
  replace xb1 := cell_keep hB xb1
  replace HB := hid (HB.out.trans ((st0 hB).mono HB.out.size))
  clear hB
  go_wp2_with fail
  refine (h3 _).mono ?_
  rintro e w4 ⟨rfl, hB⟩
  replace xa0 := cell_keep (st1 hB) xa0
  replace xa1 := cell_keep (st1 hB) xa1
  replace xb0 := cell_keep (st1 hB) xb0
  replace xb1 := cell_keep (st1 hB) xb1
  have xp0 : w4.cell? ⟨w3.heap.size, 0, none⟩ = some (.int .u8 (pr : Int)) := cell_keep hB (by simp)
  have xp1 : w4.cell? ⟨w3.heap.size, 1, none⟩ = some (.int .u32 (pn : Int)) := cell_keep hB (by simp)
  replace HB := hid (HB.out.trans ((st1 hB).mono HB.out.size))
  clear hB
  go_wp2
  refine wp_region_later_n (by kernel_rfl) (by kernel_rfl) ?_
  intro wd hwd
  replace xa0 : wd.cell? ⟨w.heap.size, 0, none⟩ = some (.int .u8 (r0 : Int)) := by rw [hwd]; exact cell_keep (below_al _ _) xa0
  replace xa1 : wd.cell? ⟨w.heap.size, 1, none⟩ = some (.int .u32 (n0 : Int)) := by rw [hwd]; exact cell_keep (below_al _ _) xa1
  replace xb0 : wd.cell? ⟨w.heap.size + 1, 0, none⟩ = some (.int .u8 (r1 : Int)) := by rw [hwd]; exact cell_keep (below_al _ _) xb0
  replace xb1 : wd.cell? ⟨w.heap.size + 1, 1, none⟩ = some (.int .u32 (n1 : Int)) := by rw [hwd]; exact cell_keep (below_al _ _) xb1
  replace xp0 : wd.cell? ⟨w3.heap.size, 0, none⟩ = some (.int .u8 (pr : Int)) := by rw [hwd]; exact cell_keep (below_al _ _) xp0
  replace xp1 : wd.cell? ⟨w3.heap.size, 1, none⟩ = some (.int .u32 (pn : Int)) := by rw [hwd]; exact cell_keep (below_al _ _) xp1
  have xq0 : wd.cell? ⟨w4.heap.size, 0, none⟩ = some (.int .u8 (pr : Int)) := by rw [hwd]; simp
  have xq1 : wd.cell? ⟨w4.heap.size, 1, none⟩ = some (.int .u32 (pn : Int)) := by rw [hwd]; simp
  have hB0 := hid (show Below w.heap.size w wd by rw [hwd]; exact HB.out.trans ((below_al _ _).mono HB.out.size))
  clear hwd HB
  have fa0 : ∀ p : Later wd.heap.size wd, p.val.cell? ⟨w.heap.size, 0, none⟩ = some (.int .u8 (r0 : Int)) := fun p => cell_keep p.ok xa0
  have fa1 : ∀ p : Later wd.heap.size wd, p.val.cell? ⟨w.heap.size, 1, none⟩ = some (.int .u32 (n0 : Int)) := fun p => cell_keep p.ok xa1
  have fb0 : ∀ p : Later wd.heap.size wd, p.val.cell? ⟨w.heap.size + 1, 0, none⟩ = some (.int .u8 (r1 : Int)) := fun p => cell_keep p.ok xb0
  have fb1 : ∀ p : Later wd.heap.size wd, p.val.cell? ⟨w.heap.size + 1, 1, none⟩ = some (.int .u32 (n1 : Int)) := fun p => cell_keep p.ok xb1
  have fp0 : ∀ p : Later wd.heap.size wd, p.val.cell? ⟨w3.heap.size, 0, none⟩ = some (.int .u8 (pr : Int)) := fun p => cell_keep p.ok xp0
  have fp1 : ∀ p : Later wd.heap.size wd, p.val.cell? ⟨w3.heap.size, 1, none⟩ = some (.int .u32 (pn : Int)) := fun p => cell_keep p.ok xp1
  have fq0 : ∀ p : Later wd.heap.size wd, p.val.cell? ⟨w4.heap.size, 0, none⟩ = some (.int .u8 (pr : Int)) := fun p => cell_keep p.ok xq0
  have fq1 : ∀ p : Later wd.heap.size wd, p.val.cell? ⟨w4.heap.size, 1, none⟩ = some (.int .u32 (pn : Int)) := fun p => cell_keep p.ok xq1
  clear xa0 xa1 xb0 xb1 xp0 xp1 xq0 xq1
  repeat (go_big_quiet_step (first | (go_at_call 12; with_reducible exact Calls.later_of (Nat.le_refl _) (h4 _)) | (go_at_call 13; with_reducible exact Calls.later_of (Nat.le_refl _) (h5 _)) | (go_at_call 14; with_reducible exact Calls.later_of (Nat.le_refl _) (h6 _)) | (go_at_call 15; with_reducible exact Calls.later_of (Nat.le_refl _) (h7 _))))
  refine wpQuiet_nil ?_
  rintro _ ⟨p, rfl⟩
  have ya0 := fa0 p
  have ya1 := fa1 p
  have yp0 := fp0 p
  have yp1 := fp1 p
  have hpo := hid p.ok
  clear fa0 fa1 fb0 fb1 fp0 fp1 fq0 fq1
  have HB := hid (hB0.out.trans (hpo.out.mono hB0.out.size))
  clear hB0 hpo
  generalize p.val = wq at ya0 ya1 yp0 yp1 HB ⊢
  go_wp2_with fail
  refine (h8 _).mono ?_
  rintro e w5 ⟨rfl, hB⟩
  replace ya0 := cell_keep hB ya0
  replace ya1 := cell_keep hB ya1
  replace yp0 := cell_keep hB yp0
  replace yp1 := cell_keep hB yp1
  replace HB := hid (HB.out.trans ((st0 hB).mono HB.out.size))
  clear hB
  have zp0 : ∀ o, (w5.alloc o).cell? ⟨w3.heap.size, 0, none⟩ = some (.int .u8 (pr : Int)) := fun o => cell_keep (below_al _ o) yp0
  have zp1 : ∀ o, (w5.alloc o).cell? ⟨w3.heap.size, 1, none⟩ = some (.int .u32 (pn : Int)) := fun o => cell_keep (below_al _ o) yp1
  go_wp2_with fail
  clear zp0 zp1
  refine (h9 _).mono ?_
  rintro e w6 ⟨rfl, hB⟩
  replace ya0 := cell_keep (st1 hB) ya0
  replace ya1 := cell_keep (st1 hB) ya1
  replace yp0 := cell_keep (st1 hB) yp0
  replace yp1 := cell_keep (st1 hB) yp1
  have yk0 : w6.cell? ⟨w5.heap.size, 0, none⟩ = some (.int .u8 (br : Int)) := cell_keep hB (by simp)
  have yk1 : w6.cell? ⟨w5.heap.size, 1, none⟩ = some (.int .u32 (bn : Int)) := cell_keep hB (by simp)
  replace HB := hid (HB.out.trans ((st1 hB).mono HB.out.size))
  clear hB
  go_wp2_with fail
  refine (law_head _).mono ?_
  rintro e w7 ⟨rfl, hB⟩
  replace HB := hid (HB.out.trans ((st0 hB).mono HB.out.size))
  clear hB
  go_wp2
  go_ret
  exact ⟨rfl, HB.out⟩

end Go.Proofs.Ytmjmgjdklhdcdaa
