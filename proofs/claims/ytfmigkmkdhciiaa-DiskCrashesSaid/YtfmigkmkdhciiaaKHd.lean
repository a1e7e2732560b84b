/-
  Disks: steps that the document fixes.
-/
import Derived.Test.YtfmigkmkdhciiaaKSy
namespace Go.Proofs.Ytfmigkmkdhciiaa.K
set_option linter.unusedVariables false
set_option linter.unusedSimpArgs false
set_option maxRecDepth 100000
open Go Go.RowKit Go.Maps Go.MapKept Go.ChangeMaps

namespace H
def s0 : St := new 10
def s1 : St := (s0.append [97] [120, 121, 122]).1
def s2 : St := s1.sync.1
def s3 : St := (s2.append [97] [117, 118]).1
def s4 : St := (s3.rename [97] [98]).1
def s5 : St := (s4.crash 1).1
def o1 : St := (s5.fuse 2).1
def o2 : St := (o1.append [97] [112, 113, 114]).1
def o3 : St := o2.sync.1
def o4 : St := (o3.crash 1).1
def s6 : St := (s5.append [99] [49, 50, 51, 52, 53, 54, 55]).1
def s7 : St := (s6.append [99] [49, 50, 51, 52, 53, 54]).1
def s8 : St := (s7.remove [100]).1
end H
theorem blim {a b : Nat} (h : Nat.ble a b = true) : a ≤ b := Nat.le_of_ble_eq_true h
section
variable {w0 w : World} {p q : Nat} {l : List (Nat × St)} {bs : List (Nat × Obj)}
theorem h_a1 (h : Sys w0 w ((p, H.s0) :: l) bs) : Calls Try.prog 14 #[.pointer (some ⟨p, 0, none⟩), strV [97], strV [120, 121, 122]] w fun e w' => e = .returned (.int .i64 0) ∧ Sys w0 w' ((p, H.s1) :: l) bs := by
  refine (sys_Append h [97] [120, 121, 122] (blim (by kernel_rfl)) (blim (by kernel_rfl)) (blim (by kernel_rfl)) (blim (by kernel_rfl))).mono ?_
  rintro e w' ⟨rfl, hS⟩
  exact ⟨by rfl, hS⟩
theorem h_sy (h : Sys w0 w ((p, H.s1) :: l) bs) : Calls Try.prog 17 #[.pointer (some ⟨p, 0, none⟩)] w fun e w' => e = .returned (.int .i64 0) ∧ Sys w0 w' ((p, H.s2) :: l) bs := by
  refine (sys_Sync h (blim (by kernel_rfl))).mono ?_
  rintro e w' ⟨rfl, hS⟩
  exact ⟨by rfl, hS⟩
theorem h_a2 (h : Sys w0 w ((p, H.s2) :: l) bs) : Calls Try.prog 14 #[.pointer (some ⟨p, 0, none⟩), strV [97], strV [117, 118]] w fun e w' => e = .returned (.int .i64 0) ∧ Sys w0 w' ((p, H.s3) :: l) bs := by
  refine (sys_Append h [97] [117, 118] (blim (by kernel_rfl)) (blim (by kernel_rfl)) (blim (by kernel_rfl)) (blim (by kernel_rfl))).mono ?_
  rintro e w' ⟨rfl, hS⟩
  exact ⟨by rfl, hS⟩
theorem h_rn (h : Sys w0 w ((p, H.s3) :: l) bs) : Calls Try.prog 16 #[.pointer (some ⟨p, 0, none⟩), strV [97], strV [98]] w fun e w' => e = .returned (.int .i64 0) ∧ Sys w0 w' ((p, H.s4) :: l) bs := by
  refine (sys_Rename h [97] [98] (blim (by kernel_rfl)) (blim (by kernel_rfl)) (blim (by kernel_rfl)) (blim (by kernel_rfl))).mono ?_
  rintro e w' ⟨rfl, hS⟩
  exact ⟨by rfl, hS⟩
theorem h_cr (h : Sys w0 w ((p, H.s4) :: l) bs) : Calls Try.prog 9 #[.pointer (some ⟨p, 0, none⟩), .int .i64 1] w fun e w' => e = .returned (.int .i64 0) ∧ Sys w0 w' ((p, H.s5) :: l) bs := by
  refine (sys_Crash h 1 (by decide) (by decide) (blim (by kernel_rfl)) (blim (by kernel_rfl))).mono ?_
  rintro e w' ⟨rfl, hS⟩
  exact ⟨by rfl, hS⟩
theorem h_fu (h : Sys w0 w ((p, H.s5) :: l) bs) : Calls Try.prog 18 #[.pointer (some ⟨p, 0, none⟩), .int .i64 2] w fun e w' => e = .returned (.int .i64 0) ∧ Sys w0 w' ((p, H.o1) :: l) bs := by
  refine (sys_Fuse h 2 (by decide) (by decide)).mono ?_
  rintro e w' ⟨rfl, hS⟩
  exact ⟨by rfl, hS⟩
theorem h_a3 (h : Sys w0 w ((p, H.o1) :: l) bs) : Calls Try.prog 14 #[.pointer (some ⟨p, 0, none⟩), strV [97], strV [112, 113, 114]] w fun e w' => e = .returned (.int .i64 70) ∧ Sys w0 w' ((p, H.o2) :: l) bs := by
  refine (sys_Append h [97] [112, 113, 114] (blim (by kernel_rfl)) (blim (by kernel_rfl)) (blim (by kernel_rfl)) (blim (by kernel_rfl))).mono ?_
  rintro e w' ⟨rfl, hS⟩
  exact ⟨by rfl, hS⟩
theorem h_sy2 (h : Sys w0 w ((p, H.o2) :: l) bs) : Calls Try.prog 17 #[.pointer (some ⟨p, 0, none⟩)] w fun e w' => e = .returned (.int .i64 70) ∧ Sys w0 w' ((p, H.o3) :: l) bs := by
  refine (sys_Sync h (blim (by kernel_rfl))).mono ?_
  rintro e w' ⟨rfl, hS⟩
  exact ⟨by rfl, hS⟩
theorem h_cr2 (h : Sys w0 w ((p, H.o3) :: l) bs) : Calls Try.prog 9 #[.pointer (some ⟨p, 0, none⟩), .int .i64 1] w fun e w' => e = .returned (.int .i64 0) ∧ Sys w0 w' ((p, H.o4) :: l) bs := by
  refine (sys_Crash h 1 (by decide) (by decide) (blim (by kernel_rfl)) (blim (by kernel_rfl))).mono ?_
  rintro e w' ⟨rfl, hS⟩
  exact ⟨by rfl, hS⟩
theorem h_a4 (h : Sys w0 w ((p, H.s5) :: l) bs) : Calls Try.prog 14 #[.pointer (some ⟨p, 0, none⟩), strV [99], strV [49, 50, 51, 52, 53, 54, 55]] w fun e w' => e = .returned (.int .i64 6) ∧ Sys w0 w' ((p, H.s6) :: l) bs := by
  refine (sys_Append h [99] [49, 50, 51, 52, 53, 54, 55] (blim (by kernel_rfl)) (blim (by kernel_rfl)) (blim (by kernel_rfl)) (blim (by kernel_rfl))).mono ?_
  rintro e w' ⟨rfl, hS⟩
  exact ⟨by rfl, hS⟩
theorem h_a5 (h : Sys w0 w ((p, H.s6) :: l) bs) : Calls Try.prog 14 #[.pointer (some ⟨p, 0, none⟩), strV [99], strV [49, 50, 51, 52, 53, 54]] w fun e w' => e = .returned (.int .i64 0) ∧ Sys w0 w' ((p, H.s7) :: l) bs := by
  refine (sys_Append h [99] [49, 50, 51, 52, 53, 54] (blim (by kernel_rfl)) (blim (by kernel_rfl)) (blim (by kernel_rfl)) (blim (by kernel_rfl))).mono ?_
  rintro e w' ⟨rfl, hS⟩
  exact ⟨by rfl, hS⟩
theorem h_rm (h : Sys w0 w ((p, H.s7) :: l) bs) : Calls Try.prog 15 #[.pointer (some ⟨p, 0, none⟩), strV [100]] w fun e w' => e = .returned (.int .i64 7) ∧ Sys w0 w' ((p, H.s8) :: l) bs := by
  refine (sys_Remove h [100] (blim (by kernel_rfl)) (blim (by kernel_rfl)) (blim (by kernel_rfl))).mono ?_
  rintro e w' ⟨rfl, hS⟩
  exact ⟨by rfl, hS⟩
theorem h_r1 (h : Sys w0 w ((p, H.s5) :: l) bs) : Calls Try.prog 13 #[.pointer (some ⟨p, 0, none⟩), strV [97]] w fun e w' => e = .returned (.tuple #[strV [120, 121, 122, 117], .int .i64 0]) ∧ w = w' := sys_Read h [97] (blim (by kernel_rfl)) (blim (by kernel_rfl))
theorem h_r2 (h : Sys w0 w ((p, H.o3) :: l) bs) : Calls Try.prog 13 #[.pointer (some ⟨p, 0, none⟩), strV [97]] w fun e w' => e = .returned (.tuple #[strV [120, 121, 122, 117, 112, 113], .int .i64 0]) ∧ w = w' := sys_Read h [97] (blim (by kernel_rfl)) (blim (by kernel_rfl))
theorem h_r3 (h : Sys w0 w ((p, H.o4) :: l) bs) : Calls Try.prog 13 #[.pointer (some ⟨p, 0, none⟩), strV [97]] w fun e w' => e = .returned (.tuple #[strV [120, 121, 122, 117, 112], .int .i64 0]) ∧ w = w' := sys_Read h [97] (blim (by kernel_rfl)) (blim (by kernel_rfl))
theorem h_u1 (h : Sys w0 w ((p, H.s1) :: l) bs) : Calls Try.prog 11 #[.pointer (some ⟨p, 0, none⟩)] w fun e w' => e = .returned (.int .i64 4) ∧ w = w' := sys_Units h
theorem h_u2 (h : Sys w0 w ((p, H.s4) :: l) bs) : Calls Try.prog 11 #[.pointer (some ⟨p, 0, none⟩)] w fun e w' => e = .returned (.int .i64 3) ∧ w = w' := sys_Units h
theorem h_d1 (h : Sys w0 w ((p, H.o3) :: l) bs) : Calls Try.prog 19 #[.pointer (some ⟨p, 0, none⟩)] w fun e w' => e = .returned (.bool true) ∧ w = w' := sys_Down h
theorem h_d2 (h : Sys w0 w ((p, H.o4) :: l) bs) : Calls Try.prog 19 #[.pointer (some ⟨p, 0, none⟩)] w fun e w' => e = .returned (.bool false) ∧ w = w' := sys_Down h
theorem h_us (h : Sys w0 w ((p, H.s8) :: l) bs) : Calls Try.prog 21 #[.pointer (some ⟨p, 0, none⟩)] w fun e w' => e = .returned (.int .i64 10) ∧ Sys w0 w' ((p, H.s8) :: l) bs := by
  refine (sys_Used h (blim (by kernel_rfl))).mono ?_
  rintro e w' ⟨rfl, hB⟩
  exact ⟨by rfl, h.below hB⟩
theorem h_li (h : Sys w0 w ((p, H.s5) :: l) bs) : Calls Try.prog 20 #[.pointer (some ⟨p, 0, none⟩)] w fun e w' => ∃ g cap cs ty fr, e = .returned (.slice (some ⟨g, 0, none⟩) 1 cap) ∧ cs[0]? = some (strV [97]) ∧ Sys w0 w' ((p, H.s5) :: l) ((g, .cells cs ty fr) :: bs) := by
  refine (sys_List h (blim (by kernel_rfl))).mono ?_
  rintro e w' ⟨⟨v, rfl, hv, hnv⟩, hB⟩
  have hn : names H.s5.seen = [[97]] := by kernel_rfl
  rw [hn] at hv
  rcases hv with ⟨_, h0⟩ | ⟨g, cap, rfl, _, hc⟩
  · cases h0
  · obtain ⟨cs, ty, fr, ho, h0⟩ := obj_of_cell (hc 0 _ rfl)
    exact ⟨g, cap, cs, ty, fr, rfl, h0, h.box hB (hnv g _ cap rfl) ho⟩
theorem h_cp (h : Sys w0 w ((p, H.s5) :: l) bs) : Calls Try.prog 10 #[.pointer (some ⟨p, 0, none⟩)] w fun e w' => ∃ q, e = .returned (.pointer (some ⟨q, 0, none⟩)) ∧ Sys w0 w' ((q, H.s5) :: (p, H.s5) :: l) bs := sys_Copy h (blim (by kernel_rfl)) (blim (by kernel_rfl))
theorem h_nw (h : Sys w0 w l bs) : Calls Try.prog 5 #[.int .i64 10] w fun e w' => ∃ q, e = .returned (.tuple #[.pointer (some ⟨q, 0, none⟩), .int .i64 0]) ∧ Sys w0 w' ((q, H.s0) :: l) bs := sys_New h 10 (by decide)
end
end Go.Proofs.Ytfmigkmkdhciiaa.K
