/-
  Disks: steps that the document fixes, walked.
-/
import Derived.Test.YtfmigkmkdhciiaaKHd
namespace Go.Proofs.Ytfmigkmkdhciiaa.K
set_option linter.unusedVariables false
set_option linter.unusedSimpArgs false
set_option maxRecDepth 100000
open Go Go.RowKit Go.Maps Go.MapKept Go.ChangeMaps
attribute [local irreducible] H.s0 H.s1 H.s2 H.s3 H.s4 H.s5 H.s6 H.s7 H.s8 H.o1 H.o2 H.o3 H.o4

theorem swap_sys {w0 w : World} {x y : Nat × St} {l : List (Nat × St)} {bs : List (Nat × Obj)} (h : Sys w0 w (x :: y :: l) bs) : Sys w0 w (y :: x :: l) bs := h.perm (List.Perm.swap _ _ _) (fun _ h => h)
theorem low_sys {w0 w : World} {l : List (Nat × St)} {bs : List (Nat × Obj)} (h : Sys w0 w l bs) : Below w0.heap.size w0 w := by
  obtain ⟨A, h⟩ := h
  exact h.below
set_option maxHeartbeats 4000000 in
theorem law_head (w : World) : Calls Try.prog 7 #[] w fun e w' => e = .returned (.bool true) ∧ Below w.heap.size w w' := by
  have hS := Sys.start w
  go_enter Try.func7, Try.ntmps7
  go_wp2_with (first
    | (go_at_call 5; refine (h_nw hS).mono ?_; clear hS; rintro e w' ⟨p, rfl, hS0⟩)
    | (go_at_call 14; refine (h_a1 hS0).mono ?_; clear hS0; rintro e w' ⟨rfl, hS1⟩)
    | (go_at_call 11; refine (h_u1 hS1).mono ?_; skip; rintro e w' ⟨rfl, rfl⟩)
    | (go_at_call 17; refine (h_sy hS1).mono ?_; clear hS1; rintro e w' ⟨rfl, hS2⟩)
    | (go_at_call 14; refine (h_a2 hS2).mono ?_; clear hS2; rintro e w' ⟨rfl, hS3⟩)
    | (go_at_call 16; refine (h_rn hS3).mono ?_; clear hS3; rintro e w' ⟨rfl, hS4⟩)
    | (go_at_call 11; refine (h_u2 hS4).mono ?_; skip; rintro e w' ⟨rfl, rfl⟩)
    | (go_at_call 9; refine (h_cr hS4).mono ?_; clear hS4; rintro e w' ⟨rfl, hS5⟩)
    | (go_at_call 20; refine (h_li hS5).mono ?_; clear hS5; rintro e w' ⟨g, cap, cs, ty, fr, rfl, hcs, hS6⟩)
    | (go_at_call 13; refine (h_r1 hS6).mono ?_; skip; rintro e w' ⟨rfl, rfl⟩)
    | (go_at_call 10; refine (h_cp hS6).mono ?_; clear hS6; rintro e w' ⟨q, rfl, hS7⟩)
    | (go_at_call 18; refine (h_fu hS7).mono ?_; clear hS7; rintro e w' ⟨rfl, hS8⟩)
    | (go_at_call 14; refine (h_a3 hS8).mono ?_; clear hS8; rintro e w' ⟨rfl, hS9⟩)
    | (go_at_call 17; refine (h_sy2 hS9).mono ?_; clear hS9; rintro e w' ⟨rfl, hS10⟩)
    | (go_at_call 19; refine (h_d1 hS10).mono ?_; skip; rintro e w' ⟨rfl, rfl⟩)
    | (go_at_call 13; refine (h_r2 hS10).mono ?_; skip; rintro e w' ⟨rfl, rfl⟩)
    | (go_at_call 9; refine (h_cr2 hS10).mono ?_; clear hS10; rintro e w' ⟨rfl, hS11⟩)
    | (go_at_call 13; refine (h_r3 hS11).mono ?_; skip; rintro e w' ⟨rfl, rfl⟩)
    | (go_at_call 14; refine (h_a4 (swap_sys hS11)).mono ?_; clear hS11; rintro e w' ⟨rfl, hS12⟩)
    | (go_at_call 14; refine (h_a5 hS12).mono ?_; clear hS12; rintro e w' ⟨rfl, hS13⟩)
    | (go_at_call 15; refine (h_rm hS13).mono ?_; clear hS13; rintro e w' ⟨rfl, hS14⟩; have hcell := (cell_row hS14.at 0).trans hcs)
    | (go_at_call 21; refine (h_us hS14).mono ?_; clear hS14; rintro e w' ⟨rfl, hS15⟩)
    | (go_at_call 19; refine (h_d2 (swap_sys hS15)).mono ?_; skip; rintro e w' ⟨rfl, rfl⟩))
  go_ret
  exact ⟨rfl, low_sys hS15⟩
end Go.Proofs.Ytfmigkmkdhciiaa.K
