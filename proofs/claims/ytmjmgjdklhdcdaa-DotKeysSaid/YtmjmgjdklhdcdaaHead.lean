/-
  The laws' head: calls whose answers the document fixes.
-/
import Derived.Test.YtmjmgjdklhdcdaaHeadA
namespace Go.Proofs.Ytmjmgjdklhdcdaa
set_option linter.unusedVariables false
set_option linter.unusedSimpArgs false
open Go Go.RowKit Go.Maps
attribute [local go_sem ↓] Go.wp_at_zero Go.wp_at_succ

set_option maxHeartbeats 8000000 in
set_option maxRecDepth 100000 in
theorem law_head (w : World) : Calls Try.prog 16 #[] w fun e w' => e = .returned (.bool true) ∧ Below w.heap.size w w' := by
  have heq := eq35
  go_enter Try.func16, Try.ntmps16
  go_wp2_with (go_at_call 32; refine (made_d _ _ _).mono ?_; rintro e w' ⟨rfl, rfl⟩)
  refine (key35 _).mono ?_
  rintro e w1 ⟨rfl, hB⟩
  have HB1 := hid (st1 hB)
  clear hB
  go_wp2_with (go_at_call 32; refine (made_d _ _ _).mono ?_; rintro e w' ⟨rfl, rfl⟩)
  refine (of43 _).mono ?_
  rintro e w2 ⟨rfl, hB⟩
  have HB2 := hid (HB1.out.trans (hB.mono HB1.out.size))
  clear hB HB1
  go_wp2_with (go_at_call 32; refine (made_d _ _ _).mono ?_; rintro e w' ⟨rfl, rfl⟩)
  refine (of7 _).mono ?_
  rintro e w3 ⟨rfl, hB⟩
  have c30 : w3.cell? ⟨w2.heap.size, 0, none⟩ = some (.int .u8 3) := cell_keep hB (by simp)
  have c31 : w3.cell? ⟨w2.heap.size, 1, none⟩ = some (.int .u32 5) := cell_keep hB (by simp)
  have HB3 := hid (HB2.out.trans ((st1 hB).mono HB2.out.size))
  clear hB HB2
  go_wp2_with (go_at_call 32; refine (made_d _ _ _).mono ?_; rintro e w' ⟨rfl, rfl⟩)
  refine (key81 _).mono ?_
  rintro e w4 ⟨rfl, hB⟩
  have c40 := cell_keep (st2 hB) c30
  have c41 := cell_keep (st2 hB) c31
  have HB4 := hid (HB3.out.trans ((st2 hB).mono HB3.out.size))
  clear hB HB3 c30 c31
  go_wp2_with (go_at_call 32; refine (made_d _ _ _).mono ?_; rintro e w' ⟨rfl, rfl⟩)
  refine (key10 _).mono ?_
  rintro e w5 ⟨rfl, hB⟩
  have c50 := cell_keep (st1 hB) c40
  have c51 := cell_keep (st1 hB) c41
  have HB5 := hid (HB4.out.trans ((st1 hB).mono HB4.out.size))
  clear hB HB4 c40 c41
  go_wp2_with (go_at_call 32; refine (made_d _ _ _).mono ?_; rintro e w' ⟨rfl, rfl⟩)
  refine (range135 _).mono ?_
  rintro e w6 ⟨v, rfl, hv, hB⟩
  have c60 := cell_keep hB c50
  have c61 := cell_keep hB c51
  have HB6 := hid (HB5.out.trans ((st0 hB).mono HB5.out.size))
  have HV6 := hid hv
  clear hB HB5 c50 c51 hv
  go_wp2_with fail
  have HS6 : HeadS w6 v w6 := ⟨HV6.out, Below.refl _ _⟩
  clear HV6
  have HB6' := hid HB6.out
  clear HB6
  dsimp only [List.append]
  go_region_held3 (fun w' => w'.cell? ⟨w2.heap.size, 0, none⟩ = some (.int .u8 3) ∧ w'.cell? ⟨w2.heap.size, 1, none⟩ = some (.int .u32 5) ∧ HeadS w6 v w')
    ((go_split_ands; first
      | exact ⟨by assumption, by assumption, by assumption⟩
      | exact ⟨cell_keep (by assumption) (by assumption), cell_keep (by assumption) (by assumption), HeadS.keep (by assumption) (by assumption)⟩
      | exact ⟨cell_keep (below_al _ _) (by assumption), cell_keep (below_al _ _) (by assumption), HeadS.keep (by assumption) (below_al _ _)⟩
      | exact ⟨cell_keep (below_dr _) (by assumption), cell_keep (below_dr _) (by assumption), HeadS.keep (by assumption) (below_dr _)⟩))
    (first
      | (go_at_call 32; refine (made_d _ _ _).mono ?_; rintro e w' ⟨rfl, rfl⟩)
      | (go_at_call 14; ((with_reducible refine (cmp1 _).mono ?_); rintro e w7 ⟨rfl, hB⟩))
      | (go_at_call 14; ((with_reducible refine (cmp2 _).mono ?_); rintro e w8 ⟨rfl, hB⟩))
      | (go_at_call 20; ((with_reducible refine (sort3 _ _ ?_).mono ?_); (focus (repeat' (first | with_reducible assumption | ((with_reducible refine new_dotsG _ _ rows3 _ 3 ?_ ?_ ?_ (okd ?_) ?_); (focus (simp; done)); (focus rfl); (focus rfl); (focus decide); (focus decide)) | with_reducible refine DotsV.al ?_ _ | with_reducible refine DotsV.dr ?_))); rintro e w10 ⟨u, rfl, hu, hB⟩))
      | (go_at_call 26; ((with_reducible refine (minus2 _ _ _ ?_ ?_).mono ?_); (focus (repeat' (first | with_reducible assumption | ((with_reducible refine new_dotsG _ _ rows2 _ 2 ?_ ?_ ?_ (okd ?_) ?_); (focus (simp; done)); (focus rfl); (focus rfl); (focus decide); (focus decide)) | with_reducible refine DotsV.al ?_ _ | with_reducible refine DotsV.dr ?_))); (focus (repeat' (first | with_reducible assumption | ((with_reducible refine new_dotsG _ _ rows1 _ 1 ?_ ?_ ?_ (okd ?_) ?_); (focus (simp; done)); (focus rfl); (focus rfl); (focus decide); (focus decide)) | with_reducible refine DotsV.al ?_ _ | with_reducible refine DotsV.dr ?_))); rintro e w11 ⟨u', rfl, hu', hB⟩))
      | (go_at_call 19; ((with_reducible refine (same_true _ _ rg135 _ (HeadS.v (w6 := w6) (And.right (And.right (by assumption)))) ?_).mono ?_); (focus (repeat' (first | with_reducible assumption | ((with_reducible refine new_dotsG _ _ rg135 _ 3 ?_ ?_ ?_ (okd ?_) ?_); (focus (simp; done)); (focus rfl); (focus rfl); (focus decide); (focus decide)) | with_reducible refine DotsV.al ?_ _ | with_reducible refine DotsV.dr ?_))); rintro e w9 ⟨rfl, hB⟩))
      | (go_at_call 19; ((with_reducible refine (same_true _ _ rows3s _ ?_ ?_).mono ?_); (focus (repeat' (first | with_reducible assumption | ((with_reducible refine new_dotsG _ _ rows3s _ 2 ?_ ?_ ?_ (okd ?_) ?_); (focus (simp; done)); (focus rfl); (focus rfl); (focus decide); (focus decide)) | with_reducible refine DotsV.al ?_ _ | with_reducible refine DotsV.dr ?_))); (focus (repeat' (first | with_reducible assumption | ((with_reducible refine new_dotsG _ _ rows3s _ 2 ?_ ?_ ?_ (okd ?_) ?_); (focus (simp; done)); (focus rfl); (focus rfl); (focus decide); (focus decide)) | with_reducible refine DotsV.al ?_ _ | with_reducible refine DotsV.dr ?_))); rintro e w12 ⟨rfl, hB⟩))
      | (go_at_call 19; ((with_reducible refine (same_true _ _ rows0 _ ?_ ?_).mono ?_); (focus (repeat' (first | with_reducible assumption | ((with_reducible refine new_dotsG _ _ rows0 _ 1 ?_ ?_ ?_ (okd ?_) ?_); (focus (simp; done)); (focus rfl); (focus rfl); (focus decide); (focus decide)) | with_reducible refine DotsV.al ?_ _ | with_reducible refine DotsV.dr ?_))); (focus (repeat' (first | with_reducible assumption | ((with_reducible refine new_dotsG _ _ rows0 _ 1 ?_ ?_ ?_ (okd ?_) ?_); (focus (simp; done)); (focus rfl); (focus rfl); (focus decide); (focus decide)) | with_reducible refine DotsV.al ?_ _ | with_reducible refine DotsV.dr ?_))); rintro e w13 ⟨rfl, hB⟩)))
  all_goals (
    obtain ⟨_, _, hs⟩ := ‹_ ∧ _ ∧ HeadS w6 v _›
    have hend := HB6'.out.trans (hs.below.mono HB6'.out.size)
    go_wp2
    go_ret
    exact ⟨rfl, hend⟩)

end Go.Proofs.Ytmjmgjdklhdcdaa
