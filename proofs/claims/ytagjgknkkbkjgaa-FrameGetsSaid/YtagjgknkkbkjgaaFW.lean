/-
  The law on frames that are read.
-/
import Derived.Test.YtagjgknkkbkjgaaFV
namespace Go.Proofs.Ytagjgknkkbkjgaa.V
set_option linter.unusedVariables false
set_option linter.unusedSimpArgs false
set_option maxRecDepth 100000
open Go Go.RowKit Go.Maps Wire

set_option maxHeartbeats 1000000 in
theorem law_FrameGets (b : ByteArray) (w : World) :
    Calls Try.prog 4 #[.string b] w fun e w' => e = .returned (.bool true) ∧ Below w.heap.size w w' := by
  by_cases h6 : 6000 < b.size
  · have t6 : decide ((6000 : Int) < b.size) = true := decide_eq_true (by omega)
    clear h6
    go_enter Try.func4, Try.ntmps4
    go_wp2_with (first
      | (go_at_call 7; (with_reducible refine (law_head _).mono ?_); rintro e w1 ⟨rfl, hB1⟩))
    go_ret
    exact ⟨rfl, hB1⟩
  · have t6 : decide ((6000 : Int) < b.size) = false := decide_eq_false (by omega)
    have hb : b.size ≤ 1000000 := by omega
    clear h6
    have HBS := hid hb
    have hb2 : ba b.data.toList = b := ba_of b
    have HB2e := hid hb2
    clear hb hb2
    go_enter Try.func4, Try.ntmps4
    go_upto_region 4 with (first
      | (go_at_call 12; (with_reducible refine (frame_Get b HBS.out _).mono ?_); rintro e w1 ⟨f, l, ee, rfl, hg, hv, hB1⟩; have HG1 := hid hg; have HV1 := hid hv; have HONE := hid (oneF f hv.one); have HB1 := hid hB1; clear hg hv hB1)
      | (refine wpList_store_row rfl _ _ _ rfl w1.heap.size (fc f) rfl rfl 27 (fc zeroF) ?_ (frSize _) rfl HONE.out ?_; (focus exact heap_alloc_last' _ _)))
    have HW1 := hid (show Below w.heap.size w ((w1.alloc (.cells #[.int .u8 0, .int .u8 0, .int .u8 0, .int .u32 0, .int .u32 0, .int .u32 0, .int .u32 0, .int .u32 0, .int .u32 0, .int .u32 0, .int .u32 0, .slice none 0 0] 27)).setRow w1.heap.size (fc f)) from below_next HB1.out (below_new w1 _ _ _))
    have HF1 := hid (show FrAt ((w1.alloc (.cells #[.int .u8 0, .int .u8 0, .int .u8 0, .int .u32 0, .int .u32 0, .int .u32 0, .int .u32 0, .int .u32 0, .int .u32 0, .int .u32 0, .int .u32 0, .slice none 0 0] 27)).setRow w1.heap.size (fc f)) w1.heap.size f from fr_new w1 _ f)
    have HVa := hid (show OpsV ((w1.alloc (.cells #[.int .u8 0, .int .u8 0, .int .u8 0, .int .u32 0, .int .u32 0, .int .u32 0, .int .u32 0, .int .u32 0, .int .u32 0, .int .u32 0, .int .u32 0, .slice none 0 0] 27)).setRow w1.heap.size (fc f)) f.ops l from HV1.out.keep (below_new w1 _ _ _))
    generalize ((w1.alloc (.cells #[.int .u8 0, .int .u8 0, .int .u8 0, .int .u32 0, .int .u32 0, .int .u32 0, .int .u32 0, .int .u32 0, .int .u32 0, .int .u32 0, .int .u32 0, .slice none 0 0] 27)).setRow w1.heap.size (fc f)) = W1 at HW1 HF1 HVa ⊢
    generalize w1.heap.size = g3 at HF1 ⊢
    clear HV1 HB1 HONE
    go_upto_region 5 with (first
      | (go_at_call 15; (with_reducible refine (ref_GetF b HBS.out _).mono ?_); rintro e w2 ⟨k, m, eh, rfl, hg, hv, hB2⟩; have HG2 := hid hg; have HV2 := hid hv; have HONE := hid (oneF k hv.one); have HB2 := hid hB2; clear hg hv hB2)
      | (refine wpList_store_row rfl _ _ _ rfl w2.heap.size (fc k) rfl rfl 27 (fc zeroF) ?_ (frSize _) rfl HONE.out ?_; (focus exact heap_alloc_last' _ _)))
    have hbn := below_next HB2.out (below_new w2 #[.int .u8 0, .int .u8 0, .int .u8 0, .int .u32 0, .int .u32 0, .int .u32 0, .int .u32 0, .int .u32 0, .int .u32 0, .int .u32 0, .int .u32 0, .slice none 0 0] 27 (fc k))
    have HW2 := hid (show Below w.heap.size w ((w2.alloc (.cells #[.int .u8 0, .int .u8 0, .int .u8 0, .int .u32 0, .int .u32 0, .int .u32 0, .int .u32 0, .int .u32 0, .int .u32 0, .int .u32 0, .int .u32 0, .slice none 0 0] 27)).setRow w2.heap.size (fc k)) from below_next HW1.out hbn)
    have HF2 := hid (show FrAt ((w2.alloc (.cells #[.int .u8 0, .int .u8 0, .int .u8 0, .int .u32 0, .int .u32 0, .int .u32 0, .int .u32 0, .int .u32 0, .int .u32 0, .int .u32 0, .int .u32 0, .slice none 0 0] 27)).setRow w2.heap.size (fc k)) w2.heap.size k from fr_new w2 _ k)
    have HF3 := hid (show FrAt ((w2.alloc (.cells #[.int .u8 0, .int .u8 0, .int .u8 0, .int .u32 0, .int .u32 0, .int .u32 0, .int .u32 0, .int .u32 0, .int .u32 0, .int .u32 0, .int .u32 0, .slice none 0 0] 27)).setRow w2.heap.size (fc k)) g3 f from HF1.out.keep hbn)
    have HVb := hid (show OpsV ((w2.alloc (.cells #[.int .u8 0, .int .u8 0, .int .u8 0, .int .u32 0, .int .u32 0, .int .u32 0, .int .u32 0, .int .u32 0, .int .u32 0, .int .u32 0, .int .u32 0, .slice none 0 0] 27)).setRow w2.heap.size (fc k)) f.ops l from HVa.out.keep hbn)
    have HVc := hid (show OpsV ((w2.alloc (.cells #[.int .u8 0, .int .u8 0, .int .u8 0, .int .u32 0, .int .u32 0, .int .u32 0, .int .u32 0, .int .u32 0, .int .u32 0, .int .u32 0, .int .u32 0, .slice none 0 0] 27)).setRow w2.heap.size (fc k)) k.ops m from HV2.out.keep (below_new w2 _ _ _))
    generalize ((w2.alloc (.cells #[.int .u8 0, .int .u8 0, .int .u8 0, .int .u32 0, .int .u32 0, .int .u32 0, .int .u32 0, .int .u32 0, .int .u32 0, .int .u32 0, .int .u32 0, .slice none 0 0] 27)).setRow w2.heap.size (fc k)) = W2 at HW2 HF2 HF3 HVb HVc ⊢
    generalize w2.heap.size = g5 at HF2 ⊢
    clear HF1 HVa HV2 HB2 HONE hbn HW1
    obtain ⟨hee, hsm⟩ := got_both HG1.out HG2.out HVb.out HVc.out
    subst hee
    have hsame := ref_SameF f k l m W2 HVb.out HVc.out
    rw [hsm] at hsame
    clear hsm HG2
    go_upto_region 7 with (first
      | (refine load_fr _ rfl (by kernel_rfl) g3 rfl _ HF3.out ?_)
      | (refine load_fr _ rfl (by kernel_rfl) g5 rfl _ HF2.out ?_)
      | (go_at_call 13; (with_reducible refine hsame.mono ?_); rintro e w3 ⟨rfl, hB3⟩; have HB3 := hid hB3; have HFd := hid (HF3.out.keep hB3); have HVd := hid (HVb.out.keep hB3); clear hB3 hsame))
    have HBB := hid (below_next HW2.out HB3.out)
    clear HF2 HF3 HVb HVc HB3 HW2
    rcases HG1.out with ⟨he, hbs, hok, hm⟩ | ⟨he, _, _, _⟩
    · have HE0 := hid he
      have hput := frame_Put f hok l _ HVd.out
      rw [show putF f l = (b.data.toList, 0) from by unfold putF; rw [hm, if_pos rfl, ← hbs]] at hput
      dsimp only at hput
      rw [HB2e.out] at hput
      have heq : (b.toList == b.toList) = true := eq_lists b
      rw [he]
      clear he hbs hok hm
      go_wp2_with (first
        | (refine load_fr _ rfl (by kernel_rfl) g3 rfl _ HFd.out ?_)
        | (go_at_call 8; (with_reducible refine hput.mono ?_); rintro e w4 ⟨rfl, hB4⟩; have HB4 := hid hB4; clear hB4 hput)
        | (go_at_call 7; (with_reducible refine (law_head _).mono ?_); rintro e w5 ⟨rfl, hB5⟩; have HB5 := hid (below_next HB4.out hB5); clear hB5))
      go_ret
      exact ⟨rfl, below_next HBB.out HB5.out⟩
    · rw [he]
      clear he
      go_wp2_with (first
        | (go_at_call 7; (with_reducible refine (law_head _).mono ?_); rintro e w5 ⟨rfl, hB5⟩; have HB5 := hid hB5; clear hB5))
      go_ret
      exact ⟨rfl, below_next HBB.out HB5.out⟩
end Go.Proofs.Ytagjgknkkbkjgaa.V
