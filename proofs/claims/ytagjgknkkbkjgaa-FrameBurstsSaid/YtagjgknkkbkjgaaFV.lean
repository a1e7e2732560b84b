/-
  What Get gives of a frame's bytes; the law on frames that are put.
-/
import Derived.Test.YtagjgknkkbkjgaaJT
namespace Go.Proofs.Ytagjgknkkbkjgaa.V
set_option linter.unusedVariables false
set_option linter.unusedSimpArgs false
set_option maxRecDepth 100000
open Go Go.RowKit Go.Maps Wire

theorem str_neq_self (s : ByteArray) {x y : Operand} (w : World) : (do eqGuard .neq 9 x y (.string s) (.string s); binOp .neq 9 (.string s) (.string s) : Sem Value).run Try.prog w = .ok (.bool false) w := by go_simp
theorem sameFr_zero : sameFr zeroF zeroF [] [] = true := by decide
/-- Two readings of the same bytes. -/
theorem got_both {bs : List UInt8} {f g : FrM} {l m : List OC} {e h : Int} {w : World} (h1 : GetR bs f l e) (h2 : GetR bs g m h) (hl : OpsV w f.ops l) (hm : OpsV w g.ops m) : e = h ∧ sameFr f g l m = true := by
  rcases h1 with ⟨rfl, b1, k1, m1⟩ | ⟨rfl, rfl, rfl, n1⟩
  · rcases h2 with ⟨rfl, b2, k2, m2⟩ | ⟨rfl, rfl, rfl, n2⟩
    · exact ⟨rfl, by rw [same_frame k1 k2 (fine_of hl m1) (fine_of hm m2) m1 m2]; exact decide_eq_true (sealed_inj (b1.symm.trans b2))⟩
    · exact absurd b1 (n2 f l k1 (fine_of hl m1) m1)
  · rcases h2 with ⟨rfl, b2, k2, m2⟩ | ⟨rfl, rfl, rfl, n2⟩
    · exact absurd b2 (n1 g m k2 (fine_of hm m2) m2)
    · exact ⟨rfl, sameFr_zero⟩
theorem got_same {f g : FrM} {l m : List OC} {e : Int} {w w' : World} (h : GetR (Crc.sealed (encF f l)) g m e) (hok : okF f) (hv : OpsV w f.ops l) (hm : mayF f l = true) (hv' : OpsV w' g.ops m) : e = 0 ∧ sameFr g f m l = true := by
  rcases h with ⟨rfl, b2, k2, m2⟩ | ⟨rfl, rfl, rfl, n2⟩
  · exact ⟨rfl, by rw [same_frame k2 hok (fine_of hv' m2) (fine_of hv hm) m2 hm]; exact decide_eq_true (sealed_inj b2.symm)⟩
  · exact absurd rfl (n2 f l hok (fine_of hv hm) hm)
theorem oneFz : ∀ v ∈ (fc zeroF).toList, True := fun _ _ => trivial
/-- A frame's block that is made and filled. -/
theorem below_new (w : World) (cs : Array Value) (t : TypeId) (ds : Array Value) : Below w.heap.size w ((w.alloc (.cells cs t)).setRow w.heap.size ds) := below_row (below_al w _) (Nat.le_refl _) _
theorem fr_new (w : World) (cs : Array Value) (f : FrM) : FrAt ((w.alloc (.cells cs 27)).setRow w.heap.size (fc f)) w.heap.size f := setRow_heap _ _ _ _ _ _ (heap_alloc_last' _ _)

set_option maxHeartbeats 1000000 in
theorem law_FramePuts (f : FrM) (hok : okF f) (l : List OC) (w : World) (hv : OpsV w f.ops l) :
    Calls Try.prog 3 #[.agg (fc f)] w fun e w' => e = .returned (.bool true) ∧ Below w.heap.size w w' := by
  have HE := hid (below_al w (.cells (fc f) 27))
  have HF0 := hid (frAt_new w f)
  have HV0 := hid (hv.keep HE.out)
  have HOK := hid hok
  clear hv hok
  go_enter Try.func3, Try.ntmps3
  go_upto_region 3 with (first
    | (refine load_fr _ rfl (by kernel_rfl) w.heap.size rfl _ HF0.out ?_)
    | (go_at_call 6; (with_reducible refine (law_great f l _ HV0.out).mono ?_); rintro e w1 ⟨⟨gb, rfl⟩, hB1⟩; have HB1 := hid (below_next HE.out hB1); have HF1 := hid (HF0.out.keep hB1); have HV1 := hid (HV0.out.keep hB1); clear hB1)
    | (go_at_call 7; (with_reducible refine (law_head _).mono ?_); rintro e w2 ⟨rfl, hB2⟩; have HB2 := hid (below_next HB1.out hB2); clear hB2))
  · go_ret
    exact ⟨rfl, HB2.out⟩
  clear HF0 HV0 HE
  obtain ⟨ps, pe, hput⟩ : ∃ a b, putF f l = (a, b) := ⟨_, _, rfl⟩
  have HPUT := hid hput
  have hp1 := frame_Put f HOK.out l _ HV1.out
  rw [hput] at hp1
  have hp2 : ∀ W, Below w1.heap.size w1 W → Calls Try.prog 9 #[.agg (fc f)] W fun e w' => e = .returned (.tuple #[.string (ba ps), .int .i64 pe]) ∧ Below W.heap.size W w' := fun W hB => by
    have := ref_PutF f HOK.out l W (HV1.out.keep hB)
    rw [hput] at this
    exact this
  clear hput
  go_upto_region 5 with (first
    | (refine load_fr _ rfl (by kernel_rfl) w.heap.size rfl _ HF1.out ?_)
    | (refine load_fr _ rfl (by kernel_rfl) w.heap.size rfl _ HF3.out ?_)
    | (go_at_call 8; (with_reducible refine hp1.mono ?_); rintro e w3 ⟨rfl, hB3⟩; have HB3 := hid hB3; have HF3 := hid (HF1.out.keep hB3); clear hB3 hp1)
    | (go_at_call 9; (with_reducible refine (hp2 _ HB3.out).mono ?_); rintro e w4 ⟨rfl, hB4⟩; have HB4 := hid (below_next HB3.out hB4); have HF4 := hid (HF3.out.keep hB4); have HV4 := hid (HV1.out.keep HB4.out); clear hB4 hp2))
  try dsimp only
  refine wp_flow (fun _ => none) (Fa.eq (.string (ba ps)) :: Fa.eq (.string (ba ps)) :: Fa.eq (.bool (false)) :: Fa.eq (.bool (false)) :: Fa.eq (gd (!(false)) (.int .i64 (pe))) :: Fa.eq (gd (!(false)) (.int .i64 (pe))) :: Fa.eq (gd (!(false)) (.bool (pe != pe))) :: Fa.eq (.bool ((false) || (pe != pe))) :: Fa.eq (.bool ((false) || (pe != pe))) :: Fa.eq (gd (!((false) || (pe != pe))) (.agg (fc f))) :: Fa.eq (gd (!((false) || (pe != pe))) (.bool (mayF f l))) :: Fa.eq (gd (!((false) || (pe != pe))) (.agg (fc f))) :: Fa.eq (gd (!((false) || (pe != pe))) (.bool (mayF f l))) :: Fa.eq (gd (!((false) || (pe != pe))) (.bool ((mayF f l) != (mayF f l)))) :: Fa.eq (.bool (((false) || (pe != pe)) || ((mayF f l) != (mayF f l)))) :: []) 60 (by kernel_rfl) rfl (by kernel_rfl) rfl (by kernel_rfl) ?_ ?_ ?_
  · exact fits_plain _ _ rfl
  · refine ⟨?_, ?_, ?_, ?_, ?_, ?_, ?_, ?_, ?_, ?_, ?_, ?_, ?_, ?_, ?_, trivial⟩
    · exact v_move (.inl rfl) rfl (by kernel_rfl) True.intro (Ev.out (by kernel_rfl) rfl)
    · exact v_move (.inl rfl) rfl (by kernel_rfl) True.intro (Ev.out (by kernel_rfl) rfl)
    · exact v_bin (u := .string (ba ps)) (v := .string (ba ps)) (c := .bool (false)) rfl (fun w => (str_neq_self _ w)) rfl (by kernel_rfl) True.intro (Ev.at (i := 0) (by kernel_rfl) (by kernel_rfl) rfl) (Ev.at (i := 1) (by kernel_rfl) (by kernel_rfl) rfl)
    · exact v_move (.inl rfl) rfl (by kernel_rfl) True.intro (Ev.at (i := 2) (by kernel_rfl) (by kernel_rfl) rfl)
    · exact flow_gd (!(false)) (.int .i64 (pe)) 3 false (.bool (false)) rfl (by kernel_rfl) rfl gu_f rfl (fun hg hF hj => v_move (.inl rfl) hF (by kernel_rfl) (guard_of rfl (by kernel_rfl) (by kernel_rfl) hj) (Ev.out (by kernel_rfl) rfl))
    · exact flow_gd (!(false)) (.int .i64 (pe)) 3 false (.bool (false)) rfl (by kernel_rfl) rfl gu_f rfl (fun hg hF hj => v_move (.inl rfl) hF (by kernel_rfl) (guard_of rfl (by kernel_rfl) (by kernel_rfl) hj) (Ev.out (by kernel_rfl) rfl))
    · exact flow_gd (!(false)) (.bool (pe != pe)) 3 false (.bool (false)) rfl (by kernel_rfl) rfl gu_f rfl (fun hg hF hj => v_bin (u := .int .i64 (pe)) (v := .int .i64 (pe)) (c := .bool (pe != pe)) rfl (fun w => (by go_simp)) hF (by kernel_rfl) (guard_of rfl (by kernel_rfl) (by kernel_rfl) hj) (Ev.at (i := 4) (by kernel_rfl) (by kernel_rfl) (fe rfl (gd_t hg))) (Ev.at (i := 5) (by kernel_rfl) (by kernel_rfl) (fe rfl (gd_t hg))))
    · exact v_or (p := false) (q := pe != pe) rfl rfl (by kernel_rfl) True.intro (Ev.at (i := 3) (by kernel_rfl) (by kernel_rfl) rfl) (fun hp => (Ev.at (i := 6) (by kernel_rfl) (by kernel_rfl) (fe rfl (gd_t (not_t hp)))))
    · exact v_move (.inl rfl) rfl (by kernel_rfl) True.intro (Ev.at (i := 7) (by kernel_rfl) (by kernel_rfl) rfl)
    · exact flow_gd (!((false) || (pe != pe))) (.agg (fc f)) 8 false (.bool ((false) || (pe != pe))) rfl (by kernel_rfl) rfl gu_f rfl (fun hg hF hj => v_load (u := .pointer (some ⟨w.heap.size, 0, none⟩)) (c := .agg (fc f)) rfl (fun w hB => ld_fr (HF4.out.dr.keep hB)) hF (by kernel_rfl) (guard_of rfl (by kernel_rfl) (by kernel_rfl) hj) (Ev.out (by kernel_rfl) rfl))
    · exact flow_gd (!((false) || (pe != pe))) (.bool (mayF f l)) 8 false (.bool ((false) || (pe != pe))) rfl (by kernel_rfl) rfl gu_f rfl (fun hg hF hj => v_call (vs := #[.agg (fc f)]) (c := .bool (mayF f l)) rfl (fun args w => rfl) (fun w hB => frame_May f l w (HV4.out.dr.keep hB)) hF (by kernel_rfl) (guard_of rfl (by kernel_rfl) (by kernel_rfl) hj) (ev1 (Ev.at (i := 9) (by kernel_rfl) (by kernel_rfl) (fe rfl (gd_t hg)))))
    · exact flow_gd (!((false) || (pe != pe))) (.agg (fc f)) 8 false (.bool ((false) || (pe != pe))) rfl (by kernel_rfl) rfl gu_f rfl (fun hg hF hj => v_load (u := .pointer (some ⟨w.heap.size, 0, none⟩)) (c := .agg (fc f)) rfl (fun w hB => ld_fr (HF4.out.dr.keep hB)) hF (by kernel_rfl) (guard_of rfl (by kernel_rfl) (by kernel_rfl) hj) (Ev.out (by kernel_rfl) rfl))
    · exact flow_gd (!((false) || (pe != pe))) (.bool (mayF f l)) 8 false (.bool ((false) || (pe != pe))) rfl (by kernel_rfl) rfl gu_f rfl (fun hg hF hj => v_call (vs := #[.agg (fc f)]) (c := .bool (mayF f l)) rfl (fun args w => rfl) (fun w hB => ref_MayF f l w (HV4.out.dr.keep hB)) hF (by kernel_rfl) (guard_of rfl (by kernel_rfl) (by kernel_rfl) hj) (ev1 (Ev.at (i := 11) (by kernel_rfl) (by kernel_rfl) (fe rfl (gd_t hg)))))
    · exact flow_gd (!((false) || (pe != pe))) (.bool ((mayF f l) != (mayF f l))) 8 false (.bool ((false) || (pe != pe))) rfl (by kernel_rfl) rfl gu_f rfl (fun hg hF hj => v_bin (u := .bool (mayF f l)) (v := .bool (mayF f l)) (c := .bool ((mayF f l) != (mayF f l))) rfl (fun w => bin_bool_neq _ _ w) hF (by kernel_rfl) (guard_of rfl (by kernel_rfl) (by kernel_rfl) hj) (Ev.at (i := 10) (by kernel_rfl) (by kernel_rfl) (fe rfl (gd_t hg))) (Ev.at (i := 12) (by kernel_rfl) (by kernel_rfl) (fe rfl (gd_t hg))))
    · exact v_or (p := (false) || (pe != pe)) (q := (mayF f l) != (mayF f l)) rfl rfl (by kernel_rfl) True.intro (Ev.at (i := 8) (by kernel_rfl) (by kernel_rfl) rfl) (fun hp => (Ev.at (i := 13) (by kernel_rfl) (by kernel_rfl) (fe rfl (gd_t (not_t hp)))))
  intro o vs w5 hB hf
  have e0 : vs 0 = .string (ba ps) := hf 0 (by decide)
  have e1 : vs 1 = .string (ba ps) := hf 1 (by decide)
  have e2 : vs 2 = .bool (false) := hf 2 (by decide)
  have e3 : vs 3 = .bool (false) := hf 3 (by decide)
  have e4 : vs 4 = gd (!(false)) (.int .i64 (pe)) := hf 4 (by decide)
  have e5 : vs 5 = gd (!(false)) (.int .i64 (pe)) := hf 5 (by decide)
  have e6 : vs 6 = gd (!(false)) (.bool (pe != pe)) := hf 6 (by decide)
  have e7 : vs 7 = .bool ((false) || (pe != pe)) := hf 7 (by decide)
  have e8 : vs 8 = .bool ((false) || (pe != pe)) := hf 8 (by decide)
  have e9 : vs 9 = gd (!((false) || (pe != pe))) (.agg (fc f)) := hf 9 (by decide)
  have e10 : vs 10 = gd (!((false) || (pe != pe))) (.bool (mayF f l)) := hf 10 (by decide)
  have e11 : vs 11 = gd (!((false) || (pe != pe))) (.agg (fc f)) := hf 11 (by decide)
  have e12 : vs 12 = gd (!((false) || (pe != pe))) (.bool (mayF f l)) := hf 12 (by decide)
  have e13 : vs 13 = gd (!((false) || (pe != pe))) (.bool ((mayF f l) != (mayF f l))) := hf 13 (by decide)
  have e14 : vs 14 = .bool (((false) || (pe != pe)) || ((mayF f l) != (mayF f l))) := hf 14 (by decide)
  obtain ⟨z, hz⟩ : ∃ z, (((false) || (pe != pe)) || ((mayF f l) != (mayF f l))) = z := ⟨_, rfl⟩
  rw [hz] at e14
  simp only [fill, List.setIfInBounds_toArray, List.set_cons_zero, List.set_cons_succ, e0, e1, e2, e3, e4, e5, e6, e7, e8, e9, e10, e11, e12, e13, e14]
  have hz0 : z = false := by rw [← hz]; simp
  subst hz0
  have HB5 := hid (below_next HB1.out (below_next HB4.out hB))
  have HF5 := hid (HF4.out.keep hB)
  have HV5 := hid (HV4.out.keep hB)
  clear HF4 HV4 HF1 HV1 HB1 HB3 HB4 HF3 hB hf hz e0 e1 e2 e3 e4 e5 e6 e7 e8 e9 e10 e11 e12 e13 e14
  cases hm : mayF f l with
  | false =>
    have hp := HPUT.out
    unfold putF at hp
    rw [hm, if_neg (by decide)] at hp
    have e2 : pe = 2 := (congrArg Prod.snd hp).symm
    subst e2
    clear hp hm
    go_wp2_with (first
      | (go_at_call 7; (with_reducible refine (law_head _).mono ?_); rintro e w6 ⟨rfl, hB6⟩; have HB6 := hid hB6; clear hB6))
    go_ret
    exact ⟨rfl, below_next HB5.out HB6.out⟩
  | true =>
    have hp := HPUT.out
    unfold putF at hp
    rw [hm, if_pos rfl] at hp
    have e1 : Crc.sealed (encF f l) = ps := congrArg Prod.fst hp
    have e2 : pe = 0 := (congrArg Prod.snd hp).symm
    subst e2
    have hsz : (ba ps).size ≤ 1000000 := by
      rw [ba_size, ← e1, Crc.sealed_length]
      have := encF_len HOK.out HV5.out.all hm
      omega
    have hget := fun W => frame_Get (ba ps) hsz W
    rw [ba_list, ← e1] at hget
    rw [← e1]
    have HM := hid hm
    clear hp hm hsz e1
    generalize ba (Crc.sealed (encF f l)) = q1 at hget ⊢
    go_upto_region 10 with (first
      | (go_at_call 12; (with_reducible refine (hget _).mono ?_); rintro e w6 ⟨f', l', ee, rfl, hg, hv', hB6⟩; obtain ⟨rfl, hs⟩ := got_same hg HOK.out HV5.out HM.out hv'; have HS := hid hs; have HV6 := hid hv'; have HONE := hid (oneF f' hv'.one); have HB6 := hid hB6; clear hg hs hv' hB6 hget)
      | (refine wpList_store_row rfl _ _ _ rfl w6.heap.size (fc f') rfl rfl 27 (fc zeroF) ?_ (frSize _) rfl HONE.out ?_; (focus exact heap_alloc_last' _ _)))
    have hbn := below_next HB6.out (below_new w6 #[.int .u8 0, .int .u8 0, .int .u8 0, .int .u32 0, .int .u32 0, .int .u32 0, .int .u32 0, .int .u32 0, .int .u32 0, .int .u32 0, .int .u32 0, .slice none 0 0] 27 (fc f'))
    have HB7 := hid (show Below w.heap.size w ((w6.alloc (.cells #[.int .u8 0, .int .u8 0, .int .u8 0, .int .u32 0, .int .u32 0, .int .u32 0, .int .u32 0, .int .u32 0, .int .u32 0, .int .u32 0, .int .u32 0, .slice none 0 0] 27)).setRow w6.heap.size (fc f')) from below_next HB5.out hbn)
    have HFa := hid (show FrAt ((w6.alloc (.cells #[.int .u8 0, .int .u8 0, .int .u8 0, .int .u32 0, .int .u32 0, .int .u32 0, .int .u32 0, .int .u32 0, .int .u32 0, .int .u32 0, .int .u32 0, .slice none 0 0] 27)).setRow w6.heap.size (fc f')) w.heap.size f from HF5.out.keep hbn)
    have HFb := hid (show FrAt ((w6.alloc (.cells #[.int .u8 0, .int .u8 0, .int .u8 0, .int .u32 0, .int .u32 0, .int .u32 0, .int .u32 0, .int .u32 0, .int .u32 0, .int .u32 0, .int .u32 0, .slice none 0 0] 27)).setRow w6.heap.size (fc f')) w6.heap.size f' from fr_new w6 _ f')
    have HVa := hid (show OpsV ((w6.alloc (.cells #[.int .u8 0, .int .u8 0, .int .u8 0, .int .u32 0, .int .u32 0, .int .u32 0, .int .u32 0, .int .u32 0, .int .u32 0, .int .u32 0, .int .u32 0, .slice none 0 0] 27)).setRow w6.heap.size (fc f')) f.ops l from HV5.out.keep hbn)
    have HVb := hid (show OpsV ((w6.alloc (.cells #[.int .u8 0, .int .u8 0, .int .u8 0, .int .u32 0, .int .u32 0, .int .u32 0, .int .u32 0, .int .u32 0, .int .u32 0, .int .u32 0, .int .u32 0, .slice none 0 0] 27)).setRow w6.heap.size (fc f')) f'.ops l' from HV6.out.keep (below_new w6 _ _ _))
    generalize ((w6.alloc (.cells #[.int .u8 0, .int .u8 0, .int .u8 0, .int .u32 0, .int .u32 0, .int .u32 0, .int .u32 0, .int .u32 0, .int .u32 0, .int .u32 0, .int .u32 0, .slice none 0 0] 27)).setRow w6.heap.size (fc f')) = W at HB7 HFa HFb HVa HVb ⊢
    generalize w6.heap.size = g7 at HFb ⊢
    clear HF5 HV5 HV6 HONE HB6 HB5 hbn
    have h1 := ref_SameF f' f l' l W HVb.out HVa.out
    rw [HS.out] at h1
    have h2 : ∀ W', Below W.heap.size W W' → Calls Try.prog 14 #[.agg (fc f'), .agg (fc f)] W' fun e w' => e = .returned (.bool true) ∧ Below W'.heap.size W' w' := fun W' hB => by
      have := frame_Same f' f l' l W' (HVb.out.keep hB) (HVa.out.keep hB)
      rw [HS.out] at this
      exact this
    go_wp2_with (first
      | (refine load_fr _ rfl (by kernel_rfl) w.heap.size rfl _ HFa.out ?_)
      | (refine load_fr _ rfl (by kernel_rfl) g7 rfl _ HFb.out ?_)
      | (refine load_fr _ rfl (by kernel_rfl) w.heap.size rfl _ HFc.out ?_)
      | (refine load_fr _ rfl (by kernel_rfl) g7 rfl _ HFd.out ?_)
      | (go_at_call 13; (with_reducible refine h1.mono ?_); rintro e w7 ⟨rfl, hB7⟩; have HB8 := hid hB7; have HFc := hid (HFa.out.keep hB7); have HFd := hid (HFb.out.keep hB7); clear hB7 h1)
      | (go_at_call 14; (with_reducible refine (h2 _ HB8.out).mono ?_); rintro e w8 ⟨rfl, hB9⟩; have HB9 := hid (below_next HB8.out hB9); clear hB9 h2)
      | (go_at_call 7; (with_reducible refine (law_head _).mono ?_); rintro e w9 ⟨rfl, hBa⟩; have HBa := hid (below_next HB9.out hBa); clear hBa))
    go_ret
    exact ⟨rfl, below_next HB7.out HBa.out⟩
end Go.Proofs.Ytagjgknkkbkjgaa.V
