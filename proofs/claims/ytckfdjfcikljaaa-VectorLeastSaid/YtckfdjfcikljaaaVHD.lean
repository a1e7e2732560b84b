/-
  The laws' head: calls whose answers the document fixes.
-/
import Derived.Test.YtckfdjfcikljaaaVOrd
namespace Go.Proofs.Ytckfdjfcikljaaa
set_option linter.unusedVariables false
set_option linter.unusedSimpArgs false
open Go Go.RowKit Go.Maps
attribute [local go_sem ↓] Go.wp_at_zero Go.wp_at_succ

set_option maxHeartbeats 8000000 in
set_option maxRecDepth 100000 in
theorem law_head (w : World) : Calls Try.prog 23 #[] w fun e w' => e = .returned (.bool true) ∧ Below w.heap.size w w' := by
  have q1 := h_eq131
  have q2 := h_eq020
  have q3 := h_eq130
  have q4 := h_eqD
  go_enter Try.func23, Try.ntmps23
  go_wp2_with (first
    | (go_at_call 35; (with_reducible refine (made_v _ _ _ _).mono ?_); rintro e w' ⟨rfl, rfl⟩)
    | (go_at_call 8; (with_reducible refine (h_next1 _).mono ?_); rintro e w1 ⟨rfl, hB⟩; have HB1 := hid (st1 hB); clear hB)
    | (go_at_call 10; (with_reducible refine (h_put13 _).mono ?_); rintro e w2 ⟨rfl, hB⟩; have HD2 := hid (keep_first hB); have HB2 := hid (HB1.out.trans ((st2 hB).mono HB1.out.size)); clear hB)
    | (go_at_call 10; (with_reducible refine (h_put14 _).mono ?_); rintro e w3 ⟨rfl, hB⟩; have HV3 := hid (keep_first hB); have HD3 := hid (keep_old2 HD2.out hB); have HB3 := hid (HB2.out.trans ((st2 hB).mono HB2.out.size)); clear hB HD2)
    | (go_at_call 8; (with_reducible refine (h_next8 _).mono ?_); rintro e w4 ⟨rfl, hB⟩; have HV4 := hid (keep_old2 HV3.out hB); have HD4 := hid (keep_old2 HD3.out hB); have HB4 := hid (HB3.out.trans ((st2 hB).mono HB3.out.size)); clear hB HD3 HV3)
    | (go_at_call 19; (with_reducible refine (h_lacks _).mono ?_); rintro e w5 ⟨v5, rfl, hv5, hB⟩; have HV5 := hid (keep_old3 HV4.out hB); have HD5 := hid (keep_old3 HD4.out hB); have HB5 := hid (HB4.out.trans ((st3 hB).mono HB4.out.size)); have HL5 := hid hv5; clear hB HD4 HV4 hv5))
  have HB5' := hid HB5.out
  have HS5 : HeadS w1.heap.size w2.heap.size w5 v5 w5 := ⟨HL5.out, Below.refl _ _, HD5.out, HV5.out⟩
  have hall := head_all HS5
  clear HD5 HV5 HL5 HB1 HB2 HB3 HB4
  dsimp only [List.append]
  refine wp_region_noPanic ?_
  refine wp_region_ord (S := (fun w' => HeadS w1.heap.size w2.heap.size w5 v5 w' ∧ w'.cell? ⟨w1.heap.size, 0, none⟩ = some (.int .u8 1) ∧ w'.cell? ⟨w1.heap.size, 1, none⟩ = some (.int .u32 3) ∧ w'.cell? ⟨w2.heap.size, 0, none⟩ = some (.int .u32 1) ∧ w'.cell? ⟨w2.heap.size, 1, none⟩ = some (.int .u32 3) ∧ w'.cell? ⟨w2.heap.size, 2, none⟩ = some (.int .u32 0) ∧ w'.cell? ⟨w2.heap.size, 3, none⟩ = some (.int .u32 0) ∧ w'.cell? ⟨w2.heap.size, 4, none⟩ = some (.int .u32 0) ∧ w'.cell? ⟨w2.heap.size, 5, none⟩ = some (.int .u32 0) ∧ w'.cell? ⟨w2.heap.size, 6, none⟩ = some (.int .u32 0) ∧ w'.cell? ⟨w2.heap.size, 7, none⟩ = some (.int .u32 0))) [(0, 0), (1, 1), (2, 3), (3, 6), (4, 8), (5, 24), (6, 48), (7, 64), (8, 192), (9, 448), (10, 832), (11, 1088), (12, 3136), (13, 4160), (14, 10240), (15, 16384), (16, 49152), (17, 114688), (18, 147456), (19, 393216), (20, 524288), (21, 1572864), (22, 3670016), (23, 4718592), (24, 12582912), (25, 16777216), (26, 16777216), (27, 117440512), (28, 150994944), (29, 402653184), (30, 536870912), (31, 536870912), (32, 3758096384), (33, 4831838208), (34, 9126805504), (35, 21474836480), (36, 34359738368), (37, 34359738368), (38, 240518168576), (39, 309237645312), (40, 584115552256), (41, 1099511627776), (42, 3298534883328), (43, 5497558138880), (44, 9895604649984), (45, 17592186044416), (46, 17592186044416), (47, 123145302310912), (48, 158329674399744), (49, 351843720888320), (50, 562949953421312), (51, 1688849860263936), (52, 2814749767106560), (53, 5066549580791808), (54, 9007199254740992), (55, 27021597764222976), (56, 45035996273704960), (57, 81064793292668928), (58, 144115188075855872), (59, 432345564227567616), (60, 720575940379279360), (61, 1297036692682702848), (62, 2305843009213693952), (63, 2305843009213693952), (64, 2305843009213693952), (65, 29975959119778021376), (66, 43811017175060185088), (67, 76092819304051900416), (68, 221360928884514619392), (69, 295147905179352825856), (70, 885443715538058477568), (71, 1475739525896764129280), (72, 2656331146614175432704), (73, 4722366482869645213696), (74, 14167099448608935641088), (75, 23611832414348226068480), (76, 42501298345826806923264), (77, 94447329657392904273920), (78, 151115727451828646838272), (79, 453347182355485940514816), (80, 755578637259143234191360), (81, 1360041547066457821544448), (82, 4684587551006688051986432), (83, 7404670645139603695075328), (84, 9822522284368862044487680), (85, 19493928841285895442137088), (86, 58179555068954029032734720), (87, 125879400967373262816280576), (88, 154893620638124363009228800), (89, 618970019642690137449562111)] [(0, 0), (1, 1), (2, 3), (3, 7), (4, 15), (5, 31), (6, 63), (7, 127), (8, 255), (9, 511), (10, 1023), (11, 2047), (12, 4095), (13, 8191), (14, 16383), (15, 32767), (16, 65535), (17, 131071), (18, 262143), (19, 524287), (20, 1048575), (21, 2097151), (22, 4194303), (23, 8388607), (24, 16777215), (26, 33554431), (25, 100663295), (27, 134217727), (28, 268435455), (29, 536870911), (31, 1073741823), (30, 3221225471), (32, 4294967295), (33, 8589934591), (34, 17179869183), (35, 34359738367), (36, 68719476735), (37, 137438953471), (38, 274877906943), (39, 549755813887), (40, 1099511627775), (41, 2199023255551), (42, 4398046511103), (43, 8796093022207), (44, 17592186044415), (45, 35184372088831), (46, 70368744177663), (47, 140737488355327), (48, 281474976710655), (49, 562949953421311), (50, 1125899906842623), (51, 2251799813685247), (52, 4503599627370495), (53, 9007199254740991), (54, 18014398509481983), (55, 36028797018963967), (56, 72057594037927935), (57, 144115188075855871), (58, 288230376151711743), (59, 576460752303423487), (60, 1152921504606846975), (61, 2305843009213693951), (62, 4611686018427387903), (63, 9223372036854775807), (64, 18446744073709551615), (65, 36893488147419103231), (66, 73786976294838206463), (67, 147573952589676412927), (68, 295147905179352825855), (69, 590295810358705651711), (70, 1180591620717411303423), (71, 2361183241434822606847), (72, 4722366482869645213695), (73, 9444732965739290427391), (74, 18889465931478580854783), (75, 37778931862957161709567), (76, 75557863725914323419135), (77, 151115727451828646838271), (78, 302231454903657293676543), (79, 604462909807314587353087), (80, 1208925819614629174706175), (81, 2417851639229258349412351), (82, 4835703278458516698824703), (83, 9671406556917033397649407), (84, 19342813113834066795298815), (85, 38685626227668133590597631), (86, 77371252455336267181195263), (87, 154742504910672534362390527), (88, 309485009821345068724781055), (89, 618970019642690137449562111)] [0, 1, 2, 3, 4, 5, 6, 7, 8, 9, 10, 11, 12, 13, 14, 15, 16, 17, 18, 19, 20, 21, 22, 23, 24, 26, 25, 27, 28, 29, 31, 30, 32, 33, 34, 35, 36, 37, 38, 39, 40, 41, 42, 43, 44, 45, 46, 47, 48, 49, 50, 51, 52, 53, 54, 55, 56, 57, 58, 59, 60, 61, 62, 63, 64, 65, 66, 67, 68, 69, 70, 71, 72, 73, 74, 75, 76, 77, 78, 79, 80, 81, 82, 83, 84, 85, 86, 87, 88, 89] (by kernel_rfl) (by kernel_rfl) (by kernel_rfl) (by kernel_rfl) rfl rfl (fun _ _ _ _ _ h => h) ?_ (fun hHeld => ?_)
  · exact head_all (HeadS.keep HS5 (below_dr _))
  refine held_op (at_drop rfl) rfl rfl (fun K hK => ?_)
  go_simp
  (go_at_call 35; ((with_reducible refine (made_vB _ _ _ _).mono ?_); rintro e wm ⟨rfl, hB⟩))
  refine hK.out _ _ ?_ (fun hNew => ?_)
  · first | exact head_step hB hHeld | exact head_step (below_al _ _) hHeld | exact head_step (below_dr _) hHeld
  clear hHeld hK K
  have hHeld := hNew
  clear hNew
  try simp only [Act.put, List.setIfInBounds_toArray, List.set_cons_zero, List.set_cons_succ]
  refine held_op (at_drop rfl) rfl rfl (fun K hK => ?_)
  go_simp
  (go_at_call 35; ((with_reducible refine (made_vB _ _ _ _).mono ?_); rintro e wm ⟨rfl, hB⟩))
  refine hK.out _ _ ?_ (fun hNew => ?_)
  · first | exact head_step hB hHeld | exact head_step (below_al _ _) hHeld | exact head_step (below_dr _) hHeld
  clear hHeld hK K
  have hHeld := hNew
  clear hNew
  try simp only [Act.put, List.setIfInBounds_toArray, List.set_cons_zero, List.set_cons_succ]
  refine held_op (at_drop rfl) rfl rfl (fun K hK => ?_)
  go_simp
  refine hK.out _ _ ?_ (fun hNew => ?_)
  · first | exact head_step hB hHeld | exact head_step (below_al _ _) hHeld | exact head_step (below_dr _) hHeld
  clear hHeld hK K
  have hHeld := hNew
  clear hNew
  try simp only [Act.put, List.setIfInBounds_toArray, List.set_cons_zero, List.set_cons_succ]
  refine held_op (at_drop rfl) rfl rfl (fun K hK => ?_)
  go_simp
  (go_at_call 24; ((with_reducible refine (h_merge _ _ ?_).mono ?_); (focus (repeat' (first | with_reducible assumption | ((with_reducible refine new_vecsV _ _ rowsA _ 2 ?_ ?_ ?_ okA ?_); (focus (first | rfl | (simp; done))); (focus rfl); (focus rfl); (focus decide)) | with_reducible refine VecsV.al ?_ _ | with_reducible refine VecsV.dr ?_ | with_reducible refine VecsV.keep ?_ (by assumption)))); rintro e wm ⟨rfl, hB⟩))
  refine hK.out _ _ ?_ (fun hNew => ?_)
  · first | exact head_step hB hHeld | exact head_step (below_al _ _) hHeld | exact head_step (below_dr _) hHeld
  clear hHeld hK K
  have hHeld := hNew
  clear hNew
  try simp only [Act.put, List.setIfInBounds_toArray, List.set_cons_zero, List.set_cons_succ]
  refine held_op (at_drop rfl) rfl rfl (fun K hK => ?_)
  go_simp
  (go_at_call 35; ((with_reducible refine (made_vB _ _ _ _).mono ?_); rintro e wm ⟨rfl, hB⟩))
  refine hK.out _ _ ?_ (fun hNew => ?_)
  · first | exact head_step hB hHeld | exact head_step (below_al _ _) hHeld | exact head_step (below_dr _) hHeld
  clear hHeld hK K
  have hHeld := hNew
  clear hNew
  try simp only [Act.put, List.setIfInBounds_toArray, List.set_cons_zero, List.set_cons_succ]
  refine held_take (v := ?_) (at_drop rfl) rfl rfl ?_ ?_
  rotate_left
  · (intro w' hSw; (try dsimp only at hSw); go_simp; try with_reducible rfl)
  try simp only [Act.put, List.setIfInBounds_toArray, List.set_cons_zero, List.set_cons_succ]
  refine held_take (v := ?_) (at_drop rfl) rfl rfl ?_ ?_
  rotate_left
  · (intro w' hSw; (try dsimp only at hSw); go_simp; try with_reducible rfl)
  try simp only [Act.put, List.setIfInBounds_toArray, List.set_cons_zero, List.set_cons_succ]
  refine held_op (at_drop rfl) rfl rfl (fun K hK => ?_)
  go_simp
  (go_at_call 35; ((with_reducible refine (made_vB _ _ _ _).mono ?_); rintro e wm ⟨rfl, hB⟩))
  refine hK.out _ _ ?_ (fun hNew => ?_)
  · first | exact head_step hB hHeld | exact head_step (below_al _ _) hHeld | exact head_step (below_dr _) hHeld
  clear hHeld hK K
  have hHeld := hNew
  clear hNew
  try simp only [Act.put, List.setIfInBounds_toArray, List.set_cons_zero, List.set_cons_succ]
  refine held_op (at_drop rfl) rfl rfl (fun K hK => ?_)
  go_simp
  (go_at_call 35; ((with_reducible refine (made_vB _ _ _ _).mono ?_); rintro e wm ⟨rfl, hB⟩))
  refine hK.out _ _ ?_ (fun hNew => ?_)
  · first | exact head_step hB hHeld | exact head_step (below_al _ _) hHeld | exact head_step (below_dr _) hHeld
  clear hHeld hK K
  have hHeld := hNew
  clear hNew
  try simp only [Act.put, List.setIfInBounds_toArray, List.set_cons_zero, List.set_cons_succ]
  refine held_op (at_drop rfl) rfl rfl (fun K hK => ?_)
  go_simp
  refine hK.out _ _ ?_ (fun hNew => ?_)
  · first | exact head_step hB hHeld | exact head_step (below_al _ _) hHeld | exact head_step (below_dr _) hHeld
  clear hHeld hK K
  have hHeld := hNew
  clear hNew
  try simp only [Act.put, List.setIfInBounds_toArray, List.set_cons_zero, List.set_cons_succ]
  refine held_op (at_drop rfl) rfl rfl (fun K hK => ?_)
  go_simp
  (go_at_call 26; ((with_reducible refine (h_meet _ _ ?_).mono ?_); (focus (repeat' (first | with_reducible assumption | ((with_reducible refine new_vecsV _ _ rowsA _ 2 ?_ ?_ ?_ okA ?_); (focus (first | rfl | (simp; done))); (focus rfl); (focus rfl); (focus decide)) | with_reducible refine VecsV.al ?_ _ | with_reducible refine VecsV.dr ?_ | with_reducible refine VecsV.keep ?_ (by assumption)))); rintro e wm ⟨rfl, hB⟩))
  refine hK.out _ _ ?_ (fun hNew => ?_)
  · first | exact head_step hB hHeld | exact head_step (below_al _ _) hHeld | exact head_step (below_dr _) hHeld
  clear hHeld hK K
  have hHeld := hNew
  clear hNew
  try simp only [Act.put, List.setIfInBounds_toArray, List.set_cons_zero, List.set_cons_succ]
  refine held_op (at_drop rfl) rfl rfl (fun K hK => ?_)
  go_simp
  (go_at_call 35; ((with_reducible refine (made_vB _ _ _ _).mono ?_); rintro e wm ⟨rfl, hB⟩))
  refine hK.out _ _ ?_ (fun hNew => ?_)
  · first | exact head_step hB hHeld | exact head_step (below_al _ _) hHeld | exact head_step (below_dr _) hHeld
  clear hHeld hK K
  have hHeld := hNew
  clear hNew
  try simp only [Act.put, List.setIfInBounds_toArray, List.set_cons_zero, List.set_cons_succ]
  refine held_take (v := ?_) (at_drop rfl) rfl rfl ?_ ?_
  rotate_left
  · (intro w' hSw; (try dsimp only at hSw); go_simp; try with_reducible rfl)
  try simp only [Act.put, List.setIfInBounds_toArray, List.set_cons_zero, List.set_cons_succ]
  refine held_take (v := ?_) (at_drop rfl) rfl rfl ?_ ?_
  rotate_left
  · (intro w' hSw; (try dsimp only at hSw); go_simp; try with_reducible rfl)
  try simp only [Act.put, List.setIfInBounds_toArray, List.set_cons_zero, List.set_cons_succ]
  refine held_take (v := ?_) (at_drop rfl) rfl rfl ?_ ?_
  rotate_left
  · (intro w' hSw; (try dsimp only at hSw); go_simp; try with_reducible rfl)
  try simp only [Act.put, List.setIfInBounds_toArray, List.set_cons_zero, List.set_cons_succ]
  refine held_op (at_drop rfl) rfl rfl (fun K hK => ?_)
  go_simp
  (go_at_call 35; ((with_reducible refine (made_vB _ _ _ _).mono ?_); rintro e wm ⟨rfl, hB⟩))
  refine hK.out _ _ ?_ (fun hNew => ?_)
  · first | exact head_step hB hHeld | exact head_step (below_al _ _) hHeld | exact head_step (below_dr _) hHeld
  clear hHeld hK K
  have hHeld := hNew
  clear hNew
  try simp only [Act.put, List.setIfInBounds_toArray, List.set_cons_zero, List.set_cons_succ]
  refine held_op (at_drop rfl) rfl rfl (fun K hK => ?_)
  go_simp
  (go_at_call 35; ((with_reducible refine (made_vB _ _ _ _).mono ?_); rintro e wm ⟨rfl, hB⟩))
  refine hK.out _ _ ?_ (fun hNew => ?_)
  · first | exact head_step hB hHeld | exact head_step (below_al _ _) hHeld | exact head_step (below_dr _) hHeld
  clear hHeld hK K
  have hHeld := hNew
  clear hNew
  try simp only [Act.put, List.setIfInBounds_toArray, List.set_cons_zero, List.set_cons_succ]
  refine held_op (at_drop rfl) rfl rfl (fun K hK => ?_)
  go_simp
  (go_at_call 14; ((with_reducible refine (h_above _).mono ?_); rintro e wm ⟨rfl, hB⟩))
  refine hK.out _ _ ?_ (fun hNew => ?_)
  · first | exact head_step hB hHeld | exact head_step (below_al _ _) hHeld | exact head_step (below_dr _) hHeld
  clear hHeld hK K
  have hHeld := hNew
  clear hNew
  try simp only [Act.put, List.setIfInBounds_toArray, List.set_cons_zero, List.set_cons_succ]
  refine held_take (v := ?_) (at_drop rfl) rfl rfl ?_ ?_
  rotate_left
  · (intro w' hSw; (try dsimp only at hSw); go_simp; try with_reducible rfl)
  try simp only [Act.put, List.setIfInBounds_toArray, List.set_cons_zero, List.set_cons_succ]
  refine held_take (v := ?_) (at_drop rfl) rfl rfl ?_ ?_
  rotate_left
  · (intro w' hSw; (try dsimp only at hSw); go_simp; try with_reducible rfl)
  try simp only [Act.put, List.setIfInBounds_toArray, List.set_cons_zero, List.set_cons_succ]
  refine held_op (at_drop rfl) rfl rfl (fun K hK => ?_)
  go_simp
  (go_at_call 35; ((with_reducible refine (made_vB _ _ _ _).mono ?_); rintro e wm ⟨rfl, hB⟩))
  refine hK.out _ _ ?_ (fun hNew => ?_)
  · first | exact head_step hB hHeld | exact head_step (below_al _ _) hHeld | exact head_step (below_dr _) hHeld
  clear hHeld hK K
  have hHeld := hNew
  clear hNew
  try simp only [Act.put, List.setIfInBounds_toArray, List.set_cons_zero, List.set_cons_succ]
  refine held_op (at_drop rfl) rfl rfl (fun K hK => ?_)
  go_simp
  (go_at_call 35; ((with_reducible refine (made_vB _ _ _ _).mono ?_); rintro e wm ⟨rfl, hB⟩))
  refine hK.out _ _ ?_ (fun hNew => ?_)
  · first | exact head_step hB hHeld | exact head_step (below_al _ _) hHeld | exact head_step (below_dr _) hHeld
  clear hHeld hK K
  have hHeld := hNew
  clear hNew
  try simp only [Act.put, List.setIfInBounds_toArray, List.set_cons_zero, List.set_cons_succ]
  refine held_op (at_drop rfl) rfl rfl (fun K hK => ?_)
  go_simp
  (go_at_call 16; ((with_reducible refine (h_beside _).mono ?_); rintro e wm ⟨rfl, hB⟩))
  refine hK.out _ _ ?_ (fun hNew => ?_)
  · first | exact head_step hB hHeld | exact head_step (below_al _ _) hHeld | exact head_step (below_dr _) hHeld
  clear hHeld hK K
  have hHeld := hNew
  clear hNew
  try simp only [Act.put, List.setIfInBounds_toArray, List.set_cons_zero, List.set_cons_succ]
  refine held_take (v := ?_) (at_drop rfl) rfl rfl ?_ ?_
  rotate_left
  · (intro w' hSw; (try dsimp only at hSw); go_simp; try with_reducible rfl)
  try simp only [Act.put, List.setIfInBounds_toArray, List.set_cons_zero, List.set_cons_succ]
  refine held_take (v := ?_) (at_drop rfl) rfl rfl ?_ ?_
  rotate_left
  · (intro w' hSw; (try dsimp only at hSw); go_simp; try with_reducible rfl)
  try simp only [Act.put, List.setIfInBounds_toArray, List.set_cons_zero, List.set_cons_succ]
  refine held_take (v := ?_) (at_drop rfl) rfl rfl ?_ ?_
  rotate_left
  · (intro w' hSw; (try dsimp only at hSw); go_simp; try with_reducible rfl)
  try simp only [Act.put, List.setIfInBounds_toArray, List.set_cons_zero, List.set_cons_succ]
  refine held_op (at_drop rfl) rfl rfl (fun K hK => ?_)
  go_simp
  (go_at_call 35; ((with_reducible refine (made_vB _ _ _ _).mono ?_); rintro e wm ⟨rfl, hB⟩))
  refine hK.out _ _ ?_ (fun hNew => ?_)
  · first | exact head_step hB hHeld | exact head_step (below_al _ _) hHeld | exact head_step (below_dr _) hHeld
  clear hHeld hK K
  have hHeld := hNew
  clear hNew
  try simp only [Act.put, List.setIfInBounds_toArray, List.set_cons_zero, List.set_cons_succ]
  refine held_op (at_drop rfl) rfl rfl (fun K hK => ?_)
  go_simp
  (go_at_call 12; ((with_reducible refine (h_cov1 _).mono ?_); rintro e wm ⟨rfl, hB⟩))
  refine hK.out _ _ ?_ (fun hNew => ?_)
  · first | exact head_step hB hHeld | exact head_step (below_al _ _) hHeld | exact head_step (below_dr _) hHeld
  clear hHeld hK K
  have hHeld := hNew
  clear hNew
  try simp only [Act.put, List.setIfInBounds_toArray, List.set_cons_zero, List.set_cons_succ]
  refine held_take (v := ?_) (at_drop rfl) rfl rfl ?_ ?_
  rotate_left
  · (intro w' hSw; (try dsimp only at hSw); go_simp; try with_reducible rfl)
  try simp only [Act.put, List.setIfInBounds_toArray, List.set_cons_zero, List.set_cons_succ]
  refine held_take (v := ?_) (at_drop rfl) rfl rfl ?_ ?_
  rotate_left
  · (intro w' hSw; (try dsimp only at hSw); go_simp; try with_reducible rfl)
  try simp only [Act.put, List.setIfInBounds_toArray, List.set_cons_zero, List.set_cons_succ]
  refine held_take (v := ?_) (at_drop rfl) rfl rfl ?_ ?_
  rotate_left
  · (intro w' hSw; (try dsimp only at hSw); go_simp; try with_reducible rfl)
  try simp only [Act.put, List.setIfInBounds_toArray, List.set_cons_zero, List.set_cons_succ]
  refine held_op (at_drop rfl) rfl rfl (fun K hK => ?_)
  go_simp
  (go_at_call 35; ((with_reducible refine (made_vB _ _ _ _).mono ?_); rintro e wm ⟨rfl, hB⟩))
  refine hK.out _ _ ?_ (fun hNew => ?_)
  · first | exact head_step hB hHeld | exact head_step (below_al _ _) hHeld | exact head_step (below_dr _) hHeld
  clear hHeld hK K
  have hHeld := hNew
  clear hNew
  try simp only [Act.put, List.setIfInBounds_toArray, List.set_cons_zero, List.set_cons_succ]
  refine held_op (at_drop rfl) rfl rfl (fun K hK => ?_)
  go_simp
  (go_at_call 12; ((with_reducible refine (h_cov2 _).mono ?_); rintro e wm ⟨rfl, hB⟩))
  refine hK.out _ _ ?_ (fun hNew => ?_)
  · first | exact head_step hB hHeld | exact head_step (below_al _ _) hHeld | exact head_step (below_dr _) hHeld
  clear hHeld hK K
  have hHeld := hNew
  clear hNew
  try simp only [Act.put, List.setIfInBounds_toArray, List.set_cons_zero, List.set_cons_succ]
  refine held_take (v := ?_) (at_drop rfl) rfl rfl ?_ ?_
  rotate_left
  · (intro w' hSw; (try dsimp only at hSw); go_simp; try with_reducible rfl)
  try simp only [Act.put, List.setIfInBounds_toArray, List.set_cons_zero, List.set_cons_succ]
  refine held_take (v := ?_) (at_drop rfl) rfl rfl ?_ ?_
  rotate_left
  · (intro w' hSw; (try dsimp only at hSw); go_simp; try with_reducible rfl)
  try simp only [Act.put, List.setIfInBounds_toArray, List.set_cons_zero, List.set_cons_succ]
  refine held_take (v := ?_) (at_drop rfl) rfl rfl ?_ ?_
  rotate_left
  · (intro w' hSw; (try dsimp only at hSw); go_simp; try with_reducible rfl)
  try simp only [Act.put, List.setIfInBounds_toArray, List.set_cons_zero, List.set_cons_succ]
  refine held_take (v := ?_) (at_drop rfl) rfl rfl ?_ ?_
  rotate_left
  · (intro w' hSw; (try dsimp only at hSw); go_simp; try with_reducible rfl)
  try simp only [Act.put, List.setIfInBounds_toArray, List.set_cons_zero, List.set_cons_succ]
  refine held_take (v := ?_) (at_drop rfl) rfl rfl ?_ ?_
  rotate_left
  · (intro w' hSw; (try dsimp only at hSw); go_simp; try with_reducible rfl)
  try simp only [Act.put, List.setIfInBounds_toArray, List.set_cons_zero, List.set_cons_succ]
  refine held_take (v := ?_) (at_drop rfl) rfl rfl ?_ ?_
  rotate_left
  · (intro w' hSw; (try dsimp only at hSw); go_simp; try with_reducible rfl)
  try simp only [Act.put, List.setIfInBounds_toArray, List.set_cons_zero, List.set_cons_succ]
  refine held_take (v := ?_) (at_drop rfl) rfl rfl ?_ ?_
  rotate_left
  · (intro w' hSw; (try dsimp only at hSw); go_simp; try with_reducible rfl)
  try simp only [Act.put, List.setIfInBounds_toArray, List.set_cons_zero, List.set_cons_succ]
  refine held_take (v := ?_) (at_drop rfl) rfl rfl ?_ ?_
  rotate_left
  · (intro w' hSw; (try dsimp only at hSw); go_simp; try with_reducible rfl)
  try simp only [Act.put, List.setIfInBounds_toArray, List.set_cons_zero, List.set_cons_succ]
  refine held_take (v := ?_) (at_drop rfl) rfl rfl ?_ ?_
  rotate_left
  · (intro w' hSw; (try dsimp only at hSw); go_simp; try with_reducible rfl)
  try simp only [Act.put, List.setIfInBounds_toArray, List.set_cons_zero, List.set_cons_succ]
  refine held_take (v := ?_) (at_drop rfl) rfl rfl ?_ ?_
  rotate_left
  · (intro w' hSw; (try dsimp only at hSw); go_simp; try with_reducible rfl)
  try simp only [Act.put, List.setIfInBounds_toArray, List.set_cons_zero, List.set_cons_succ]
  refine held_take (v := ?_) (at_drop rfl) rfl rfl ?_ ?_
  rotate_left
  · (intro w' hSw; (try dsimp only at hSw); go_simp; try with_reducible rfl)
  try simp only [Act.put, List.setIfInBounds_toArray, List.set_cons_zero, List.set_cons_succ]
  refine held_take (v := ?_) (at_drop rfl) rfl rfl ?_ ?_
  rotate_left
  · (intro w' hSw; (try dsimp only at hSw); go_simp; try with_reducible rfl)
  try simp only [Act.put, List.setIfInBounds_toArray, List.set_cons_zero, List.set_cons_succ]
  refine held_take (v := ?_) (at_drop rfl) rfl rfl ?_ ?_
  rotate_left
  · (intro w' hSw; (try dsimp only at hSw); go_simp; try with_reducible rfl)
  try simp only [Act.put, List.setIfInBounds_toArray, List.set_cons_zero, List.set_cons_succ]
  refine held_op (at_drop rfl) rfl rfl (fun K hK => ?_)
  go_simp
  (go_at_call 35; ((with_reducible refine (made_vB _ _ _ _).mono ?_); rintro e wm ⟨rfl, hB⟩))
  refine hK.out _ _ ?_ (fun hNew => ?_)
  · first | exact head_step hB hHeld | exact head_step (below_al _ _) hHeld | exact head_step (below_dr _) hHeld
  clear hHeld hK K
  have hHeld := hNew
  clear hNew
  try simp only [Act.put, List.setIfInBounds_toArray, List.set_cons_zero, List.set_cons_succ]
  refine held_take (v := ?_) (at_drop rfl) rfl rfl ?_ ?_
  rotate_left
  · (intro w' hSw; (try dsimp only at hSw); go_simp; try with_reducible rfl)
  try simp only [Act.put, List.setIfInBounds_toArray, List.set_cons_zero, List.set_cons_succ]
  refine held_take (v := ?_) (at_drop rfl) rfl rfl ?_ ?_
  rotate_left
  · (intro w' hSw; (try dsimp only at hSw); go_simp; try with_reducible rfl)
  try simp only [Act.put, List.setIfInBounds_toArray, List.set_cons_zero, List.set_cons_succ]
  refine held_take (v := ?_) (at_drop rfl) rfl rfl ?_ ?_
  rotate_left
  · (intro w' hSw; (try dsimp only at hSw); go_simp; try with_reducible rfl)
  try simp only [Act.put, List.setIfInBounds_toArray, List.set_cons_zero, List.set_cons_succ]
  refine held_take (v := ?_) (at_drop rfl) rfl rfl ?_ ?_
  rotate_left
  · (intro w' hSw; (try dsimp only at hSw); go_simp; try with_reducible rfl)
  try simp only [Act.put, List.setIfInBounds_toArray, List.set_cons_zero, List.set_cons_succ]
  refine held_take (v := ?_) (at_drop rfl) rfl rfl ?_ ?_
  rotate_left
  · (intro w' hSw; (try dsimp only at hSw); go_simp; try with_reducible rfl)
  try simp only [Act.put, List.setIfInBounds_toArray, List.set_cons_zero, List.set_cons_succ]
  refine held_take (v := ?_) (at_drop rfl) rfl rfl ?_ ?_
  rotate_left
  · (intro w' hSw; (try dsimp only at hSw); go_simp; try with_reducible rfl)
  try simp only [Act.put, List.setIfInBounds_toArray, List.set_cons_zero, List.set_cons_succ]
  refine held_take (v := ?_) (at_drop rfl) rfl rfl ?_ ?_
  rotate_left
  · (intro w' hSw; (try dsimp only at hSw); go_simp; try with_reducible rfl)
  try simp only [Act.put, List.setIfInBounds_toArray, List.set_cons_zero, List.set_cons_succ]
  refine held_take (v := ?_) (at_drop rfl) rfl rfl ?_ ?_
  rotate_left
  · (intro w' hSw; (try dsimp only at hSw); go_simp; try with_reducible rfl)
  try simp only [Act.put, List.setIfInBounds_toArray, List.set_cons_zero, List.set_cons_succ]
  refine held_take (v := ?_) (at_drop rfl) rfl rfl ?_ ?_
  rotate_left
  · (intro w' hSw; (try dsimp only at hSw); go_simp; try with_reducible rfl)
  try simp only [Act.put, List.setIfInBounds_toArray, List.set_cons_zero, List.set_cons_succ]
  refine held_take (v := ?_) (at_drop rfl) rfl rfl ?_ ?_
  rotate_left
  · (intro w' hSw; (try dsimp only at hSw); go_simp; try with_reducible rfl)
  try simp only [Act.put, List.setIfInBounds_toArray, List.set_cons_zero, List.set_cons_succ]
  refine held_take (v := ?_) (at_drop rfl) rfl rfl ?_ ?_
  rotate_left
  · (intro w' hSw; (try dsimp only at hSw); go_simp; try with_reducible rfl)
  try simp only [Act.put, List.setIfInBounds_toArray, List.set_cons_zero, List.set_cons_succ]
  refine held_take (v := ?_) (at_drop rfl) rfl rfl ?_ ?_
  rotate_left
  · (intro w' hSw; (try dsimp only at hSw); go_simp; try with_reducible rfl)
  try simp only [Act.put, List.setIfInBounds_toArray, List.set_cons_zero, List.set_cons_succ]
  refine held_take (v := ?_) (at_drop rfl) rfl rfl ?_ ?_
  rotate_left
  · (intro w' hSw; (try dsimp only at hSw); go_simp; try with_reducible rfl)
  try simp only [Act.put, List.setIfInBounds_toArray, List.set_cons_zero, List.set_cons_succ]
  refine held_take (v := ?_) (at_drop rfl) rfl rfl ?_ ?_
  rotate_left
  · (intro w' hSw; (try dsimp only at hSw); go_simp; try with_reducible rfl)
  try simp only [Act.put, List.setIfInBounds_toArray, List.set_cons_zero, List.set_cons_succ]
  refine held_take (v := ?_) (at_drop rfl) rfl rfl ?_ ?_
  rotate_left
  · (intro w' hSw; (try dsimp only at hSw); go_simp; try with_reducible rfl)
  try simp only [Act.put, List.setIfInBounds_toArray, List.set_cons_zero, List.set_cons_succ]
  refine held_take (v := ?_) (at_drop rfl) rfl rfl ?_ ?_
  rotate_left
  · (intro w' hSw; (try dsimp only at hSw); go_simp; try with_reducible rfl)
  try simp only [Act.put, List.setIfInBounds_toArray, List.set_cons_zero, List.set_cons_succ]
  refine held_take (v := ?_) (at_drop rfl) rfl rfl ?_ ?_
  rotate_left
  · (intro w' hSw; (try dsimp only at hSw); go_simp; try with_reducible rfl)
  try simp only [Act.put, List.setIfInBounds_toArray, List.set_cons_zero, List.set_cons_succ]
  refine held_take (v := ?_) (at_drop rfl) rfl rfl ?_ ?_
  rotate_left
  · (intro w' hSw; (try dsimp only at hSw); go_simp; try with_reducible rfl)
  try simp only [Act.put, List.setIfInBounds_toArray, List.set_cons_zero, List.set_cons_succ]
  refine held_op (at_drop rfl) rfl rfl (fun K hK => ?_)
  go_simp
  refine hK.out _ _ ?_ (fun hNew => ?_)
  · first | exact head_step hB hHeld | exact head_step (below_al _ _) hHeld | exact head_step (below_dr _) hHeld
  clear hHeld hK K
  have hHeld := hNew
  clear hNew
  try simp only [Act.put, List.setIfInBounds_toArray, List.set_cons_zero, List.set_cons_succ]
  refine held_op (at_drop rfl) rfl rfl (fun K hK => ?_)
  go_simp
  (go_at_call 22; ((with_reducible refine (h_sameD _ _ _ ?_ ?_).mono ?_); (focus (repeat' (first | with_reducible assumption | exact HeadS.v hHeld.1 | ((with_reducible refine new_dotsV _ rowsL _ 2 ?_ ?_ okL ?_); (focus rfl); (focus rfl); (focus decide)) | with_reducible refine DotsV.al ?_ _ | with_reducible refine DotsV.dr ?_ | with_reducible refine DotsV.keep ?_ (by assumption)))); (focus (repeat' (first | with_reducible assumption | exact HeadS.v hHeld.1 | ((with_reducible refine new_dotsV _ rowsL _ 2 ?_ ?_ okL ?_); (focus rfl); (focus rfl); (focus decide)) | with_reducible refine DotsV.al ?_ _ | with_reducible refine DotsV.dr ?_ | with_reducible refine DotsV.keep ?_ (by assumption)))); rintro e wm ⟨rfl, hB⟩))
  refine hK.out _ _ ?_ (fun hNew => ?_)
  · first | exact head_step hB hHeld | exact head_step (below_al _ _) hHeld | exact head_step (below_dr _) hHeld
  clear hHeld hK K
  have hHeld := hNew
  clear hNew
  try simp only [Act.put, List.setIfInBounds_toArray, List.set_cons_zero, List.set_cons_succ]
  refine held_take (v := ?_) (at_drop rfl) rfl rfl ?_ ?_
  rotate_left
  · (intro w' hSw; (try dsimp only at hSw); go_simp; try with_reducible rfl)
  try simp only [Act.put, List.setIfInBounds_toArray, List.set_cons_zero, List.set_cons_succ]
  refine held_take (v := ?_) (at_drop rfl) rfl rfl ?_ ?_
  rotate_left
  · (intro w' hSw; (try dsimp only at hSw); go_simp; try with_reducible rfl)
  try simp only [Act.put, List.setIfInBounds_toArray, List.set_cons_zero, List.set_cons_succ]
  refine held_take (v := ?_) (at_drop rfl) rfl rfl ?_ ?_
  rotate_left
  · (intro w' hSw; (try dsimp only at hSw); go_simp; try with_reducible rfl)
  try simp only [Act.put, List.setIfInBounds_toArray, List.set_cons_zero, List.set_cons_succ]
  refine held_take (v := ?_) (at_drop rfl) rfl rfl ?_ ?_
  rotate_left
  · (intro w' hSw; (try dsimp only at hSw); go_simp; try with_reducible rfl)
  try simp only [Act.put, List.setIfInBounds_toArray, List.set_cons_zero, List.set_cons_succ]
  refine held_take (v := ?_) (at_drop rfl) rfl rfl ?_ ?_
  rotate_left
  · (intro w' hSw; (try dsimp only at hSw); go_simp; try with_reducible rfl)
  try simp only [Act.put, List.setIfInBounds_toArray, List.set_cons_zero, List.set_cons_succ]
  refine held_take (v := ?_) (at_drop rfl) rfl rfl ?_ ?_
  rotate_left
  · (intro w' hSw; (try dsimp only at hSw); go_simp; try with_reducible rfl)
  try simp only [Act.put, List.setIfInBounds_toArray, List.set_cons_zero, List.set_cons_succ]
  refine held_op (at_drop rfl) rfl rfl (fun K hK => ?_)
  go_simp
  (go_at_call 35; ((with_reducible refine (made_vB _ _ _ _).mono ?_); rintro e wm ⟨rfl, hB⟩))
  refine hK.out _ _ ?_ (fun hNew => ?_)
  · first | exact head_step hB hHeld | exact head_step (below_al _ _) hHeld | exact head_step (below_dr _) hHeld
  clear hHeld hK K
  have hHeld := hNew
  clear hNew
  try simp only [Act.put, List.setIfInBounds_toArray, List.set_cons_zero, List.set_cons_succ]
  refine held_op (at_drop rfl) rfl rfl (fun K hK => ?_)
  go_simp
  (go_at_call 17; ((with_reducible refine (h_count _).mono ?_); rintro e wm ⟨rfl, hB⟩))
  refine hK.out _ _ ?_ (fun hNew => ?_)
  · first | exact head_step hB hHeld | exact head_step (below_al _ _) hHeld | exact head_step (below_dr _) hHeld
  clear hHeld hK K
  have hHeld := hNew
  clear hNew
  try simp only [Act.put, List.setIfInBounds_toArray, List.set_cons_zero, List.set_cons_succ]
  refine held_take (v := ?_) (at_drop rfl) rfl rfl ?_ ?_
  rotate_left
  · (intro w' hSw; (try dsimp only at hSw); go_simp; try with_reducible rfl)
  try simp only [Act.put, List.setIfInBounds_toArray, List.set_cons_zero, List.set_cons_succ]
  refine held_take (v := ?_) (at_drop rfl) rfl rfl ?_ ?_
  rotate_left
  · (intro w' hSw; (try dsimp only at hSw); go_simp; try with_reducible rfl)
  try simp only [Act.put, List.setIfInBounds_toArray, List.set_cons_zero, List.set_cons_succ]
  refine held_take (v := ?_) (at_drop rfl) rfl rfl ?_ ?_
  rotate_left
  · (intro w' hSw; (try dsimp only at hSw); go_simp; try with_reducible rfl)
  try simp only [Act.put, List.setIfInBounds_toArray, List.set_cons_zero, List.set_cons_succ]
  refine held_op (at_drop rfl) rfl rfl (fun K hK => ?_)
  go_simp
  (go_at_call 35; ((with_reducible refine (made_vB _ _ _ _).mono ?_); rintro e wm ⟨rfl, hB⟩))
  refine hK.out _ _ ?_ (fun hNew => ?_)
  · first | exact head_step hB hHeld | exact head_step (below_al _ _) hHeld | exact head_step (below_dr _) hHeld
  clear hHeld hK K
  have hHeld := hNew
  clear hNew
  try simp only [Act.put, List.setIfInBounds_toArray, List.set_cons_zero, List.set_cons_succ]
  refine held_op (at_drop rfl) rfl rfl (fun K hK => ?_)
  go_simp
  (go_at_call 35; ((with_reducible refine (made_vB _ _ _ _).mono ?_); rintro e wm ⟨rfl, hB⟩))
  refine hK.out _ _ ?_ (fun hNew => ?_)
  · first | exact head_step hB hHeld | exact head_step (below_al _ _) hHeld | exact head_step (below_dr _) hHeld
  clear hHeld hK K
  have hHeld := hNew
  clear hNew
  try simp only [Act.put, List.setIfInBounds_toArray, List.set_cons_zero, List.set_cons_succ]
  refine held_op (at_drop rfl) rfl rfl (fun K hK => ?_)
  go_simp
  (go_at_call 35; ((with_reducible refine (made_vB _ _ _ _).mono ?_); rintro e wm ⟨rfl, hB⟩))
  refine hK.out _ _ ?_ (fun hNew => ?_)
  · first | exact head_step hB hHeld | exact head_step (below_al _ _) hHeld | exact head_step (below_dr _) hHeld
  clear hHeld hK K
  have hHeld := hNew
  clear hNew
  try simp only [Act.put, List.setIfInBounds_toArray, List.set_cons_zero, List.set_cons_succ]
  refine held_op (at_drop rfl) rfl rfl (fun K hK => ?_)
  go_simp
  (go_at_call 35; ((with_reducible refine (made_vB _ _ _ _).mono ?_); rintro e wm ⟨rfl, hB⟩))
  refine hK.out _ _ ?_ (fun hNew => ?_)
  · first | exact head_step hB hHeld | exact head_step (below_al _ _) hHeld | exact head_step (below_dr _) hHeld
  clear hHeld hK K
  have hHeld := hNew
  clear hNew
  try simp only [Act.put, List.setIfInBounds_toArray, List.set_cons_zero, List.set_cons_succ]
  refine held_op (at_drop rfl) rfl rfl (fun K hK => ?_)
  go_simp
  refine hK.out _ _ ?_ (fun hNew => ?_)
  · first | exact head_step hB hHeld | exact head_step (below_al _ _) hHeld | exact head_step (below_dr _) hHeld
  clear hHeld hK K
  have hHeld := hNew
  clear hNew
  try simp only [Act.put, List.setIfInBounds_toArray, List.set_cons_zero, List.set_cons_succ]
  refine held_op (at_drop rfl) rfl rfl (fun K hK => ?_)
  go_simp
  (go_at_call 29; ((with_reducible refine (h_tops _ _ ?_).mono ?_); (focus (repeat' (first | with_reducible assumption | ((with_reducible refine new_vecsV _ _ rowsB _ 4 ?_ ?_ ?_ okB ?_); (focus (first | rfl | (simp; done))); (focus rfl); (focus rfl); (focus decide)) | with_reducible refine VecsV.al ?_ _ | with_reducible refine VecsV.dr ?_ | with_reducible refine VecsV.keep ?_ (by assumption)))); rintro e wm ⟨u, rfl, hu, hB⟩))
  refine hK.out _ _ ?_ (fun hNew => ?_)
  · first | exact head_step hB hHeld | exact head_step (below_al _ _) hHeld | exact head_step (below_dr _) hHeld
  clear hHeld hK K
  have hHeld := hNew
  clear hNew
  try simp only [Act.put, List.setIfInBounds_toArray, List.set_cons_zero, List.set_cons_succ]
  refine held_op (at_drop rfl) rfl rfl (fun K hK => ?_)
  go_simp
  (go_at_call 35; ((with_reducible refine (made_vB _ _ _ _).mono ?_); rintro e wm ⟨rfl, hB⟩))
  refine hK.out _ _ ?_ (fun hNew => ?_)
  · first | exact head_step hB hHeld | exact head_step (below_al _ _) hHeld | exact head_step (below_dr _) hHeld
  clear hHeld hK K
  have hHeld := hNew
  clear hNew
  try simp only [Act.put, List.setIfInBounds_toArray, List.set_cons_zero, List.set_cons_succ]
  refine held_op (at_drop rfl) rfl rfl (fun K hK => ?_)
  go_simp
  (go_at_call 35; ((with_reducible refine (made_vB _ _ _ _).mono ?_); rintro e wm ⟨rfl, hB⟩))
  refine hK.out _ _ ?_ (fun hNew => ?_)
  · first | exact head_step hB hHeld | exact head_step (below_al _ _) hHeld | exact head_step (below_dr _) hHeld
  clear hHeld hK K
  have hHeld := hNew
  clear hNew
  try simp only [Act.put, List.setIfInBounds_toArray, List.set_cons_zero, List.set_cons_succ]
  refine held_op (at_drop rfl) rfl rfl (fun K hK => ?_)
  go_simp
  refine hK.out _ _ ?_ (fun hNew => ?_)
  · first | exact head_step hB hHeld | exact head_step (below_al _ _) hHeld | exact head_step (below_dr _) hHeld
  clear hHeld hK K
  have hHeld := hNew
  clear hNew
  try simp only [Act.put, List.setIfInBounds_toArray, List.set_cons_zero, List.set_cons_succ]
  refine held_op (at_drop rfl) rfl rfl (fun K hK => ?_)
  go_simp
  (go_at_call 28; ((with_reducible refine (h_sameV _ _ _ ?_ ?_).mono ?_); (focus (repeat' (first | with_reducible assumption | ((with_reducible refine new_vecsV _ _ rowsC _ 2 ?_ ?_ ?_ okC ?_); (focus (first | rfl | (simp; done))); (focus rfl); (focus rfl); (focus decide)) | with_reducible refine VecsV.al ?_ _ | with_reducible refine VecsV.dr ?_ | with_reducible refine VecsV.keep ?_ (by assumption)))); (focus (repeat' (first | with_reducible assumption | ((with_reducible refine new_vecsV _ _ rowsC _ 2 ?_ ?_ ?_ okC ?_); (focus (first | rfl | (simp; done))); (focus rfl); (focus rfl); (focus decide)) | with_reducible refine VecsV.al ?_ _ | with_reducible refine VecsV.dr ?_ | with_reducible refine VecsV.keep ?_ (by assumption)))); rintro e wm ⟨rfl, hB⟩))
  refine hK.out _ _ ?_ (fun hNew => ?_)
  · first | exact head_step hB hHeld | exact head_step (below_al _ _) hHeld | exact head_step (below_dr _) hHeld
  clear hHeld hK K
  have hHeld := hNew
  clear hNew
  try simp only [Act.put, List.setIfInBounds_toArray, List.set_cons_zero, List.set_cons_succ]
  refine held_take (v := ?_) (at_drop rfl) rfl rfl ?_ ?_
  rotate_left
  · (intro w' hSw; (try dsimp only at hSw); go_simp; try with_reducible rfl)
  try simp only [Act.put, List.setIfInBounds_toArray, List.set_cons_zero, List.set_cons_succ]
  refine held_take (v := ?_) (at_drop rfl) rfl rfl ?_ ?_
  rotate_left
  · (intro w' hSw; (try dsimp only at hSw); go_simp; try with_reducible rfl)
  try simp only [Act.put, List.setIfInBounds_toArray, List.set_cons_zero, List.set_cons_succ]
  refine NoPanic.normal ?_
  obtain ⟨hs, _⟩ := hHeld
  have hend := HB5.out.trans (hs.below.mono HB5.out.size)

  go_wp2
  go_ret
  exact ⟨rfl, hend⟩

end Go.Proofs.Ytckfdjfcikljaaa
