/-
  The law OpChecks.
-/
import Derived.Test.YtdhdfngaldfdjaaDoorOQ
namespace Go.Proofs.YtdhdfngaldfdjaaDoor.V
set_option linter.unusedVariables false
set_option linter.unusedSimpArgs false
set_option maxRecDepth 100000
open Go Go.RowKit Go.Maps Wire

theorem w64 {z : Int} (h : -9223372036854775808 ≤ z) (h' : z < 9223372036854775808) : wrap64 z = z := by
  unfold wrap64; omega

set_option maxHeartbeats 1000000 in
theorem law_OpChecks (o : OpM) (hok : okO o) (l : List Claim) (n : Int) (hn : n < 9223372036854775808) (d : Dot) (w : World) (hv : ClaimsV w o.lv l) (hT : Tab w) :
    Calls Tryd.prog 3 #[.agg (oc o), .int .i64 n, .agg #[.int .u8 (d.1 : Int), .int .u32 (d.2 : Int)]] w
      fun e w' => e = .returned (.bool true) ∧ Below w.heap.size w w' := by
  obtain ⟨e, he⟩ : ∃ e, checkM o l n = e := ⟨_, rfl⟩
  have k1 := fun W hV hT => op_Check o hok l n W hV hT
  have k2 := fun W hV => ref_Check o hok l n W hV
  rw [he] at k1 k2
  have hvals := checkM_vals o l n
  have hmore := check_more o l n
  rw [he] at hvals hmore
  have HM := hid (And.intro hvals hmore)
  have hq : ((e : Int) != e) = false := by simp
  have hb : ∀ b : Bool, ((b : Bool) != b) = false := by intro b; cases b <;> rfl
  have HE := hid he
  clear he hvals hmore
  go_enter Tryd.func3, Tryd.ntmps3
  have HW0 := hid (below_al2 w (.cells (oc o) 30) (.cells #[.int .u8 (d.1 : Int), .int .u32 (d.2 : Int)] 24))
  have hO0 : OpAt ((w.alloc (.cells (oc o) 30)).alloc (.cells #[.int .u8 (d.1 : Int), .int .u32 (d.2 : Int)] 24)) w.heap.size o := (opAt_new w o).al _
  have HO0 := hid hO0
  have hD0 := last2 w (.cells (oc o) 30) (.cells #[.int .u8 (d.1 : Int), .int .u32 (d.2 : Int)] 24)
  have HD0 := hid hD0
  clear hO0 hD0
  go_upto_region 2 with (first
    | (refine load_op rfl _ rfl w.heap.size rfl _ HO0.out ?_)
    | (go_at_call 7; (with_reducible refine (k1 _ (hv.keep HW0.out) (hT.keep HW0.out)).mono ?_); rintro e w1 ⟨rfl, hB1⟩; have HO1 := hid (HO0.out.keep hB1); have HD1 := hid (heap_keep HD0.out hB1); have HB1 := hid (below_next HW0.out hB1); clear hB1 HO0 HD0 HW0))
  have k3 := fun W => op_Covers o d W
  have k4 := fun W => ref_Covers o d W
  generalize covB o.dep d = b at k3 k4
  have hbb := hb b
  refine wp_region_later_n (by kernel_rfl) (by kernel_rfl) ?_
  intro wd hwd
  have hw1 : Below w1.heap.size w1 wd := by rw [hwd]; first | exact Below.refl _ _ | exact below_dr _
  clear hwd
  have HBd := hid (below_next HB1.out hw1)
  have HOd := hid (HO1.out.keep hw1)
  have hv4 := fun p : Later wd.heap.size wd => hv.keep (below_next HBd.out p.ok)
  have fl : ∀ w', (∃ p : Later wd.heap.size wd, w' = p.val) → OpAt w' w.heap.size o := by rintro _ ⟨p, rfl⟩; exact HOd.out.keep p.ok
  have FL := hid fl
  have d0 := fun p : Later wd.heap.size wd => cell_keep (below_next hw1 p.ok) (cells2 HD1.out).1
  have d1 := fun p : Later wd.heap.size wd => cell_keep (below_next hw1 p.ok) (cells2 HD1.out).2
  clear hw1 fl hb
  repeat (first | (go_big_quiet_want; refine quiet_ld _ rfl w.heap.size rfl o FL.out ?_; simp only [Act.put, List.setIfInBounds_toArray, List.set_cons_zero, List.set_cons_succ]; go_big_quiet_on) | go_big_quiet_step (first | (go_at_call 8; with_reducible exact Calls.later_of (Nat.le_refl _) (k2 _ (hv4 _))) | (go_at_call 9; with_reducible exact Calls.later_of (Nat.le_refl _) (k3 _)) | (go_at_call 10; with_reducible exact Calls.later_of (Nat.le_refl _) (k4 _))))
  refine wpQuiet_nil ?_
  rintro _ ⟨p, rfl⟩
  have HB2 := hid (below_next HBd.out p.ok)
  have HO2 := hid (HOd.out.keep p.ok)
  generalize p.val = w2 at HB2 HO2
  clear d0 d1 hv4 hbb hq k2 k3 k4
  have HV2 := hid (hv.keep HB2.out)
  have HT2 := hid (hT.keep HB2.out)
  rcases HM.out.1 with h0 | h0 | h0
  · subst h0
    by_cases h8 : n < 8
    · have t8 : decide (8 ≤ n) = false := decide_eq_false (by omega)
      obtain ⟨hn1, hmo⟩ := HM.out.2 rfl h8
      have k5 := fun W hV hT => op_Check o hok l (n + 1) W hV hT
      rw [hmo] at k5
      have hwr : wrap64 (n + 1) = n + 1 := w64 (by omega) (by omega)
      clear hmo
      go_wp2_with (first
        | (refine load_op rfl _ rfl w.heap.size rfl _ HO2.out ?_)
        | (go_at_call 7; (with_reducible refine (k5 _ HV2.out HT2.out).mono ?_); rintro e w3 ⟨rfl, hB3⟩; have HB3 := hid (below_next HB2.out hB3); clear hB3)
        | (go_at_call 11; (with_reducible refine (law_head _ (hT.keep HB3.out)).mono ?_); rintro e w4 ⟨rfl, hB4⟩; have HB4 := hid (below_next HB3.out hB4); clear hB4))
      go_ret
      exact ⟨rfl, HB4.out⟩
    · have t8 : decide (8 ≤ n) = true := decide_eq_true (by omega)
      go_wp2_with (first
        | (go_at_call 11; (with_reducible refine (law_head _ HT2.out).mono ?_); rintro e w4 ⟨rfl, hB4⟩; have HB4 := hid (below_next HB2.out hB4); clear hB4))
      go_ret
      exact ⟨rfl, HB4.out⟩
  · subst h0
    go_wp2_with (first
      | (go_at_call 11; (with_reducible refine (law_head _ HT2.out).mono ?_); rintro e w4 ⟨rfl, hB4⟩; have HB4 := hid (below_next HB2.out hB4); clear hB4))
    go_ret
    exact ⟨rfl, HB4.out⟩
  · subst h0
    go_wp2_with (first
      | (go_at_call 11; (with_reducible refine (law_head _ HT2.out).mono ?_); rintro e w4 ⟨rfl, hB4⟩; have HB4 := hid (below_next HB2.out hB4); clear hB4))
    go_ret
    exact ⟨rfl, HB4.out⟩

end Go.Proofs.YtdhdfngaldfdjaaDoor.V
