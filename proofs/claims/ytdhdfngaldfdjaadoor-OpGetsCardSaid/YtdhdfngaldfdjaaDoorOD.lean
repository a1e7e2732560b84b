/-
  The name of an operation; its lines.
-/
import Derived.Test.YtdhdfngaldfdjaaDoorOC
namespace Go.Proofs.YtdhdfngaldfdjaaDoor.V
set_option linter.unusedVariables false
set_option linter.unusedSimpArgs false
set_option maxRecDepth 100000
open Go Go.RowKit Go.Maps Go.Sort

def restB (v : Vec) (n : Nat) : Bool := (List.range 8).all fun k => decide (k < n) || decide (v k = 0)
theorem restB_iff {v : Vec} {n : Nat} : restB v n = true ↔ ∀ k, k < 8 → n ≤ k → v k = 0 := by
  simp only [restB, List.all_eq_true, List.mem_range, Bool.or_eq_true, decide_eq_true_eq]
  exact ⟨fun h k hk hn => (h k hk).resolve_left (by omega), fun h k hk => by
    by_cases hn : k < n
    · exact .inl hn
    · exact .inr (h k hk (by omega))⟩
theorem restB_false {v : Vec} {n : Nat} (h : ¬ ∀ k, k < 8 → n ≤ k → v k = 0) : restB v n = false := by
  cases hb : restB v n
  · rfl
  · exact absurd (restB_iff.1 hb) h
def nameM (o : OpM) (n : Nat) : Bool := decide (o.r < n) && (decide (o.n ≠ 0) && (decide (o.dep o.r = o.n - 1) && restB o.dep n))

set_option maxHeartbeats 2000000 in
theorem op_nameFits (o : OpM) (hok : okO o) (n : Nat) (hn1 : 1 ≤ n) (hn8 : n ≤ 8) (w : World) :
    Calls Tryd.prog 18 #[.agg (oc o), .int .i64 (n : Int)] w
      fun e w' => e = .returned (.bool (nameM o n)) ∧ Below w.heap.size w w' := by
  have hr256 := hok.r
  have hn32 := hok.n
  have hd32 := hok.dep.1 o.r
  have HOK := hid hok
  clear hok
  have hw1 : IntKind.i64.wrap (o.r : Int) = (o.r : Int) := by simp [IntKind.wrap, IntKind.bits, IntKind.signed]; omega
  unfold nameM
  go_enter Tryd.func18, Tryd.ntmps18
  go_wp2
  refine wp_region_later_n (by kernel_rfl) (by kernel_rfl) ?_
  intro wd hwd
  have HW := hid (show Below w.heap.size w wd by rw [hwd]; exact ((Below.refl _ _).alloc (Nat.le_refl _) _))
  have hO : OpAt wd w.heap.size o := by rw [hwd]; exact opAt_new w o
  have f0 := fun p : Later wd.heap.size wd => (OpAt.keep hO p.ok).c0
  have f1 := fun p : Later wd.heap.size wd => (OpAt.keep hO p.ok).c1
  have HO := hid hO
  clear hwd hO
  by_cases h1 : o.r < n
  · have h1' : decide (n ≤ o.r) = false := decide_eq_false (by omega)
    have hk := fun p : Later wd.heap.size wd => (HO.out.keep p.ok).dep (show o.r < 8 by omega)
    by_cases h2 : o.n = 0
    · have h2' : ((o.n : Int) == 0) = true := by simp [h2]
      have H2 := hid h2
      clear h2
      repeat (go_big_quiet_step (fail))
      refine wpQuiet_nil ?_
      rintro _ ⟨p, rfl⟩
      have HP := hid p.ok
      generalize p.val = w2 at HP
      clear f0 f1 hk
      go_wp2
      go_ret
      exact ⟨by simp [H2.out], HW.out.trans (HP.out.mono HW.out.size)⟩
    · have h2' : ((o.n : Int) == 0) = false := by simp [h2]
      have hs : IntKind.u32.wrap ((o.n : Int) - 1) = ((o.n - 1 : Nat) : Int) := by rw [wrap_u32]; omega
      have H2 := hid h2
      clear h2
      generalize hm : o.n - 1 = m at hs ⊢
      have HM := hid hm
      clear hm
      by_cases h3 : o.dep o.r = m
      · have h3' : (((o.dep o.r : Nat) : Int) != (m : Int)) = false := by simp [h3]
        have H3 := hid h3
        clear h3
        repeat (go_big_quiet_step (fail))
        refine wpQuiet_nil ?_
        rintro _ ⟨p, rfl⟩
        have HP := hid p.ok
        generalize p.val = w2 at HP
        clear f0 f1 hk h3' h2' h1' hw1 hs
        have hO2 : OpAt w2 w.heap.size o := HO.out.keep HP.out
        have HB := hid (HW.out.trans (HP.out.mono HW.out.size))
        have HO2 := hid hO2
        clear hO2
        go_wp2
        go_loopw [5] (fun i wr => ∃ k : Nat, n ≤ k ∧ k ≤ 8 ∧ i = .int .i64 k ∧ OpAt wr w.heap.size o ∧ (∀ j, n ≤ j → j < k → o.dep j = 0) ∧ Below w.heap.size w wr) (fun i _ => 8 - (intOf i).toNat)
        case atStart => exact ⟨n, Nat.le_refl _, hn8, rfl, HO2.out, fun j hj hj' => absurd hj (by omega), HB.out⟩
        case round =>
          obtain ⟨k, hk1, hk, rfl, hx, hall, hB⟩ := hrel
          by_cases hlt : k < 8
          · have c0 := hx.dep hlt
            have HX := hid (And.intro hx hall)
            clear hx hall
            by_cases hle : o.dep k = 0
            · have c1 : (((o.dep k : Nat) : Int) != 0) = false := by simp [hle]
              have HL := hid hle
              clear hle
              go_wp2
              go_roundw
              case rel =>
                refine ⟨k + 1, by omega, by omega, by go_num, HX.out.1, fun j hj hj' => ?_, hB⟩
                by_cases hjk : j = k
                · rw [hjk]; exact HL.out
                · exact HX.out.2 j hj (by omega)
              case measure => simp [intOf]; omega
            · have c1 : (((o.dep k : Nat) : Int) != 0) = true := by simp [hle]
              have HL := hid hle
              clear hle
              go_wp2
              go_ret
              refine ⟨?_, hB⟩
              have : restB o.dep n = false := restB_false (fun h => HL.out (h k hlt hk1))
              rw [this]; simp
          · obtain rfl : k = 8 := by omega
            have HX := hid hall
            clear hall
            go_wp2
            go_ret
            refine ⟨?_, hB⟩
            have : restB o.dep n = true := restB_iff.2 (fun j hj hj' => HX.out j hj' hj)
            rw [this]
            simp [h1, H2.out, H3.out, HM.out]
      · have h3' : (((o.dep o.r : Nat) : Int) != (m : Int)) = true := by simp; omega
        have H3 := hid h3
        clear h3
        repeat (go_big_quiet_step (fail))
        refine wpQuiet_nil ?_
        rintro _ ⟨p, rfl⟩
        have HP := hid p.ok
        generalize p.val = w2 at HP
        clear f0 f1 hk
        go_wp2
        go_ret
        exact ⟨by rw [show decide (o.dep o.r = o.n - 1) = false from decide_eq_false (by rw [HM.out]; exact H3.out)]; simp, HW.out.trans (HP.out.mono HW.out.size)⟩
  · have h1' : decide (n ≤ o.r) = true := decide_eq_true (by omega)
    repeat (go_big_quiet_step (fail))
    refine wpQuiet_nil ?_
    rintro _ ⟨p, rfl⟩
    have HP := hid p.ok
    generalize p.val = w2 at HP
    clear f0 f1
    go_wp2
    go_ret
    exact ⟨by simp [h1], HW.out.trans (HP.out.mono HW.out.size)⟩

end Go.Proofs.YtdhdfngaldfdjaaDoor.V
