/-
  The document's History: the walk.
-/
import Derived.Test.YtagdapmnghnphaaDoorZHT5
namespace Go.Proofs.YtagdapmnghnphaaDoor.V
set_option linter.unusedVariables false
set_option linter.unusedSimpArgs false
set_option maxRecDepth 100000
open Go Go.RowKit Go.Maps Wire

set_option maxHeartbeats 600000 in
theorem ref_History (v : Value) (l : List OC) (nr : Int) (W0 : World) (hv : OpsV W0 v l) :
    Calls Tryd.prog 26 #[v, .int .i64 nr] W0 fun e w' => e = .returned (.int .i64 (histM nr l)) ∧ Below W0.heap.size W0 w' := by
  by_cases h1 : nr < 1
  · rw [histM_arg (.inl h1)]
    go_enter Tryd.func26, Tryd.ntmps26
    go_wp2
    go_ret
    exact ⟨rfl, Below.refl _ _⟩
  · by_cases h8 : 8 < nr
    · rw [histM_arg (.inr h8)]
      go_enter Tryd.func26, Tryd.ntmps26
      go_wp2
      go_ret
      exact ⟨rfl, Below.refl _ _⟩
    · obtain ⟨a, n, cp, rfl, hI⟩ := hv
      have HN := hid (show n = l.length from hI.1.symm)
      have hm : n ≤ 9223372036854775807 := Nat.le_trans hI.2.1 hI.2.2.1
      have HI := hid hI
      have HNR := hid (show 1 ≤ nr ∧ nr ≤ 8 from ⟨by omega, by omega⟩)
      clear hI
      go_enter Tryd.func26, Tryd.ntmps26
      go_wp2
      clear h1 h8
      go_loopw [5] (fun i wr => ∃ k : Nat, k ≤ n ∧ i = .int .i64 (k : Nat) ∧ Hid (∀ y ∈ l.take k, checkM y.1 y.2 nr = 0) ∧ Hid (Below W0.heap.size W0 wr)) (fun i _ => n - (intOf i).toNat)
      case atStart => exact ⟨0, by omega, rfl, hid (by rw [List.take_zero]; exact fun y hy => by cases hy), hid (Below.refl _ _)⟩
      case round =>
        obtain ⟨k, hk, rfl, HA, HB⟩ := hrel
        by_cases hlt : k < n
        · cases a with
          | none => have := HI.out.none_len; omega
          | some ad =>
            obtain ⟨o, cl', hx, hok, hcl, hin⟩ := (HI.out.keep HB.out).at k hlt
            have HX := hid hx
            have HXI := hid hin
            have hch := ref_Check o hok cl' nr wr hcl
            obtain ⟨c, hc⟩ : ∃ c, checkM o cl' nr = c := ⟨_, rfl⟩
            rw [hc] at hch
            have HC := hid hc
            have h1 : (k : Int) < (n : Int) := by omega
            clear hx hok hcl hin hc
            by_cases z : c = 0
            · subst z
              go_wp2_with (first
                | (refine load_opIn _ rfl rfl (ad.add (k * 29)) rfl o HXI.out ?_)
                | (go_at_call 44; refine hch.mono ?_; rintro e w1 ⟨rfl, hb⟩; have HB1 := hid (below_next HB.out hb); clear hb hch))
              go_roundw
              case rel => exact ⟨k + 1, by omega, by go_num, hid (by
                rw [take_snocO HX.out]
                intro q hq
                rcases List.mem_append.1 hq with hq | hq
                · exact HA.out q hq
                · rw [List.mem_singleton] at hq; subst hq; exact HC.out), HB1⟩
              case measure => exact meas1 hlt
            · have e3 : (c == 0) = false := by simpa using z
              have e4 : (c != 0) = true := by simpa using z
              have HF := hid (show histM nr l = 5 by
                unfold histM
                rw [if_neg (by have := HNR.out; omega), if_neg (fun h => z (by rw [← HC.out]; exact h _ (List.mem_of_getElem? HX.out)))])
              clear z
              go_wp2_with (first
                | (refine load_opIn _ rfl rfl (ad.add (k * 29)) rfl o HXI.out ?_)
                | (go_at_call 44; refine hch.mono ?_; rintro e w1 ⟨rfl, hb⟩; have HB1 := hid (below_next HB.out hb); clear hb hch))
              go_ret
              exact ⟨by rw [HF.out]; rfl, HB1.out⟩
        · have hkn : k = n := by omega
          have HOK := hid (show okAll nr l from fun y hy => HA.out y (by rw [List.take_of_length_le (by have := HN.out; omega)]; exact hy))
          have hkn' : (k : Int) = (n : Int) := by omega
          simp only [hkn']
          clear HA hkn hkn' hlt hk k
          have hone : IsHist l ↔ ∀ o ∈ l, OneP l o := hist_one HNR.out.1 HNR.out.2 HOK.out
          have HONE := hid hone
          clear hone
          go_wp2
          go_loopw [6] (fun i wr => ∃ k : Nat, k ≤ n ∧ i = .int .i64 (k : Nat) ∧ Hid (∀ y ∈ l.take k, OneP l y) ∧ Hid (Below W0.heap.size W0 wr)) (fun i _ => n - (intOf i).toNat)
          case atStart => exact ⟨0, by omega, rfl, hid (by rw [List.take_zero]; exact fun y hy => by cases hy), HB⟩
          case round =>
            clear HB
            obtain ⟨k, hk, rfl, HA, HB⟩ := hrel
            by_cases hlt : k < n
            · cases a with
              | none => have := HI.out.none_len; omega
              | some ad =>
                obtain ⟨o, cl', hx, hok, hcl, hin⟩ := (HI.out.keep HB.out).at k hlt
                have HX := hid hx
                have HXI := hid hin
                have hch := ref_one (.slice (some ad) n cp) l (o, cl') wr ⟨some ad, n, cp, rfl, HI.out.keep HB.out⟩ hok
                obtain ⟨c, hc⟩ : ∃ c, decide (OneP l (o, cl')) = c := ⟨_, rfl⟩
                rw [hc] at hch
                have HC := hid hc
                have h1 : (k : Int) < (n : Int) := by omega
                clear hx hok hcl hin hc
                cases c
                · have HF := hid (show histM nr l = 9 by
                    unfold histM
                    rw [if_neg (by have := HNR.out; omega), if_pos HOK.out, if_neg (fun h => of_decide_eq_false HC.out (HONE.out.1 h _ (List.mem_of_getElem? HX.out)))])
                  go_wp2_with (first
                    | (refine load_opIn _ rfl rfl (ad.add (k * 29)) rfl o HXI.out ?_)
                    | (go_at_call 45; refine hch.mono ?_; rintro e w1 ⟨rfl, hb⟩; have HB1 := hid (below_next HB.out hb); clear hb hch))
                  go_ret
                  exact ⟨by rw [HF.out]; rfl, HB1.out⟩
                · go_wp2_with (first
                    | (refine load_opIn _ rfl rfl (ad.add (k * 29)) rfl o HXI.out ?_)
                    | (go_at_call 45; refine hch.mono ?_; rintro e w1 ⟨rfl, hb⟩; have HB1 := hid (below_next HB.out hb); clear hb hch))
                  go_roundw
                  case rel => exact ⟨k + 1, by omega, by go_num, hid (by
                    rw [take_snocO HX.out]
                    intro q hq
                    rcases List.mem_append.1 hq with hq | hq
                    · exact HA.out q hq
                    · rw [List.mem_singleton] at hq; subst hq; exact of_decide_eq_true HC.out), HB1⟩
                  case measure => exact meas1 hlt
            · obtain rfl : k = n := by omega
              have HF := hid (show histM nr l = 0 by
                unfold histM
                rw [if_neg (by have := HNR.out; omega), if_pos HOK.out, if_pos (HONE.out.2 fun o ho => HA.out o (by rw [List.take_of_length_le (by have := HN.out; omega)]; exact ho))])
              go_wp2
              go_ret
              exact ⟨by rw [HF.out]; rfl, HB.out⟩
end Go.Proofs.YtagdapmnghnphaaDoor.V
