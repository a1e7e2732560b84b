/-
  The law VectorRows.
-/
import Derived.Test.YtckfdjfcikljaaaVH
namespace Go.Proofs.Ytckfdjfcikljaaa
set_option linter.unusedVariables false
set_option linter.unusedSimpArgs false
open Go Go.RowKit Go.Maps
attribute [local go_sem ↓] Go.wp_at_zero Go.wp_at_succ

theorem r_Tops (v : Value) (l : List Vec) (w : World) (hv : VecsV w v l) (hl : l.length ≤ 100000) :
    Calls Try.prog 30 #[v] w fun e w' => ∃ u, e = .returned u ∧ VecsV w' u (topsAt l l.length) ∧ Below w.heap.size w w' := by
  have hok : ∀ u ∈ l, okV u := by obtain ⟨a, len, cap, _, hI⟩ := hv; exact hI.2.2.2.1
  rw [tops_ref hok]
  exact ref_Tops v l w hv hl

/-- What the laws' head does. -/
abbrev HeadOk : Prop := ∀ W, Calls Try.prog 23 #[] W fun e w' => e = .returned (.bool true) ∧ Below W.heap.size W w'

set_option maxHeartbeats 4000000 in
set_option maxRecDepth 100000 in
theorem law_VectorRows (hhead : HeadOk) (v : Value) (xs : List Vec) (w : World) (hv : VecsV w v xs) :
    Calls Try.prog 4 #[v] w fun e w' => e = .returned (.bool true) ∧ Below w.heap.size w w' := by
  obtain ⟨ad, len, cap, rfl, hI⟩ := hv
  have hcap : len ≤ 9223372036854775807 := by have := hI.2.1; have := hI.2.2.1; unfold maxLen at this; omega
  have hlen := hI.1
  have HV := hid (show VecsV w (.slice ad len cap) xs from ⟨_, _, _, rfl, hI⟩)
  clear hI
  by_cases hbig : 60 < len
  · have hb' : (60 : Int) < len := by omega
    go_enter Try.func4, Try.ntmps4
    go_wp2_with (go_at_call 23; (with_reducible refine (hhead _).mono ?_); rintro e w1 ⟨rfl, hB⟩)
    go_ret
    exact ⟨rfl, hB⟩
  · have hb' : ¬ (60 : Int) < len := by omega
    have hl : xs.length ≤ 100000 := by omega
    have hM1 := fun W h => vec_Merge (.slice ad len cap) xs W h
    have hM2 := fun W h => ref_Merge (.slice ad len cap) xs W h
    have hM3 := fun W h => vec_Meet (.slice ad len cap) xs W h
    have hM4 := fun W h => ref_Meet (.slice ad len cap) xs W h
    have hT1 := fun W h => vec_Tops (.slice ad len cap) xs W h hl
    have hT2 := fun W h => r_Tops (.slice ad len cap) xs W h hl
    have hS := fun v1 v2 W h1 h2 => ref_SameT v1 v2 (topsAt xs xs.length) W h1 h2
    generalize comb mx xs = up at hM1 hM2
    generalize comb mn xs = dn at hM3 hM4
    generalize topsAt xs xs.length = tt at hT1 hT2 hS
    have q1 := fun W => eqlV (eqV_refl up) W
    have q2 := fun W => eqlV (eqV_refl dn) W
    go_enter Try.func4, Try.ntmps4
    go_wp2_with (first
      | (go_at_call 24; (with_reducible refine (hM1 _ HV.out).mono ?_); rintro e w1 ⟨rfl, hB⟩; have HB1 := hid hB; clear hB)
      | (go_at_call 25; (with_reducible refine (hM2 _ (HV.out.keep HB1.out)).mono ?_); rintro e w2 ⟨rfl, hB⟩; have HB2 := hid (HB1.out.trans (hB.mono HB1.out.size)); clear hB)
      | (go_at_call 26; (with_reducible refine (hM3 _ (HV.out.keep HB2.out)).mono ?_); rintro e w3 ⟨rfl, hB⟩; have HB3 := hid (HB2.out.trans (hB.mono HB2.out.size)); clear hB)
      | (go_at_call 27; (with_reducible refine (hM4 _ (HV.out.keep HB3.out)).mono ?_); rintro e w4 ⟨rfl, hB⟩; have HB4 := hid (HB3.out.trans (hB.mono HB3.out.size)); clear hB)
      | (go_at_call 29; (with_reducible refine (hT1 _ (HV.out.keep HB4.out)).mono ?_); rintro e w5 ⟨u5, rfl, hu5, hB⟩; have HU5 := hid hu5; have HB5 := hid (HB4.out.trans (hB.mono HB4.out.size)); clear hB hu5)
      | (go_at_call 30; (with_reducible refine (hT2 _ (HV.out.keep HB5.out)).mono ?_); rintro e w6 ⟨u6, rfl, hu6, hB⟩; have HU6 := hid hu6; have HU56 := hid (HU5.out.keep hB); have HB6 := hid (HB5.out.trans (hB.mono HB5.out.size)); clear hB hu6)
      | (go_at_call 28; (with_reducible refine (hS _ _ _ HU56.out HU6.out).mono ?_); rintro e w7 ⟨rfl, hB⟩; have HB7 := hid (HB6.out.trans (hB.mono HB6.out.size)); clear hB)
      | (go_at_call 23; (with_reducible refine (hhead _).mono ?_); rintro e w8 ⟨rfl, hB⟩))
    go_ret
    exact ⟨rfl, HB7.out.trans (hB.mono HB7.out.size)⟩

end Go.Proofs.Ytckfdjfcikljaaa
