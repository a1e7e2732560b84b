/-
  The law DotSets: what is made of rows of dots.
-/
import Derived.Test.YtmjmgjdklhdcdaaHead
import Derived.Test.YtmjmgjdklhdcdaaArg
namespace Go.Proofs.Ytmjmgjdklhdcdaa
set_option linter.unusedVariables false
set_option linter.unusedSimpArgs false
open Go Go.RowKit

theorem IsDots.v {w : World} {a : Option Addr} {len cap : Nat} {z : List Dot} (h : IsDots w a len cap z) : DotsV w (.slice a len cap) z := ⟨_, _, _, rfl, h⟩

set_option maxHeartbeats 8000000 in
theorem law_DotSets (a0 : Option Addr) (len0 cap0 : Nat) (z0 : List Dot) (a1 : Option Addr) (len1 cap1 : Nat) (z1 : List Dot) (w : World) (w0 : IsDots w a0 len0 cap0 z0) (w1 : IsDots w a1 len1 cap1 z1) :
    Calls Try.prog 5 #[.slice a0 len0 cap0, .slice a1 len1 cap1] w fun e w' => e = .returned (.bool true) ∧ Below w.heap.size w w' := by
  have hv0 := hid w0.v
  have hv1 := hid w1.v
  have hl0 : z0.length = len0 := w0.1
  have hl1 : z1.length = len1 := w1.1
  clear w0 w1
  by_cases hb : 60 < len0 ∨ 60 < len1
  · have hhead := law_head
    rcases hb with h | h
    · have h' : (60 : Int) < (len0 : Int) := by omega
      go_enter Try.func5, Try.ntmps5
      go_wp2_with fail
      refine (law_head _).mono ?_
      rintro e w4 ⟨rfl, hB4⟩
      go_wp2
      go_ret
      exact ⟨rfl, hB4⟩
    · have h' : (60 : Int) < (len1 : Int) := by omega
      by_cases h2 : 60 < len0
      · have h2' : (60 : Int) < (len0 : Int) := by omega
        go_enter Try.func5, Try.ntmps5
        go_wp2_with fail
        refine (law_head _).mono ?_
        rintro e w4 ⟨rfl, hB4⟩
        go_wp2
        go_ret
        exact ⟨rfl, hB4⟩
      · have h2' : ¬ (60 : Int) < (len0 : Int) := by omega
        go_enter Try.func5, Try.ntmps5
        go_wp2_with fail
        refine (law_head _).mono ?_
        rintro e w4 ⟨rfl, hB4⟩
        go_wp2
        go_ret
        exact ⟨rfl, hB4⟩
  · have h1 : ¬ (60 : Int) < (len0 : Int) := by omega
    have h2 : ¬ (60 : Int) < (len1 : Int) := by omega
    have n0 : z0.length ≤ 400000 := by omega
    have n1 : z1.length ≤ 400000 := by omega
    clear hb hl0 hl1
    go_enter Try.func5, Try.ntmps5
    go_wp2_with fail
    refine (p_Sort _ z0 _ hv0.out n0).mono ?_
    rintro e w10 ⟨u1, rfl, hu1, hB1⟩
    have B1 := hid hB1
    go_wp2_with fail
    refine (q_Sort _ z0 _ (hv0.out.keep B1.out) n0).mono ?_
    rintro e w11 ⟨u2, rfl, hu2, hB2⟩
    have B2 := hid (B1.out.trans (hB2.mono B1.out.size))
    clear B1
    go_wp2_with fail
    refine (same_true _ _ (can z0) _ (hu1.keep hB2) hu2).mono ?_
    rintro e w12 ⟨rfl, hB3⟩
    have B3 := hid (B2.out.trans (hB3.mono B2.out.size))
    clear B2
    clear hu1 hB1 hu2 hB2 hB3
    go_wp2_with fail
    refine (p_Union _ _ z0 z1 _ (hv0.out.keep B3.out) (hv1.out.keep B3.out) n0 n1).mono ?_
    rintro e w13 ⟨u4, rfl, hu4, hB4⟩
    have B4 := hid (B3.out.trans (hB4.mono B3.out.size))
    clear B3
    go_wp2_with fail
    refine (q_Union _ _ z0 z1 _ (hv0.out.keep B4.out) (hv1.out.keep B4.out) n0 n1).mono ?_
    rintro e w14 ⟨u5, rfl, hu5, hB5⟩
    have B5 := hid (B4.out.trans (hB5.mono B4.out.size))
    clear B4
    go_wp2_with fail
    refine (same_true _ _ (uniD z0 z1) _ (hu4.keep hB5) hu5).mono ?_
    rintro e w15 ⟨rfl, hB6⟩
    have B6 := hid (B5.out.trans (hB6.mono B5.out.size))
    clear B5
    clear hu4 hB4 hu5 hB5 hB6
    go_wp2_with fail
    refine (p_Both _ _ z0 z1 _ (hv0.out.keep B6.out) (hv1.out.keep B6.out) n0 n1).mono ?_
    rintro e w16 ⟨u7, rfl, hu7, hB7⟩
    have B7 := hid (B6.out.trans (hB7.mono B6.out.size))
    clear B6
    go_wp2_with fail
    refine (q_Both _ _ z0 z1 _ (hv0.out.keep B7.out) (hv1.out.keep B7.out) n0 n1).mono ?_
    rintro e w17 ⟨u8, rfl, hu8, hB8⟩
    have B8 := hid (B7.out.trans (hB8.mono B7.out.size))
    clear B7
    go_wp2_with fail
    refine (same_true _ _ (bothD z0 z1) _ (hu7.keep hB8) hu8).mono ?_
    rintro e w18 ⟨rfl, hB9⟩
    have B9 := hid (B8.out.trans (hB9.mono B8.out.size))
    clear B8
    clear hu7 hB7 hu8 hB8 hB9
    go_wp2_with fail
    refine (p_Minus _ _ z0 z1 _ (hv0.out.keep B9.out) (hv1.out.keep B9.out) n0 n1).mono ?_
    rintro e w19 ⟨u10, rfl, hu10, hB10⟩
    have B10 := hid (B9.out.trans (hB10.mono B9.out.size))
    clear B9
    go_wp2_with fail
    refine (q_Minus _ _ z0 z1 _ (hv0.out.keep B10.out) (hv1.out.keep B10.out) n0 n1).mono ?_
    rintro e w20 ⟨u11, rfl, hu11, hB11⟩
    have B11 := hid (B10.out.trans (hB11.mono B10.out.size))
    clear B10
    go_wp2_with fail
    refine (same_true _ _ (lessD z0 z1) _ (hu10.keep hB11) hu11).mono ?_
    rintro e w21 ⟨rfl, hB12⟩
    have B12 := hid (B11.out.trans (hB12.mono B11.out.size))
    clear B11
    clear hu10 hB10 hu11 hB11 hB12
    go_wp2_with fail
    refine (law_head _).mono ?_
    rintro e w22 ⟨rfl, hB13⟩
    have B13 := hid (B12.out.trans (hB13.mono B12.out.size))
    clear B12
    go_wp2
    go_ret
    exact ⟨rfl, B13.out⟩

end Go.Proofs.Ytmjmgjdklhdcdaa
