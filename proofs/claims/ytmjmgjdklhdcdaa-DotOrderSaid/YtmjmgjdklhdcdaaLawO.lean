/-
  The law DotOrder: dots' order is one.
-/
import Derived.Test.YtmjmgjdklhdcdaaOrdW
import Derived.Test.YtmjmgjdklhdcdaaOrdM
namespace Go.Proofs.Ytmjmgjdklhdcdaa
set_option linter.unusedVariables false
set_option linter.unusedSimpArgs false
open Go Go.RowKit

set_option maxHeartbeats 2000000 in
theorem law_DotOrder (x0 x1 x2 : Dot) (w : World) (w0 : x0.ok) (w1 : x1.ok) (w2 : x2.ok) :
    Calls Try.prog 7 #[.agg #[.int .u8 (x0.1 : Int), .int .u32 (x0.2 : Int)], .agg #[.int .u8 (x1.1 : Int), .int .u32 (x1.2 : Int)], .agg #[.int .u8 (x2.1 : Int), .int .u32 (x2.2 : Int)]] w fun e w' => e = .returned (.bool true) ∧ Below w.heap.size w w' := by
  obtain ⟨r0, n0⟩ := x0
  obtain ⟨r1, n1⟩ := x1
  obtain ⟨r2, n2⟩ := x2
  by_cases hlt : ltD (r1, n1) (r0, n0)
  · have x1 : cmpD (r0, n0) (r1, n1) = 1 := cmpD_gt hlt
    have x2 : cmpD (r1, n1) (r0, n0) = -1 := cmpD_lt hlt
    have hne : (r0, n0) ≠ (r1, n1) := fun e => ltD_irrefl _ (e ▸ hlt)
    have heq := fun W => eql_no hne W
    have g1 := cmpC (r0, n0) (r1, n1) _ x1
    have g2 := cmpC (r1, n1) (r0, n0) _ x2
    dsimp only at g1 g2
    cases h0 : mayD (r0, n0)
    · skip
      have ka := keyC (r0, n0) w0 _ (keyE_no h0)
      have kb := keyC (r1, n1) w1 _ rfl
      dsimp only at ka kb
      exact ord_p_n_2e1_ne w g1 g2 ka kb heq 
    · cases h1 : mayD (r1, n1)
      · skip
        have ka := keyC (r0, n0) w0 _ (keyE_yes h0)
        have kb := keyC (r1, n1) w1 _ (keyE_no h1)
        dsimp only at ka kb
        exact ord_p_n_02_ne w g1 g2 ka kb heq 
      · have hkne := key_ne hne h0 h1
        by_cases hr : r0 = r1
        · subst hr
          have ka := keyC (r0, n0) w0 _ (keyE_yes h0)
          have kb := keyC (r0, n1) w1 _ (keyE_yes h1)
          dsimp only at ka kb
          exact ord_p_n_00_same w g1 g2 ka kb heq hkne (key_ge h0 h1 hlt)
        · have hrr : ((r0 : Int) == (r1 : Int)) = false := by simp; omega
          have ka := keyC (r0, n0) w0 _ (keyE_yes h0)
          have kb := keyC (r1, n1) w1 _ (keyE_yes h1)
          dsimp only at ka kb
          exact ord_p_n_00_ne w g1 g2 ka kb heq hkne hrr
  by_cases hlt' : ltD (r0, n0) (r1, n1)
  · have hlt := hlt'
    clear hlt'
    have x1 : cmpD (r0, n0) (r1, n1) = -1 := cmpD_lt hlt
    have x2 : cmpD (r1, n1) (r0, n0) = 1 := cmpD_gt hlt
    have hne : (r0, n0) ≠ (r1, n1) := fun e => ltD_irrefl (r0, n0) (by rw [← e] at hlt; exact hlt)
    have heq := fun W => eql_no hne W
    have g1 := cmpC (r0, n0) (r1, n1) _ x1
    have g2 := cmpC (r1, n1) (r0, n0) _ x2
    have g3 := cmpC (r1, n1) (r2, n2) _ rfl
    have g4 := cmpC (r0, n0) (r2, n2) _ rfl
    dsimp only at g1 g2 g3 g4
    by_cases hy : cmpD (r1, n1) (r2, n2) ≤ 0
    · have hz : ¬ 0 < cmpD (r0, n0) (r2, n2) := cmp_le_trans (by omega) hy
      cases h0 : mayD (r0, n0)
      · skip
        have ka := keyC (r0, n0) w0 _ (keyE_no h0)
        have kb := keyC (r1, n1) w1 _ rfl
        dsimp only at ka kb
        exact ord_m_le_2e1_ne w g1 g2 g3 g4 ka kb heq hy hz 
      · cases h1 : mayD (r1, n1)
        · skip
          have ka := keyC (r0, n0) w0 _ (keyE_yes h0)
          have kb := keyC (r1, n1) w1 _ (keyE_no h1)
          dsimp only at ka kb
          exact ord_m_le_02_ne w g1 g2 g3 g4 ka kb heq hy hz 
        · have hkne := key_ne hne h0 h1
          by_cases hr : r0 = r1
          · subst hr
            have ka := keyC (r0, n0) w0 _ (keyE_yes h0)
            have kb := keyC (r0, n1) w1 _ (keyE_yes h1)
            dsimp only at ka kb
            exact ord_m_le_00_same w g1 g2 g3 g4 ka kb heq hy hz hkne (key_lt h0 h1 hlt)
          · have hrr : ((r0 : Int) == (r1 : Int)) = false := by simp; omega
            have ka := keyC (r0, n0) w0 _ (keyE_yes h0)
            have kb := keyC (r1, n1) w1 _ (keyE_yes h1)
            dsimp only at ka kb
            exact ord_m_le_00_ne w g1 g2 g3 g4 ka kb heq hy hz hkne hrr
    · skip
      cases h0 : mayD (r0, n0)
      · skip
        have ka := keyC (r0, n0) w0 _ (keyE_no h0)
        have kb := keyC (r1, n1) w1 _ rfl
        dsimp only at ka kb
        exact ord_m_gt_2e1_ne w g1 g2 g3 ka kb heq hy 
      · cases h1 : mayD (r1, n1)
        · skip
          have ka := keyC (r0, n0) w0 _ (keyE_yes h0)
          have kb := keyC (r1, n1) w1 _ (keyE_no h1)
          dsimp only at ka kb
          exact ord_m_gt_02_ne w g1 g2 g3 ka kb heq hy 
        · have hkne := key_ne hne h0 h1
          by_cases hr : r0 = r1
          · subst hr
            have ka := keyC (r0, n0) w0 _ (keyE_yes h0)
            have kb := keyC (r0, n1) w1 _ (keyE_yes h1)
            dsimp only at ka kb
            exact ord_m_gt_00_same w g1 g2 g3 ka kb heq hy hkne (key_lt h0 h1 hlt)
          · have hrr : ((r0 : Int) == (r1 : Int)) = false := by simp; omega
            have ka := keyC (r0, n0) w0 _ (keyE_yes h0)
            have kb := keyC (r1, n1) w1 _ (keyE_yes h1)
            dsimp only at ka kb
            exact ord_m_gt_00_ne w g1 g2 g3 ka kb heq hy hkne hrr
  · obtain ⟨rfl, rfl⟩ : r0 = r1 ∧ n0 = n1 := Prod.mk.inj (ltD_total hlt' hlt)
    have x1 : cmpD (r0, n0) (r0, n0) = 0 := cmpD_same _
    have heq := fun W => eql_yes r0 n0 W
    have g1 := cmpC (r0, n0) (r0, n0) _ x1
    have g3 := cmpC (r0, n0) (r2, n2) _ rfl
    dsimp only at g1 g3
    by_cases hy : cmpD (r0, n0) (r2, n2) ≤ 0
    · have hz : ¬ 0 < cmpD (r0, n0) (r2, n2) := by omega
      cases h0 : mayD (r0, n0)
      · skip
        have ka := keyC (r0, n0) w0 _ (keyE_no h0)
        dsimp only at ka
        exact ord_o_le_2e1_ne w g1 g3 ka heq hy hz 
      · skip
        have ka := keyC (r0, n0) w0 _ (keyE_yes h0)
        dsimp only at ka
        exact ord_o_le_00_same w g1 g3 ka heq hy hz 
    · skip
      cases h0 : mayD (r0, n0)
      · skip
        have ka := keyC (r0, n0) w0 _ (keyE_no h0)
        dsimp only at ka
        exact ord_o_gt_2e1_ne w g1 g3 ka heq hy 
      · skip
        have ka := keyC (r0, n0) w0 _ (keyE_yes h0)
        dsimp only at ka
        exact ord_o_gt_00_same w g1 g3 ka heq hy 

end Go.Proofs.Ytmjmgjdklhdcdaa
