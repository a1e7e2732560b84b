/-
  The document's Check.
-/
import Derived.Test.YtagdapmnghnphaaDoorMN
namespace Go.Proofs.YtagdapmnghnphaaDoor.V
set_option linter.unusedVariables false
set_option linter.unusedSimpArgs false
set_option maxRecDepth 100000
open Go Go.RowKit Go.Maps

set_option maxRecDepth 100000
set_option linter.unusedVariables false
set_option linter.unusedSimpArgs false
def badA (o : OpM) (l : List Claim) (n : Nat) : Prop := n ≤ o.r ∨ o.n = 0 ∨ o.dep o.r ≠ o.n - 1 ∨ o.tm < 1 ∨ 281474976710656 < o.tm ∨ o.who = 0 ∨ 8 < o.kd ∨ zeroM o l = false
instance (o : OpM) (l : List Claim) (n : Nat) : Decidable (badA o l n) := by unfold badA; infer_instance
def badB (o : OpM) (l : List Claim) (n : Nat) : Bool := decide (badA o l n)
def refB (o : OpM) : Bool := ((((((o.kd : Int) == 0) && !eqB (o.cr, o.cn) (o.r, o.n)) || (!((o.kd : Int) == 0) && !covB o.dep (o.cr, o.cn))) || (inS (letS o.kd) 99 && !covB o.dep (o.dr, o.dn))) || (inS (letS o.kd) 97 && !covB o.dep (o.ar, o.an))) || (inS (letS o.kd) 118 && !covB o.dep (o.vr, o.vn))
def refC (o : OpM) (l : List Claim) : Bool := (((inS (letS o.kd) 116 && (((((((o.to : Int) == 0) || decide ((o.ro : Int) < 1)) || decide (7 < (o.ro : Int))) || decide (7 < (o.de : Int))) || decide (1099511627776 < (o.cap : Int))))) || (inS (letS o.kd) 113 && (decide ((o.qt : Int) < 1) || decide (65535 < (o.qt : Int))))) || decide (16777215 < (o.pr : Int))) || (inS (letS o.kd) 108 && !okLB o.dep l)
def refIn (o : OpM) (l : List Claim) (n : Nat) : Int := if badB o l n = true then 5 else if restB o.dep n = false then 5 else if refB o = true then 5 else if refC o l = true then 5 else 0
def refM (o : OpM) (l : List Claim) (n : Int) : Int := if n < 1 then 2 else if 8 < n then 2 else refIn o l n.toNat

theorem load_op2 {ops : Array Oper} {rest : List Oper} {c : Oper} {a : Act} {w : World} {Q : Exit → Act → World → Prop} (x : Operand) (ho : c.op = .load 34 x) (hw : Region.wanted c (yielded ops a.tmps) = true)
    (g : Nat) (hx : a.eval x = .pointer (some ⟨g, 0, none⟩)) (o : OpM) (hg : OpAt w g o)
    (h : wpList Tryd.prog ops Q rest (a.put c.dst (.agg (oc o))) w) : wpList Tryd.prog ops Q (c :: rest) a w := load_op hw x ho g hx o hg h

set_option maxHeartbeats 3000000 in
theorem ref_Check_in (o : OpM) (hok : okO o) (l : List Claim) (n : Nat) (hn1 : 1 ≤ n) (hn8 : n ≤ 8) (w : World) (hv : ClaimsV w o.lv l) :
    Calls Tryd.prog 44 #[.agg (oc o), .int .i64 (n : Int)] w
      fun e w' => e = .returned (.int .i64 (refIn o l n)) ∧ Below w.heap.size w w' := by
  have hr256 := hok.r
  have hn32 := hok.n
  have hd32 := hok.dep.1 o.r
  have HOK := hid hok
  clear hok
  have hw1 : IntKind.i64.wrap (o.r : Int) = (o.r : Int) := by simp [IntKind.wrap, IntKind.bits, IntKind.signed]; omega
  have t1 : decide ((n : Int) < 1) = false := decide_eq_false (by omega)
  have t2 : decide (8 < (n : Int)) = false := decide_eq_false (by omega)
  obtain ⟨v, hval⟩ : ∃ v, refIn o l n = v := ⟨_, rfl⟩
  rw [hval]
  have HVAL := hid hval
  clear hval
  go_enter Tryd.func44, Tryd.ntmps44
  go_upto_region 3 with (fail)
  refine wp_region_later_n (by kernel_rfl) (by kernel_rfl) ?_
  intro wd hwd
  have hBd : Below w.heap.size w wd := by rw [hwd]; exact ((Below.refl _ _).alloc (Nat.le_refl _) _)
  have HW := hid hBd
  have hO : OpAt wd w.heap.size o := by rw [hwd]; exact opAt_new w o
  have f0 := fun p : Later wd.heap.size wd => (OpAt.keep hO p.ok).c0
  have f1 := fun p : Later wd.heap.size wd => (OpAt.keep hO p.ok).c1
  have f10 := fun p : Later wd.heap.size wd => (OpAt.keep hO p.ok).c10
  have f11 := fun p : Later wd.heap.size wd => (OpAt.keep hO p.ok).c11
  have f14 := fun p : Later wd.heap.size wd => (OpAt.keep hO p.ok).c14
  have fl : ∀ w', (∃ p : Later wd.heap.size wd, w' = p.val) → OpAt w' w.heap.size o := by rintro _ ⟨p, rfl⟩; exact hO.keep p.ok
  have FL := hid fl
  have hl4 := fun p : Later wd.heap.size wd => hv.keep (below_next hBd p.ok)
  have HO := hid hO
  clear hwd hO fl hBd t1 t2
  by_cases h1 : n ≤ o.r
  · have HBAD := hid (show badB o l n = true from decide_eq_true (Or.inl h1))
    have h1' : decide (n ≤ o.r) = true := decide_eq_true h1
    clear h1
    repeat (first | (go_big_quiet_want; refine quiet_ld _ rfl w.heap.size rfl o FL.out ?_; simp only [Act.put, List.setIfInBounds_toArray, List.set_cons_zero, List.set_cons_succ]; go_big_quiet_on) | go_big_quiet_step (fail))
    refine wpQuiet_nil ?_
    rintro _ ⟨p, rfl⟩
    have HP := hid p.ok
    generalize p.val = w2 at HP
    clear f0 f1 f10 f11 f14 h1'
    go_wp2
    go_ret
    exact ⟨by rw [← HVAL.out, refIn, HBAD.out]; rfl, HW.out.trans (HP.out.mono HW.out.size)⟩
  · have h1' : decide (n ≤ o.r) = false := decide_eq_false h1
    have h1a : o.r < 8 := by omega
    have hk := fun p : Later wd.heap.size wd => (HO.out.keep p.ok).dep h1a
    by_cases h2 : o.n = 0
    · have HBAD := hid (show badB o l n = true from decide_eq_true (Or.inr (Or.inl h2)))
      have h2' : ((o.n : Int) == 0) = true := by simp [h2]
      clear h1 h2
      repeat (first | (go_big_quiet_want; refine quiet_ld _ rfl w.heap.size rfl o FL.out ?_; simp only [Act.put, List.setIfInBounds_toArray, List.set_cons_zero, List.set_cons_succ]; go_big_quiet_on) | go_big_quiet_step (fail))
      refine wpQuiet_nil ?_
      rintro _ ⟨p, rfl⟩
      have HP := hid p.ok
      generalize p.val = w2 at HP
      clear f0 f1 f10 f11 f14 hk h1' h2'
      go_wp2
      go_ret
      exact ⟨by rw [← HVAL.out, refIn, HBAD.out]; rfl, HW.out.trans (HP.out.mono HW.out.size)⟩
    · have h2' : ((o.n : Int) == 0) = false := by simp [h2]
      have hs : IntKind.u32.wrap ((o.n : Int) - 1) = ((o.n - 1 : Nat) : Int) := by rw [wrap_u32]; omega
      have HS := hid hs
      by_cases h3 : o.dep o.r ≠ o.n - 1
      · have HBAD := hid (show badB o l n = true from decide_eq_true (Or.inr (Or.inr (Or.inl h3))))
        generalize hm : o.n - 1 = m at hs h3
        have h3' : (((o.dep o.r : Nat) : Int) != (m : Int)) = true := by simp; omega
        clear hm
        clear h1 h2 h3
        repeat (first | (go_big_quiet_want; refine quiet_ld _ rfl w.heap.size rfl o FL.out ?_; simp only [Act.put, List.setIfInBounds_toArray, List.set_cons_zero, List.set_cons_succ]; go_big_quiet_on) | go_big_quiet_step (fail))
        refine wpQuiet_nil ?_
        rintro _ ⟨p, rfl⟩
        have HP := hid p.ok
        generalize p.val = w2 at HP
        clear f0 f1 f10 f11 f14 hk hs h1' h2' h3'
        go_wp2
        go_ret
        exact ⟨by rw [← HVAL.out, refIn, HBAD.out]; rfl, HW.out.trans (HP.out.mono HW.out.size)⟩
      · have h3a := Decidable.not_not.1 h3
        generalize hm : o.n - 1 = m at hs h3a
        have h3' : (((o.dep o.r : Nat) : Int) != (m : Int)) = false := by simp [h3a]
        clear hm
        by_cases h4 : o.tm < 1
        · have HBAD := hid (show badB o l n = true from decide_eq_true (Or.inr (Or.inr (Or.inr (Or.inl h4)))))
          have h4' : decide ((o.tm : Int) < 1) = true := decide_eq_true (by omega)
          clear h1 h2 h3 h4
          repeat (first | (go_big_quiet_want; refine quiet_ld _ rfl w.heap.size rfl o FL.out ?_; simp only [Act.put, List.setIfInBounds_toArray, List.set_cons_zero, List.set_cons_succ]; go_big_quiet_on) | go_big_quiet_step (fail))
          refine wpQuiet_nil ?_
          rintro _ ⟨p, rfl⟩
          have HP := hid p.ok
          generalize p.val = w2 at HP
          clear f0 f1 f10 f11 f14 hk hs h1' h2' h3' h4'
          go_wp2
          go_ret
          exact ⟨by rw [← HVAL.out, refIn, HBAD.out]; rfl, HW.out.trans (HP.out.mono HW.out.size)⟩
        · have h4' : decide ((o.tm : Int) < 1) = false := decide_eq_false (by omega)
          by_cases h5 : 281474976710656 < o.tm
          · have HBAD := hid (show badB o l n = true from decide_eq_true (Or.inr (Or.inr (Or.inr (Or.inr (Or.inl h5))))))
            have h5' : decide (281474976710656 < (o.tm : Int)) = true := decide_eq_true (by omega)
            clear h1 h2 h3 h4 h5
            repeat (first | (go_big_quiet_want; refine quiet_ld _ rfl w.heap.size rfl o FL.out ?_; simp only [Act.put, List.setIfInBounds_toArray, List.set_cons_zero, List.set_cons_succ]; go_big_quiet_on) | go_big_quiet_step (fail))
            refine wpQuiet_nil ?_
            rintro _ ⟨p, rfl⟩
            have HP := hid p.ok
            generalize p.val = w2 at HP
            clear f0 f1 f10 f11 f14 hk hs h1' h2' h3' h4' h5'
            go_wp2
            go_ret
            exact ⟨by rw [← HVAL.out, refIn, HBAD.out]; rfl, HW.out.trans (HP.out.mono HW.out.size)⟩
          · have h5' : decide (281474976710656 < (o.tm : Int)) = false := decide_eq_false (by omega)
            by_cases h6 : o.who = 0
            · have HBAD := hid (show badB o l n = true from decide_eq_true (Or.inr (Or.inr (Or.inr (Or.inr (Or.inr (Or.inl h6)))))))
              have h6' : ((o.who : Int) == 0) = true := by simp [h6]
              clear h1 h2 h3 h4 h5 h6
              repeat (first | (go_big_quiet_want; refine quiet_ld _ rfl w.heap.size rfl o FL.out ?_; simp only [Act.put, List.setIfInBounds_toArray, List.set_cons_zero, List.set_cons_succ]; go_big_quiet_on) | go_big_quiet_step (fail))
              refine wpQuiet_nil ?_
              rintro _ ⟨p, rfl⟩
              have HP := hid p.ok
              generalize p.val = w2 at HP
              clear f0 f1 f10 f11 f14 hk hs h1' h2' h3' h4' h5' h6'
              go_wp2
              go_ret
              exact ⟨by rw [← HVAL.out, refIn, HBAD.out]; rfl, HW.out.trans (HP.out.mono HW.out.size)⟩
            · have h6' : ((o.who : Int) == 0) = false := by simp [h6]
              by_cases h7 : 8 < o.kd
              · have HBAD := hid (show badB o l n = true from decide_eq_true (Or.inr (Or.inr (Or.inr (Or.inr (Or.inr (Or.inr (Or.inl h7))))))))
                have h7' : decide (8 < (o.kd : Int)) = true := decide_eq_true (by omega)
                clear h1 h2 h3 h4 h5 h6 h7
                repeat (first | (go_big_quiet_want; refine quiet_ld _ rfl w.heap.size rfl o FL.out ?_; simp only [Act.put, List.setIfInBounds_toArray, List.set_cons_zero, List.set_cons_succ]; go_big_quiet_on) | go_big_quiet_step (fail))
                refine wpQuiet_nil ?_
                rintro _ ⟨p, rfl⟩
                have HP := hid p.ok
                generalize p.val = w2 at HP
                clear f0 f1 f10 f11 f14 hk hs h1' h2' h3' h4' h5' h6' h7'
                go_wp2
                go_ret
                exact ⟨by rw [← HVAL.out, refIn, HBAD.out]; rfl, HW.out.trans (HP.out.mono HW.out.size)⟩
              · have h7' : decide (8 < (o.kd : Int)) = false := decide_eq_false (by omega)
                have kz := fun W hW => ref_zero o l (show o.kd < 9 by omega) W hW
                have hkd9 : o.kd < 9 := by omega
                cases h8 : zeroM o l
                · rw [h8] at kz
                  have HBAD := hid (show badB o l n = true from decide_eq_true (Or.inr (Or.inr (Or.inr (Or.inr (Or.inr (Or.inr (Or.inr h8))))))))
                  clear h1 h2 h3 h3a h4 h5 h6 h7 h8 hkd9
                  repeat (first | (go_big_quiet_want; refine quiet_ld _ rfl w.heap.size rfl o FL.out ?_; simp only [Act.put, List.setIfInBounds_toArray, List.set_cons_zero, List.set_cons_succ]; go_big_quiet_on) | go_big_quiet_step ((go_at_call 62; with_reducible exact Calls.later_of (Nat.le_refl _) (kz _ (hl4 _)))))
                  refine wpQuiet_nil ?_
                  rintro _ ⟨p, rfl⟩
                  have HP := hid p.ok
                  generalize p.val = w2 at HP
                  clear f0 f1 f10 f11 f14 hk hs kz hl4 h1' h2' h3' h4' h5' h6' h7'
                  go_wp2
                  go_ret
                  exact ⟨by rw [← HVAL.out, refIn, HBAD.out]; rfl, HW.out.trans (HP.out.mono HW.out.size)⟩
                · rw [h8] at kz
                  have HBAD := hid (show badB o l n = false from decide_eq_false (by unfold badA; rw [h8]; rintro (h | h | h | h | h | h | h | h) <;> first | contradiction | cases h))
                  clear h1 h2 h3 h3a h4 h5 h6 h7 h8
                  repeat (first | (go_big_quiet_want; refine quiet_ld _ rfl w.heap.size rfl o FL.out ?_; simp only [Act.put, List.setIfInBounds_toArray, List.set_cons_zero, List.set_cons_succ]; go_big_quiet_on) | go_big_quiet_step ((go_at_call 62; with_reducible exact Calls.later_of (Nat.le_refl _) (kz _ (hl4 _)))))
                  refine wpQuiet_nil ?_
                  rintro _ ⟨p, rfl⟩
                  have HP := hid p.ok
                  generalize p.val = w2 at HP
                  clear f0 f1 f10 f11 f14 hk hs kz h1' h2' h3' h4' h5' h6' h7'
                  have HO2 := hid (HO.out.keep HP.out)
                  have HB2 := hid (HW.out.trans (HP.out.mono HW.out.size))
                  have HL4 := hid (And.intro hv hkd9)
                  clear HP HW HO FL hl4 hkd9 hv
                  go_wp2
                  go_loopw [5] (fun i wi => ∃ k : Nat, n ≤ k ∧ k ≤ 8 ∧ i = .int .i64 k ∧ OpAt wi w.heap.size o ∧ (∀ j, n ≤ j → j < k → o.dep j = 0) ∧ Below w.heap.size w wi) (fun i _ => 8 - (intOf i).toNat)
                  case atStart => exact ⟨n, Nat.le_refl _, hn8, rfl, HO2.out, fun j hj hj' => absurd hj (by omega), HB2.out⟩
                  case round =>
                    obtain ⟨k, hk1, hk, rfl, hx, hall, hB⟩ := hrel
                    by_cases hlt : k < 8
                    · have c0 := hx.dep hlt
                      have HX := hid (And.intro hx hall)
                      clear hx hall
                      by_cases hle : o.dep k = 0
                      · have c1 : (((o.dep k : Nat) : Int) != 0) = false := by simp [hle]
                        have HL := hid hle
                        clear hle
                        go_wp2
                        go_roundw
                        case rel =>
                          refine ⟨k + 1, by omega, by omega, by go_num, HX.out.1, fun j hj hj' => ?_, hB⟩
                          by_cases hjk : j = k
                          · rw [hjk]; exact HL.out
                          · exact HX.out.2 j hj (by omega)
                        case measure => simp [intOf]; omega
                      · have c1 : (((o.dep k : Nat) : Int) != 0) = true := by simp [hle]
                        have HL := hid hle
                        clear hle
                        go_wp2
                        go_ret
                        refine ⟨?_, hB⟩
                        have : restB o.dep n = false := restB_false (fun h => HL.out (h k hlt hk1))
                        rw [← HVAL.out, refIn, HBAD.out, this]; rfl
                    · obtain rfl : k = 8 := by omega
                      have HREST := hid (show restB o.dep n = true from restB_iff.2 (fun j hj hj' => hall j hj' hj))
                      clear hall
                      have c14 := hx.c14
                      have HX := hid hx
                      have HB := hid hB
                      clear hx hB
                      have hH := fun W => ref_Has o.kd HL4.out.2 W
                      obtain ⟨rb, hrb⟩ : ∃ b, refB o = b := ⟨_, rfl⟩
                      have HRB0 := hid hrb
                      unfold refB at hrb
                      obtain ⟨rc, hrc⟩ : ∃ b, refC o l = b := ⟨_, rfl⟩
                      have HRC0 := hid hrc
                      unfold refC at hrc
                      have HRB := hid hrb
                      have HRC := hid hrc
                      clear hrb hrc
                      have hsz : (letS o.kd).size ≤ 1000000 := by unfold letS; split <;> decide
                      have hin := fun c W => ref_in (letS o.kd) hsz c W
                      have hrb := HRB.out
                      have hrc := HRC.out
                      clear HRB HRC
                      generalize letS o.kd = s at hH hin hsz hrb hrc
                      have HRB := hid hrb
                      have HRC := hid hrc
                      clear hrb hrc
                      go_upto_region 11 with (first
                        | (go_at_call 63; (with_reducible refine (hH _).mono ?_); rintro e wa ⟨rfl, hBa⟩; have HPa := hid (HX.out.keep hBa); have HBa := hid (below_next HB.out hBa); clear hBa))
                      refine wp_region_lit ?_
                      clear c14 hH
                      obtain ⟨bt, hbt⟩ : ∃ b, inS s 116 = b := ⟨_, rfl⟩
                      have it : ∀ W, Calls Tryd.prog 65 #[.string s, .int .u8 116] W fun e w' => e = .returned (.bool bt) ∧ W = w' := fun W => hbt ▸ hin 116 W
                      obtain ⟨bc, hbc⟩ : ∃ b, inS s 99 = b := ⟨_, rfl⟩
                      have ic : ∀ W, Calls Tryd.prog 65 #[.string s, .int .u8 99] W fun e w' => e = .returned (.bool bc) ∧ W = w' := fun W => hbc ▸ hin 99 W
                      obtain ⟨ba, hba⟩ : ∃ b, inS s 97 = b := ⟨_, rfl⟩
                      have ia : ∀ W, Calls Tryd.prog 65 #[.string s, .int .u8 97] W fun e w' => e = .returned (.bool ba) ∧ W = w' := fun W => hba ▸ hin 97 W
                      obtain ⟨bv, hbv⟩ : ∃ b, inS s 118 = b := ⟨_, rfl⟩
                      have iv : ∀ W, Calls Tryd.prog 65 #[.string s, .int .u8 118] W fun e w' => e = .returned (.bool bv) ∧ W = w' := fun W => hbv ▸ hin 118 W
                      obtain ⟨bq, hbq⟩ : ∃ b, inS s 113 = b := ⟨_, rfl⟩
                      have iq : ∀ W, Calls Tryd.prog 65 #[.string s, .int .u8 113] W fun e w' => e = .returned (.bool bq) ∧ W = w' := fun W => hbq ▸ hin 113 W
                      obtain ⟨bl, hbl⟩ : ∃ b, inS s 108 = b := ⟨_, rfl⟩
                      have il : ∀ W, Calls Tryd.prog 65 #[.string s, .int .u8 108] W fun e w' => e = .returned (.bool bl) ∧ W = w' := fun W => hbl ▸ hin 108 W
                      obtain ⟨uk, huk⟩ : ∃ b, covB o.dep (o.cr, o.cn) = b := ⟨_, rfl⟩
                      have cvk := fun W => ref_Covers o (o.cr, o.cn) W
                      rw [huk] at cvk
                      dsimp only at cvk
                      obtain ⟨uc, huc⟩ : ∃ b, covB o.dep (o.dr, o.dn) = b := ⟨_, rfl⟩
                      have cvc := fun W => ref_Covers o (o.dr, o.dn) W
                      rw [huc] at cvc
                      dsimp only at cvc
                      obtain ⟨ua, hua⟩ : ∃ b, covB o.dep (o.ar, o.an) = b := ⟨_, rfl⟩
                      have cva := fun W => ref_Covers o (o.ar, o.an) W
                      rw [hua] at cva
                      dsimp only at cva
                      obtain ⟨uv, huv⟩ : ∃ b, covB o.dep (o.vr, o.vn) = b := ⟨_, rfl⟩
                      have cvv := fun W => ref_Covers o (o.vr, o.vn) W
                      rw [huv] at cvv
                      dsimp only at cvv
                      obtain ⟨uq, huq⟩ : ∃ b, eqB (o.cr, o.cn) (o.r, o.n) = b := ⟨_, rfl⟩
                      have hq := fun W => run_neq o.cr o.cn o.r o.n W
                      rw [huq] at hq
                      obtain ⟨ul, hul⟩ : ∃ b, okLB o.dep l = b := ⟨_, rfl⟩
                      have cvl := fun W hW => ref_lines o l W hW
                      rw [hul] at cvl
                      obtain ⟨z0, hz0⟩ : ∃ b, ((o.to : Int) == 0) = b := ⟨_, rfl⟩
                      obtain ⟨z1, hz1⟩ : ∃ b, decide ((o.ro : Int) < 1) = b := ⟨_, rfl⟩
                      obtain ⟨z2, hz2⟩ : ∃ b, decide (7 < (o.ro : Int)) = b := ⟨_, rfl⟩
                      obtain ⟨z3, hz3⟩ : ∃ b, decide (7 < (o.de : Int)) = b := ⟨_, rfl⟩
                      obtain ⟨z4, hz4⟩ : ∃ b, decide (1099511627776 < (o.cap : Int)) = b := ⟨_, rfl⟩
                      obtain ⟨z5, hz5⟩ : ∃ b, decide ((o.qt : Int) < 1) = b := ⟨_, rfl⟩
                      obtain ⟨z6, hz6⟩ : ∃ b, decide (65535 < (o.qt : Int)) = b := ⟨_, rfl⟩
                      obtain ⟨z7, hz7⟩ : ∃ b, decide (16777215 < (o.pr : Int)) = b := ⟨_, rfl⟩
                      obtain ⟨kz, hkz⟩ : ∃ b, ((o.kd : Int) == 0) = b := ⟨_, rfl⟩
                      have hkz2 : ((o.kd : Int) != 0) = !kz := by rw [← hkz]; rfl
                      have hrb := HRB.out
                      have hrc := HRC.out
                      clear HRB HRC
                      simp only [hbc, hba, hbv, hbt, hbq, hbl, huk, huc, hua, huv, huq, hul, hz0, hz1, hz2, hz3, hz4, hz5, hz6, hz7, hkz] at hrb hrc
                      clear hin hsz hbt hbc hba hbv hbq hbl huk huc hua huv huq hul
                      have HZ0 := hid hz0
                      have HZ1 := hid hz1
                      have HZ2 := hid hz2
                      have HZ3 := hid hz3
                      have HZ4 := hid hz4
                      have HZ5 := hid hz5
                      have HZ6 := hid hz6
                      have HZ7 := hid hz7
                      have HKZ := hid hkz
                      have HKZ2 := hid hkz2
                      have HQ := hid hq
                      clear hkz2 hq hz0 hz1 hz2 hz3 hz4 hz5 hz6 hz7 hkz
                      obtain ⟨e0, he0⟩ : ∃ e, e = ((kz && !uq) || (!kz && !uk)) := ⟨_, rfl⟩
                      simp only [← he0] at hrb
                      have HE0 := hid he0
                      clear he0
                      obtain ⟨e1, he1⟩ : ∃ e, e = (e0 || (bc && !uc)) := ⟨_, rfl⟩
                      simp only [← he1] at hrb
                      have HE1 := hid he1
                      clear he1
                      obtain ⟨e2, he2⟩ : ∃ e, e = (e1 || (ba && !ua)) := ⟨_, rfl⟩
                      simp only [← he2] at hrb
                      have HE2 := hid he2
                      clear he2
                      obtain ⟨e3, he3⟩ : ∃ e, e = (e2 || (bv && !uv)) := ⟨_, rfl⟩
                      simp only [← he3] at hrb
                      have HE3 := hid he3
                      clear he3
                      obtain ⟨f0, hf0⟩ : ∃ e, e = (bt && (((((z0 || z1) || z2) || z3) || z4))) := ⟨_, rfl⟩
                      simp only [← hf0] at hrc
                      have HF0 := hid hf0
                      clear hf0
                      obtain ⟨f1, hf1⟩ : ∃ e, e = (f0 || (bq && (z5 || z6))) := ⟨_, rfl⟩
                      simp only [← hf1] at hrc
                      have HF1 := hid hf1
                      clear hf1
                      obtain ⟨f2, hf2⟩ : ∃ e, e = (f1 || z7) := ⟨_, rfl⟩
                      simp only [← hf2] at hrc
                      have HF2 := hid hf2
                      clear hf2
                      obtain ⟨f3, hf3⟩ : ∃ e, e = (f2 || (bl && !ul)) := ⟨_, rfl⟩
                      simp only [← hf3] at hrc
                      have HF3 := hid hf3
                      clear hf3
                      have HRB := hid hrb
                      have HRC := hid hrc
                      clear hrb hrc
                      refine wp_merge 0 (fun K => ∀ x1 x3 x4 x5 x7 x8 x9 x10 x11 x12 x13 x14 x15 x16 x17 x18 x19 x20 x21 x22 x23 x24 x25 x26 x27 x28 x29 x30 x31 x32 x33 x34 x35 x36 x37 x38 x39 x40 x41 x42 x43 x44 x45 x46 x47 x48 x49 x50 x51 x52 x53 x54 x55 x56 x57 x58 x59 x60 x61 x62 x63 x64 x65 x66 x67 x68 x69 x70 x71 x72 x73 x74 x75 : Value, K ⟨#[.agg (oc o), x1, .pointer (some ⟨w.heap.size, 0, none⟩), x3, x4, x5, .string s, x7, x8, x9, x10, x11, x12, x13, x14, x15, x16, x17, x18, x19, x20, x21, x22, x23, x24, x25, x26, x27, x28, x29, x30, x31, x32, x33, x34, x35, x36, x37, x38, x39, x40, x41, x42, x43, x44, x45, x46, x47, x48, x49, x50, x51, x52, x53, x54, x55, x56, x57, x58, x59, x60, x61, x62, x63, x64, x65, x66, x67, x68, x69, x70, x71, x72, x73, x74, x75, undef, undef, undef, undef, undef, undef, undef, undef, undef, undef, undef, undef, undef, undef, undef, undef, undef, undef, undef, undef, undef, undef, undef, undef, undef, undef, undef, undef, undef, undef, undef, undef, undef, undef, undef, undef, undef, undef, undef, undef, undef, undef, undef, undef, undef, undef, undef, undef, undef, undef, undef, undef, undef, undef, undef, undef, undef, undef, undef, undef, undef, undef, undef, undef, undef, undef, undef, undef, undef, undef, undef, undef, undef, undef, undef, undef, undef, undef, undef, undef, undef, undef, undef, undef, undef, undef, undef, undef, undef, undef, undef, undef, undef, undef, undef, undef, undef, undef, undef, undef, undef, undef, undef, undef, undef, undef, undef, undef, undef, undef], []⟩ wa) (fun H => ?_) ?_
                      · dsimp only [List.drop] at H
                        with_reducible exact H _ _ _ _ _ _ _ _ _ _ _ _ _ _ _ _ _ _ _ _ _ _ _ _ _ _ _ _ _ _ _ _ _ _ _ _ _ _ _ _ _ _ _ _ _ _ _ _ _ _ _ _ _ _ _ _ _ _ _ _ _ _ _ _ _ _ _ _ _ _ _ _ _ 
                      intro x1 x3 x4 x5 x7 x8 x9 x10 x11 x12 x13 x14 x15 x16 x17 x18 x19 x20 x21 x22 x23 x24 x25 x26 x27 x28 x29 x30 x31 x32 x33 x34 x35 x36 x37 x38 x39 x40 x41 x42 x43 x44 x45 x46 x47 x48 x49 x50 x51 x52 x53 x54 x55 x56 x57 x58 x59 x60 x61 x62 x63 x64 x65 x66 x67 x68 x69 x70 x71 x72 x73 x74 x75
                      dsimp only [List.drop]
                      have HBM := hid (Below.refl wa.heap.size wa)
                      have HPM := hid HPa.out
                      refine wp_merge 23 (fun K => ∀ x76 x77 x78 x79 x80 x81 x82 x83 x84 x85 x86 x87 x88 x89 x90 x91 x92 x93 x94 x95 x96 : Value, ∀ wN : World, Below wa.heap.size wa wN → K ⟨#[.agg (oc o), x1, .pointer (some ⟨w.heap.size, 0, none⟩), x3, x4, x5, .string s, x7, x8, x9, x10, x11, x12, x13, x14, x15, x16, x17, x18, x19, x20, x21, x22, x23, x24, x25, x26, x27, x28, x29, x30, x31, x32, x33, x34, x35, x36, x37, x38, x39, x40, x41, x42, x43, x44, x45, x46, x47, x48, x49, x50, x51, x52, x53, x54, x55, x56, x57, x58, x59, x60, x61, x62, x63, x64, x65, x66, x67, x68, x69, x70, x71, x72, x73, x74, x75, x76, x77, x78, x79, x80, x81, x82, x83, x84, x85, x86, x87, x88, x89, x90, x91, x92, x93, x94, x95, x96, .bool e0, .bool e0, undef, undef, undef, undef, undef, undef, undef, undef, undef, undef, undef, undef, undef, undef, undef, undef, undef, undef, undef, undef, undef, undef, undef, undef, undef, undef, undef, undef, undef, undef, undef, undef, undef, undef, undef, undef, undef, undef, undef, undef, undef, undef, undef, undef, undef, undef, undef, undef, undef, undef, undef, undef, undef, undef, undef, undef, undef, undef, undef, undef, undef, undef, undef, undef, undef, undef, undef, undef, undef, undef, undef, undef, undef, undef, undef, undef, undef, undef, undef, undef, undef, undef, undef, undef, undef, undef, undef], []⟩ wN) (fun H => ?_) ?_
                      · dsimp only at H
                        simp only [List.drop_succ_cons, List.drop_zero, List.drop_nil] at H
                        have c0 := HPM.out.c0
                        have c1 := HPM.out.c1
                        have c12 := HPM.out.c12
                        have c13 := HPM.out.c13
                        have c14 := HPM.out.c14
                        cases kz
                        · have hkz := HKZ.out
                          have hkz2 := HKZ2.out
                          simp only [Bool.not_true, Bool.not_false] at hkz2
                          have hq := HQ.out
                          cases uk
                          · have : e0 = true := by rw [HE0.out]; rfl
                            subst this
                            go_upto_region 999 with (first | (first | (with_reducible exact H _ _ _ _ _ _ _ _ _ _ _ _ _ _ _ _ _ _ _ _ _ _ HBN.out) | (with_reducible exact H _ _ _ _ _ _ _ _ _ _ _ _ _ _ _ _ _ _ _ _ _ _ HBM.out)) | go_big_skip | (refine load_op2 _ rfl (by kernel_rfl) w.heap.size rfl _ (HPM.out) ?_) | (go_at_call 64; (with_reducible refine (cvk _).mono ?_); rintro e wN ⟨rfl, hBN⟩; have HBN := hid (below_next HBM.out hBN); clear hBN))
                          · have : e0 = false := by rw [HE0.out]; rfl
                            subst this
                            go_upto_region 999 with (first | (first | (with_reducible exact H _ _ _ _ _ _ _ _ _ _ _ _ _ _ _ _ _ _ _ _ _ _ HBN.out) | (with_reducible exact H _ _ _ _ _ _ _ _ _ _ _ _ _ _ _ _ _ _ _ _ _ _ HBM.out)) | go_big_skip | (refine load_op2 _ rfl (by kernel_rfl) w.heap.size rfl _ (HPM.out) ?_) | (go_at_call 64; (with_reducible refine (cvk _).mono ?_); rintro e wN ⟨rfl, hBN⟩; have HBN := hid (below_next HBM.out hBN); clear hBN))
                        · have hkz := HKZ.out
                          have hkz2 := HKZ2.out
                          simp only [Bool.not_true, Bool.not_false] at hkz2
                          have hq := HQ.out
                          cases uq
                          · have : e0 = true := by rw [HE0.out]; rfl
                            subst this
                            go_upto_region 999 with (first | (first | (with_reducible exact H _ _ _ _ _ _ _ _ _ _ _ _ _ _ _ _ _ _ _ _ _ _ HBN.out) | (with_reducible exact H _ _ _ _ _ _ _ _ _ _ _ _ _ _ _ _ _ _ _ _ _ _ HBM.out)) | go_big_skip | (refine load_op2 _ rfl (by kernel_rfl) w.heap.size rfl _ (HPM.out) ?_) | (go_at_call 64; (with_reducible refine (cvk _).mono ?_); rintro e wN ⟨rfl, hBN⟩; have HBN := hid (below_next HBM.out hBN); clear hBN))
                          · have : e0 = false := by rw [HE0.out]; rfl
                            subst this
                            go_upto_region 999 with (first | (first | (with_reducible exact H _ _ _ _ _ _ _ _ _ _ _ _ _ _ _ _ _ _ _ _ _ _ HBN.out) | (with_reducible exact H _ _ _ _ _ _ _ _ _ _ _ _ _ _ _ _ _ _ _ _ _ _ HBM.out)) | go_big_skip | (refine load_op2 _ rfl (by kernel_rfl) w.heap.size rfl _ (HPM.out) ?_) | (go_at_call 64; (with_reducible refine (cvk _).mono ?_); rintro e wN ⟨rfl, hBN⟩; have HBN := hid (below_next HBM.out hBN); clear hBN))
                      dsimp only
                      simp only [List.drop_succ_cons, List.drop_zero, List.drop_nil]
                      intro x76 x77 x78 x79 x80 x81 x82 x83 x84 x85 x86 x87 x88 x89 x90 x91 x92 x93 x94 x95 x96 wN hBN
                      clear HPM HBM
                      have HPM := hid (HPa.out.keep hBN)
                      have HBM := hid hBN
                      clear hBN
                      obtain ⟨wM, rfl⟩ : ∃ W, W = wN := ⟨_, rfl⟩
                      refine wp_merge 11 (fun K => ∀ x99 x100 x101 x102 x103 x104 x105 x106 x107 : Value, ∀ wN : World, Below wa.heap.size wa wN → K ⟨#[.agg (oc o), x1, .pointer (some ⟨w.heap.size, 0, none⟩), x3, x4, x5, .string s, x7, x8, x9, x10, x11, x12, x13, x14, x15, x16, x17, x18, x19, x20, x21, x22, x23, x24, x25, x26, x27, x28, x29, x30, x31, x32, x33, x34, x35, x36, x37, x38, x39, x40, x41, x42, x43, x44, x45, x46, x47, x48, x49, x50, x51, x52, x53, x54, x55, x56, x57, x58, x59, x60, x61, x62, x63, x64, x65, x66, x67, x68, x69, x70, x71, x72, x73, x74, x75, x76, x77, x78, x79, x80, x81, x82, x83, x84, x85, x86, x87, x88, x89, x90, x91, x92, x93, x94, x95, x96, .bool e0, .bool e0, x99, x100, x101, x102, x103, x104, x105, x106, x107, .bool e1, .bool e1, undef, undef, undef, undef, undef, undef, undef, undef, undef, undef, undef, undef, undef, undef, undef, undef, undef, undef, undef, undef, undef, undef, undef, undef, undef, undef, undef, undef, undef, undef, undef, undef, undef, undef, undef, undef, undef, undef, undef, undef, undef, undef, undef, undef, undef, undef, undef, undef, undef, undef, undef, undef, undef, undef, undef, undef, undef, undef, undef, undef, undef, undef, undef, undef, undef, undef, undef, undef, undef, undef, undef, undef, undef, undef, undef, undef], []⟩ wN) (fun H => ?_) ?_
                      · dsimp only at H
                        simp only [List.drop_succ_cons, List.drop_zero, List.drop_nil] at H
                        have c15 := HPM.out.c15
                        have c16 := HPM.out.c16
                        cases e0
                        · cases bc
                          · have : e1 = false := by rw [HE1.out]; rfl
                            subst this
                            go_upto_region 999 with (first | (first | (with_reducible exact H _ _ _ _ _ _ _ _ _ _ HBN.out) | (with_reducible exact H _ _ _ _ _ _ _ _ _ _ HBM.out)) | go_big_skip | (refine load_op2 _ rfl (by kernel_rfl) w.heap.size rfl _ (HPM.out) ?_) | (go_at_call 65; (with_reducible refine (ic _).mono ?_); rintro e w' ⟨rfl, rfl⟩) | (go_at_call 64; (with_reducible refine (cvc _).mono ?_); rintro e wN ⟨rfl, hBN⟩; have HBN := hid (below_next HBM.out hBN); clear hBN))
                          · cases uc
                            · have : e1 = true := by rw [HE1.out]; rfl
                              subst this
                              go_upto_region 999 with (first | (first | (with_reducible exact H _ _ _ _ _ _ _ _ _ _ HBN.out) | (with_reducible exact H _ _ _ _ _ _ _ _ _ _ HBM.out)) | go_big_skip | (refine load_op2 _ rfl (by kernel_rfl) w.heap.size rfl _ (HPM.out) ?_) | (go_at_call 65; (with_reducible refine (ic _).mono ?_); rintro e w' ⟨rfl, rfl⟩) | (go_at_call 64; (with_reducible refine (cvc _).mono ?_); rintro e wN ⟨rfl, hBN⟩; have HBN := hid (below_next HBM.out hBN); clear hBN))
                            · have : e1 = false := by rw [HE1.out]; rfl
                              subst this
                              go_upto_region 999 with (first | (first | (with_reducible exact H _ _ _ _ _ _ _ _ _ _ HBN.out) | (with_reducible exact H _ _ _ _ _ _ _ _ _ _ HBM.out)) | go_big_skip | (refine load_op2 _ rfl (by kernel_rfl) w.heap.size rfl _ (HPM.out) ?_) | (go_at_call 65; (with_reducible refine (ic _).mono ?_); rintro e w' ⟨rfl, rfl⟩) | (go_at_call 64; (with_reducible refine (cvc _).mono ?_); rintro e wN ⟨rfl, hBN⟩; have HBN := hid (below_next HBM.out hBN); clear hBN))
                        · have : e1 = true := by rw [HE1.out]; rfl
                          subst this
                          go_upto_region 999 with (first | (first | (with_reducible exact H _ _ _ _ _ _ _ _ _ _ HBN.out) | (with_reducible exact H _ _ _ _ _ _ _ _ _ _ HBM.out)) | go_big_skip | (refine load_op2 _ rfl (by kernel_rfl) w.heap.size rfl _ (HPM.out) ?_) | (go_at_call 65; (with_reducible refine (ic _).mono ?_); rintro e w' ⟨rfl, rfl⟩) | (go_at_call 64; (with_reducible refine (cvc _).mono ?_); rintro e wN ⟨rfl, hBN⟩; have HBN := hid (below_next HBM.out hBN); clear hBN))
                      dsimp only
                      simp only [List.drop_succ_cons, List.drop_zero, List.drop_nil]
                      intro x99 x100 x101 x102 x103 x104 x105 x106 x107 wN hBN
                      clear HPM HBM
                      have HPM := hid (HPa.out.keep hBN)
                      have HBM := hid hBN
                      clear hBN
                      obtain ⟨wM, rfl⟩ : ∃ W, W = wN := ⟨_, rfl⟩
                      refine wp_merge 11 (fun K => ∀ x110 x111 x112 x113 x114 x115 x116 x117 x118 : Value, ∀ wN : World, Below wa.heap.size wa wN → K ⟨#[.agg (oc o), x1, .pointer (some ⟨w.heap.size, 0, none⟩), x3, x4, x5, .string s, x7, x8, x9, x10, x11, x12, x13, x14, x15, x16, x17, x18, x19, x20, x21, x22, x23, x24, x25, x26, x27, x28, x29, x30, x31, x32, x33, x34, x35, x36, x37, x38, x39, x40, x41, x42, x43, x44, x45, x46, x47, x48, x49, x50, x51, x52, x53, x54, x55, x56, x57, x58, x59, x60, x61, x62, x63, x64, x65, x66, x67, x68, x69, x70, x71, x72, x73, x74, x75, x76, x77, x78, x79, x80, x81, x82, x83, x84, x85, x86, x87, x88, x89, x90, x91, x92, x93, x94, x95, x96, .bool e0, .bool e0, x99, x100, x101, x102, x103, x104, x105, x106, x107, .bool e1, .bool e1, x110, x111, x112, x113, x114, x115, x116, x117, x118, .bool e2, .bool e2, undef, undef, undef, undef, undef, undef, undef, undef, undef, undef, undef, undef, undef, undef, undef, undef, undef, undef, undef, undef, undef, undef, undef, undef, undef, undef, undef, undef, undef, undef, undef, undef, undef, undef, undef, undef, undef, undef, undef, undef, undef, undef, undef, undef, undef, undef, undef, undef, undef, undef, undef, undef, undef, undef, undef, undef, undef, undef, undef, undef, undef, undef, undef, undef, undef], []⟩ wN) (fun H => ?_) ?_
                      · dsimp only at H
                        simp only [List.drop_succ_cons, List.drop_zero, List.drop_nil] at H
                        have c21 := HPM.out.c21
                        have c22 := HPM.out.c22
                        cases e1
                        · cases ba
                          · have : e2 = false := by rw [HE2.out]; rfl
                            subst this
                            go_upto_region 999 with (first | (first | (with_reducible exact H _ _ _ _ _ _ _ _ _ _ HBN.out) | (with_reducible exact H _ _ _ _ _ _ _ _ _ _ HBM.out)) | go_big_skip | (refine load_op2 _ rfl (by kernel_rfl) w.heap.size rfl _ (HPM.out) ?_) | (go_at_call 65; (with_reducible refine (ia _).mono ?_); rintro e w' ⟨rfl, rfl⟩) | (go_at_call 64; (with_reducible refine (cva _).mono ?_); rintro e wN ⟨rfl, hBN⟩; have HBN := hid (below_next HBM.out hBN); clear hBN))
                          · cases ua
                            · have : e2 = true := by rw [HE2.out]; rfl
                              subst this
                              go_upto_region 999 with (first | (first | (with_reducible exact H _ _ _ _ _ _ _ _ _ _ HBN.out) | (with_reducible exact H _ _ _ _ _ _ _ _ _ _ HBM.out)) | go_big_skip | (refine load_op2 _ rfl (by kernel_rfl) w.heap.size rfl _ (HPM.out) ?_) | (go_at_call 65; (with_reducible refine (ia _).mono ?_); rintro e w' ⟨rfl, rfl⟩) | (go_at_call 64; (with_reducible refine (cva _).mono ?_); rintro e wN ⟨rfl, hBN⟩; have HBN := hid (below_next HBM.out hBN); clear hBN))
                            · have : e2 = false := by rw [HE2.out]; rfl
                              subst this
                              go_upto_region 999 with (first | (first | (with_reducible exact H _ _ _ _ _ _ _ _ _ _ HBN.out) | (with_reducible exact H _ _ _ _ _ _ _ _ _ _ HBM.out)) | go_big_skip | (refine load_op2 _ rfl (by kernel_rfl) w.heap.size rfl _ (HPM.out) ?_) | (go_at_call 65; (with_reducible refine (ia _).mono ?_); rintro e w' ⟨rfl, rfl⟩) | (go_at_call 64; (with_reducible refine (cva _).mono ?_); rintro e wN ⟨rfl, hBN⟩; have HBN := hid (below_next HBM.out hBN); clear hBN))
                        · have : e2 = true := by rw [HE2.out]; rfl
                          subst this
                          go_upto_region 999 with (first | (first | (with_reducible exact H _ _ _ _ _ _ _ _ _ _ HBN.out) | (with_reducible exact H _ _ _ _ _ _ _ _ _ _ HBM.out)) | go_big_skip | (refine load_op2 _ rfl (by kernel_rfl) w.heap.size rfl _ (HPM.out) ?_) | (go_at_call 65; (with_reducible refine (ia _).mono ?_); rintro e w' ⟨rfl, rfl⟩) | (go_at_call 64; (with_reducible refine (cva _).mono ?_); rintro e wN ⟨rfl, hBN⟩; have HBN := hid (below_next HBM.out hBN); clear hBN))
                      dsimp only
                      simp only [List.drop_succ_cons, List.drop_zero, List.drop_nil]
                      intro x110 x111 x112 x113 x114 x115 x116 x117 x118 wN hBN
                      clear HPM HBM
                      have HPM := hid (HPa.out.keep hBN)
                      have HBM := hid hBN
                      clear hBN
                      obtain ⟨wM, rfl⟩ : ∃ W, W = wN := ⟨_, rfl⟩
                      refine wp_merge 10 (fun K => ∀ x121 x122 x123 x124 x125 x126 x127 x128 x129 : Value, ∀ wN : World, Below wa.heap.size wa wN → K ⟨#[.agg (oc o), x1, .pointer (some ⟨w.heap.size, 0, none⟩), x3, x4, x5, .string s, x7, x8, x9, x10, x11, x12, x13, x14, x15, x16, x17, x18, x19, x20, x21, x22, x23, x24, x25, x26, x27, x28, x29, x30, x31, x32, x33, x34, x35, x36, x37, x38, x39, x40, x41, x42, x43, x44, x45, x46, x47, x48, x49, x50, x51, x52, x53, x54, x55, x56, x57, x58, x59, x60, x61, x62, x63, x64, x65, x66, x67, x68, x69, x70, x71, x72, x73, x74, x75, x76, x77, x78, x79, x80, x81, x82, x83, x84, x85, x86, x87, x88, x89, x90, x91, x92, x93, x94, x95, x96, .bool e0, .bool e0, x99, x100, x101, x102, x103, x104, x105, x106, x107, .bool e1, .bool e1, x110, x111, x112, x113, x114, x115, x116, x117, x118, .bool e2, .bool e2, x121, x122, x123, x124, x125, x126, x127, x128, x129, .bool e3, undef, undef, undef, undef, undef, undef, undef, undef, undef, undef, undef, undef, undef, undef, undef, undef, undef, undef, undef, undef, undef, undef, undef, undef, undef, undef, undef, undef, undef, undef, undef, undef, undef, undef, undef, undef, undef, undef, undef, undef, undef, undef, undef, undef, undef, undef, undef, undef, undef, undef, undef, undef, undef, undef, undef], []⟩ wN) (fun H => ?_) ?_
                      · dsimp only at H
                        simp only [List.drop_succ_cons, List.drop_zero, List.drop_nil] at H
                        have c23 := HPM.out.c23
                        have c24 := HPM.out.c24
                        cases e2
                        · cases bv
                          · have : e3 = false := by rw [HE3.out]; rfl
                            subst this
                            go_upto_region 999 with (first | (first | (with_reducible exact H _ _ _ _ _ _ _ _ _ _ HBN.out) | (with_reducible exact H _ _ _ _ _ _ _ _ _ _ HBM.out)) | go_big_skip | (refine load_op2 _ rfl (by kernel_rfl) w.heap.size rfl _ (HPM.out) ?_) | (go_at_call 65; (with_reducible refine (iv _).mono ?_); rintro e w' ⟨rfl, rfl⟩) | (go_at_call 64; (with_reducible refine (cvv _).mono ?_); rintro e wN ⟨rfl, hBN⟩; have HBN := hid (below_next HBM.out hBN); clear hBN))
                          · cases uv
                            · have : e3 = true := by rw [HE3.out]; rfl
                              subst this
                              go_upto_region 999 with (first | (first | (with_reducible exact H _ _ _ _ _ _ _ _ _ _ HBN.out) | (with_reducible exact H _ _ _ _ _ _ _ _ _ _ HBM.out)) | go_big_skip | (refine load_op2 _ rfl (by kernel_rfl) w.heap.size rfl _ (HPM.out) ?_) | (go_at_call 65; (with_reducible refine (iv _).mono ?_); rintro e w' ⟨rfl, rfl⟩) | (go_at_call 64; (with_reducible refine (cvv _).mono ?_); rintro e wN ⟨rfl, hBN⟩; have HBN := hid (below_next HBM.out hBN); clear hBN))
                            · have : e3 = false := by rw [HE3.out]; rfl
                              subst this
                              go_upto_region 999 with (first | (first | (with_reducible exact H _ _ _ _ _ _ _ _ _ _ HBN.out) | (with_reducible exact H _ _ _ _ _ _ _ _ _ _ HBM.out)) | go_big_skip | (refine load_op2 _ rfl (by kernel_rfl) w.heap.size rfl _ (HPM.out) ?_) | (go_at_call 65; (with_reducible refine (iv _).mono ?_); rintro e w' ⟨rfl, rfl⟩) | (go_at_call 64; (with_reducible refine (cvv _).mono ?_); rintro e wN ⟨rfl, hBN⟩; have HBN := hid (below_next HBM.out hBN); clear hBN))
                        · have : e3 = true := by rw [HE3.out]; rfl
                          subst this
                          go_upto_region 999 with (first | (first | (with_reducible exact H _ _ _ _ _ _ _ _ _ _ HBN.out) | (with_reducible exact H _ _ _ _ _ _ _ _ _ _ HBM.out)) | go_big_skip | (refine load_op2 _ rfl (by kernel_rfl) w.heap.size rfl _ (HPM.out) ?_) | (go_at_call 65; (with_reducible refine (iv _).mono ?_); rintro e w' ⟨rfl, rfl⟩) | (go_at_call 64; (with_reducible refine (cvv _).mono ?_); rintro e wN ⟨rfl, hBN⟩; have HBN := hid (below_next HBM.out hBN); clear hBN))
                      dsimp only
                      simp only [List.drop_succ_cons, List.drop_zero, List.drop_nil]
                      intro x121 x122 x123 x124 x125 x126 x127 x128 x129 wN hBN
                      clear HPM HBM
                      have HPM := hid (HPa.out.keep hBN)
                      have HBM := hid hBN
                      clear hBN
                      obtain ⟨wM, rfl⟩ : ∃ W, W = wN := ⟨_, rfl⟩
                      cases e3
                      · skip
                        go_upto_region 13 with (fail)
                        refine wp_region_lit ?_
                        refine wp_merge 28 (fun K => ∀ x131 x132 x133 x134 x135 x136 x137 x138 x139 x140 x141 x142 x143 x144 x145 x146 x147 x148 x149 x150 x151 x152 x153 x154 x155 x156 : Value, ∀ wN : World, Below wa.heap.size wa wN → K ⟨#[.agg (oc o), x1, .pointer (some ⟨w.heap.size, 0, none⟩), x3, x4, x5, .string s, x7, x8, x9, x10, x11, x12, x13, x14, x15, x16, x17, x18, x19, x20, x21, x22, x23, x24, x25, x26, x27, x28, x29, x30, x31, x32, x33, x34, x35, x36, x37, x38, x39, x40, x41, x42, x43, x44, x45, x46, x47, x48, x49, x50, x51, x52, x53, x54, x55, x56, x57, x58, x59, x60, x61, x62, x63, x64, x65, x66, x67, x68, x69, x70, x71, x72, x73, x74, x75, x76, x77, x78, x79, x80, x81, x82, x83, x84, x85, x86, x87, x88, x89, x90, x91, x92, x93, x94, x95, x96, .bool e0, .bool e0, x99, x100, x101, x102, x103, x104, x105, x106, x107, .bool e1, .bool e1, x110, x111, x112, x113, x114, x115, x116, x117, x118, .bool e2, .bool e2, x121, x122, x123, x124, x125, x126, x127, x128, x129, .bool false, x131, x132, x133, x134, x135, x136, x137, x138, x139, x140, x141, x142, x143, x144, x145, x146, x147, x148, x149, x150, x151, x152, x153, x154, x155, x156, .bool f0, .bool f0, undef, undef, undef, undef, undef, undef, undef, undef, undef, undef, undef, undef, undef, undef, undef, undef, undef, undef, undef, undef, undef, undef, undef, undef, undef, undef, undef], []⟩ wN) (fun H => ?_) ?_
                        · dsimp only at H
                          simp only [List.drop_succ_cons, List.drop_zero, List.drop_nil] at H
                          have c17 := HPM.out.c17
                          have c18 := HPM.out.c18
                          have c19 := HPM.out.c19
                          have c20 := HPM.out.c20
                          cases bt
                          · have : f0 = false := by rw [HF0.out]; rfl
                            subst this
                            go_upto_region 999 with (first | (first | (with_reducible exact H _ _ _ _ _ _ _ _ _ _ _ _ _ _ _ _ _ _ _ _ _ _ _ _ _ _ _ HBN.out) | (with_reducible exact H _ _ _ _ _ _ _ _ _ _ _ _ _ _ _ _ _ _ _ _ _ _ _ _ _ _ _ HBM.out)) | go_big_skip | (go_at_call 65; (with_reducible refine (it _).mono ?_); rintro e w' ⟨rfl, rfl⟩))
                          · have hz0 := HZ0.out
                            cases z0
                            rotate_left
                            · have : f0 = true := by rw [HF0.out]; rfl
                              subst this
                              go_upto_region 999 with (first | (first | (with_reducible exact H _ _ _ _ _ _ _ _ _ _ _ _ _ _ _ _ _ _ _ _ _ _ _ _ _ _ _ HBN.out) | (with_reducible exact H _ _ _ _ _ _ _ _ _ _ _ _ _ _ _ _ _ _ _ _ _ _ _ _ _ _ _ HBM.out)) | go_big_skip | (go_at_call 65; (with_reducible refine (it _).mono ?_); rintro e w' ⟨rfl, rfl⟩))
                            have hz1 := HZ1.out
                            cases z1
                            rotate_left
                            · have : f0 = true := by rw [HF0.out]; rfl
                              subst this
                              go_upto_region 999 with (first | (first | (with_reducible exact H _ _ _ _ _ _ _ _ _ _ _ _ _ _ _ _ _ _ _ _ _ _ _ _ _ _ _ HBN.out) | (with_reducible exact H _ _ _ _ _ _ _ _ _ _ _ _ _ _ _ _ _ _ _ _ _ _ _ _ _ _ _ HBM.out)) | go_big_skip | (go_at_call 65; (with_reducible refine (it _).mono ?_); rintro e w' ⟨rfl, rfl⟩))
                            have hz2 := HZ2.out
                            cases z2
                            rotate_left
                            · have : f0 = true := by rw [HF0.out]; rfl
                              subst this
                              go_upto_region 999 with (first | (first | (with_reducible exact H _ _ _ _ _ _ _ _ _ _ _ _ _ _ _ _ _ _ _ _ _ _ _ _ _ _ _ HBN.out) | (with_reducible exact H _ _ _ _ _ _ _ _ _ _ _ _ _ _ _ _ _ _ _ _ _ _ _ _ _ _ _ HBM.out)) | go_big_skip | (go_at_call 65; (with_reducible refine (it _).mono ?_); rintro e w' ⟨rfl, rfl⟩))
                            have hz3 := HZ3.out
                            cases z3
                            rotate_left
                            · have : f0 = true := by rw [HF0.out]; rfl
                              subst this
                              go_upto_region 999 with (first | (first | (with_reducible exact H _ _ _ _ _ _ _ _ _ _ _ _ _ _ _ _ _ _ _ _ _ _ _ _ _ _ _ HBN.out) | (with_reducible exact H _ _ _ _ _ _ _ _ _ _ _ _ _ _ _ _ _ _ _ _ _ _ _ _ _ _ _ HBM.out)) | go_big_skip | (go_at_call 65; (with_reducible refine (it _).mono ?_); rintro e w' ⟨rfl, rfl⟩))
                            have hz4 := HZ4.out
                            cases z4
                            rotate_left
                            · have : f0 = true := by rw [HF0.out]; rfl
                              subst this
                              go_upto_region 999 with (first | (first | (with_reducible exact H _ _ _ _ _ _ _ _ _ _ _ _ _ _ _ _ _ _ _ _ _ _ _ _ _ _ _ HBN.out) | (with_reducible exact H _ _ _ _ _ _ _ _ _ _ _ _ _ _ _ _ _ _ _ _ _ _ _ _ _ _ _ HBM.out)) | go_big_skip | (go_at_call 65; (with_reducible refine (it _).mono ?_); rintro e w' ⟨rfl, rfl⟩))
                            have : f0 = false := by rw [HF0.out]; rfl
                            subst this
                            go_upto_region 999 with (first | (first | (with_reducible exact H _ _ _ _ _ _ _ _ _ _ _ _ _ _ _ _ _ _ _ _ _ _ _ _ _ _ _ HBN.out) | (with_reducible exact H _ _ _ _ _ _ _ _ _ _ _ _ _ _ _ _ _ _ _ _ _ _ _ _ _ _ _ HBM.out)) | go_big_skip | (go_at_call 65; (with_reducible refine (it _).mono ?_); rintro e w' ⟨rfl, rfl⟩))
                        dsimp only
                        simp only [List.drop_succ_cons, List.drop_zero, List.drop_nil]
                        intro x131 x132 x133 x134 x135 x136 x137 x138 x139 x140 x141 x142 x143 x144 x145 x146 x147 x148 x149 x150 x151 x152 x153 x154 x155 x156 wN hBN
                        clear HPM HBM
                        have HPM := hid (HPa.out.keep hBN)
                        have HBM := hid hBN
                        clear hBN
                        obtain ⟨wM, rfl⟩ : ∃ W, W = wN := ⟨_, rfl⟩
                        refine wp_merge 14 (fun K => ∀ x159 x160 x161 x162 x163 x164 x165 x166 x167 x168 x169 x170 : Value, ∀ wN : World, Below wa.heap.size wa wN → K ⟨#[.agg (oc o), x1, .pointer (some ⟨w.heap.size, 0, none⟩), x3, x4, x5, .string s, x7, x8, x9, x10, x11, x12, x13, x14, x15, x16, x17, x18, x19, x20, x21, x22, x23, x24, x25, x26, x27, x28, x29, x30, x31, x32, x33, x34, x35, x36, x37, x38, x39, x40, x41, x42, x43, x44, x45, x46, x47, x48, x49, x50, x51, x52, x53, x54, x55, x56, x57, x58, x59, x60, x61, x62, x63, x64, x65, x66, x67, x68, x69, x70, x71, x72, x73, x74, x75, x76, x77, x78, x79, x80, x81, x82, x83, x84, x85, x86, x87, x88, x89, x90, x91, x92, x93, x94, x95, x96, .bool e0, .bool e0, x99, x100, x101, x102, x103, x104, x105, x106, x107, .bool e1, .bool e1, x110, x111, x112, x113, x114, x115, x116, x117, x118, .bool e2, .bool e2, x121, x122, x123, x124, x125, x126, x127, x128, x129, .bool false, x131, x132, x133, x134, x135, x136, x137, x138, x139, x140, x141, x142, x143, x144, x145, x146, x147, x148, x149, x150, x151, x152, x153, x154, x155, x156, .bool f0, .bool f0, x159, x160, x161, x162, x163, x164, x165, x166, x167, x168, x169, x170, .bool f1, .bool f1, undef, undef, undef, undef, undef, undef, undef, undef, undef, undef, undef, undef, undef], []⟩ wN) (fun H => ?_) ?_
                        · dsimp only at H
                          simp only [List.drop_succ_cons, List.drop_zero, List.drop_nil] at H
                          have c26 := HPM.out.c26
                          cases f0
                          · cases bq
                            · have : f1 = false := by rw [HF1.out]; rfl
                              subst this
                              go_upto_region 999 with (first | (first | (with_reducible exact H _ _ _ _ _ _ _ _ _ _ _ _ _ HBN.out) | (with_reducible exact H _ _ _ _ _ _ _ _ _ _ _ _ _ HBM.out)) | go_big_skip | (go_at_call 65; (with_reducible refine (iq _).mono ?_); rintro e w' ⟨rfl, rfl⟩))
                            · have hz5 := HZ5.out
                              cases z5
                              · have hz6 := HZ6.out
                                cases z6
                                · have : f1 = false := by rw [HF1.out]; rfl
                                  subst this
                                  go_upto_region 999 with (first | (first | (with_reducible exact H _ _ _ _ _ _ _ _ _ _ _ _ _ HBN.out) | (with_reducible exact H _ _ _ _ _ _ _ _ _ _ _ _ _ HBM.out)) | go_big_skip | (go_at_call 65; (with_reducible refine (iq _).mono ?_); rintro e w' ⟨rfl, rfl⟩))
                                · have : f1 = true := by rw [HF1.out]; rfl
                                  subst this
                                  go_upto_region 999 with (first | (first | (with_reducible exact H _ _ _ _ _ _ _ _ _ _ _ _ _ HBN.out) | (with_reducible exact H _ _ _ _ _ _ _ _ _ _ _ _ _ HBM.out)) | go_big_skip | (go_at_call 65; (with_reducible refine (iq _).mono ?_); rintro e w' ⟨rfl, rfl⟩))
                              · have : f1 = true := by rw [HF1.out]; rfl
                                subst this
                                go_upto_region 999 with (first | (first | (with_reducible exact H _ _ _ _ _ _ _ _ _ _ _ _ _ HBN.out) | (with_reducible exact H _ _ _ _ _ _ _ _ _ _ _ _ _ HBM.out)) | go_big_skip | (go_at_call 65; (with_reducible refine (iq _).mono ?_); rintro e w' ⟨rfl, rfl⟩))
                          · have : f1 = true := by rw [HF1.out]; rfl
                            subst this
                            go_upto_region 999 with (first | (first | (with_reducible exact H _ _ _ _ _ _ _ _ _ _ _ _ _ HBN.out) | (with_reducible exact H _ _ _ _ _ _ _ _ _ _ _ _ _ HBM.out)) | go_big_skip | (go_at_call 65; (with_reducible refine (iq _).mono ?_); rintro e w' ⟨rfl, rfl⟩))
                        dsimp only
                        simp only [List.drop_succ_cons, List.drop_zero, List.drop_nil]
                        intro x159 x160 x161 x162 x163 x164 x165 x166 x167 x168 x169 x170 wN hBN
                        clear HPM HBM
                        have HPM := hid (HPa.out.keep hBN)
                        have HBM := hid hBN
                        clear hBN
                        obtain ⟨wM, rfl⟩ : ∃ W, W = wN := ⟨_, rfl⟩
                        refine wp_merge 5 (fun K => ∀ x173 x174 x175 : Value, ∀ wN : World, Below wa.heap.size wa wN → K ⟨#[.agg (oc o), x1, .pointer (some ⟨w.heap.size, 0, none⟩), x3, x4, x5, .string s, x7, x8, x9, x10, x11, x12, x13, x14, x15, x16, x17, x18, x19, x20, x21, x22, x23, x24, x25, x26, x27, x28, x29, x30, x31, x32, x33, x34, x35, x36, x37, x38, x39, x40, x41, x42, x43, x44, x45, x46, x47, x48, x49, x50, x51, x52, x53, x54, x55, x56, x57, x58, x59, x60, x61, x62, x63, x64, x65, x66, x67, x68, x69, x70, x71, x72, x73, x74, x75, x76, x77, x78, x79, x80, x81, x82, x83, x84, x85, x86, x87, x88, x89, x90, x91, x92, x93, x94, x95, x96, .bool e0, .bool e0, x99, x100, x101, x102, x103, x104, x105, x106, x107, .bool e1, .bool e1, x110, x111, x112, x113, x114, x115, x116, x117, x118, .bool e2, .bool e2, x121, x122, x123, x124, x125, x126, x127, x128, x129, .bool false, x131, x132, x133, x134, x135, x136, x137, x138, x139, x140, x141, x142, x143, x144, x145, x146, x147, x148, x149, x150, x151, x152, x153, x154, x155, x156, .bool f0, .bool f0, x159, x160, x161, x162, x163, x164, x165, x166, x167, x168, x169, x170, .bool f1, .bool f1, x173, x174, x175, .bool f2, .bool f2, undef, undef, undef, undef, undef, undef, undef, undef], []⟩ wN) (fun H => ?_) ?_
                        · dsimp only at H
                          simp only [List.drop_succ_cons, List.drop_zero, List.drop_nil] at H
                          have c27 := HPM.out.c27
                          cases f1
                          · have hz7 := HZ7.out
                            cases z7
                            · have : f2 = false := by rw [HF2.out]; rfl
                              subst this
                              go_upto_region 999 with (first | (first | (with_reducible exact H _ _ _ _ HBN.out) | (with_reducible exact H _ _ _ _ HBM.out)) | go_big_skip)
                            · have : f2 = true := by rw [HF2.out]; rfl
                              subst this
                              go_upto_region 999 with (first | (first | (with_reducible exact H _ _ _ _ HBN.out) | (with_reducible exact H _ _ _ _ HBM.out)) | go_big_skip)
                          · have : f2 = true := by rw [HF2.out]; rfl
                            subst this
                            go_upto_region 999 with (first | (first | (with_reducible exact H _ _ _ _ HBN.out) | (with_reducible exact H _ _ _ _ HBM.out)) | go_big_skip)
                        dsimp only
                        simp only [List.drop_succ_cons, List.drop_zero, List.drop_nil]
                        intro x173 x174 x175 wN hBN
                        clear HPM HBM
                        have HPM := hid (HPa.out.keep hBN)
                        have HBM := hid hBN
                        clear hBN
                        obtain ⟨wM, rfl⟩ : ∃ W, W = wN := ⟨_, rfl⟩
                        refine wp_merge 8 (fun K => ∀ x178 x179 x180 x181 x182 x183 x184 : Value, ∀ wN : World, Below wa.heap.size wa wN → K ⟨#[.agg (oc o), x1, .pointer (some ⟨w.heap.size, 0, none⟩), x3, x4, x5, .string s, x7, x8, x9, x10, x11, x12, x13, x14, x15, x16, x17, x18, x19, x20, x21, x22, x23, x24, x25, x26, x27, x28, x29, x30, x31, x32, x33, x34, x35, x36, x37, x38, x39, x40, x41, x42, x43, x44, x45, x46, x47, x48, x49, x50, x51, x52, x53, x54, x55, x56, x57, x58, x59, x60, x61, x62, x63, x64, x65, x66, x67, x68, x69, x70, x71, x72, x73, x74, x75, x76, x77, x78, x79, x80, x81, x82, x83, x84, x85, x86, x87, x88, x89, x90, x91, x92, x93, x94, x95, x96, .bool e0, .bool e0, x99, x100, x101, x102, x103, x104, x105, x106, x107, .bool e1, .bool e1, x110, x111, x112, x113, x114, x115, x116, x117, x118, .bool e2, .bool e2, x121, x122, x123, x124, x125, x126, x127, x128, x129, .bool false, x131, x132, x133, x134, x135, x136, x137, x138, x139, x140, x141, x142, x143, x144, x145, x146, x147, x148, x149, x150, x151, x152, x153, x154, x155, x156, .bool f0, .bool f0, x159, x160, x161, x162, x163, x164, x165, x166, x167, x168, x169, x170, .bool f1, .bool f1, x173, x174, x175, .bool f2, .bool f2, x178, x179, x180, x181, x182, x183, x184, .bool f3], []⟩ wN) (fun H => ?_) ?_
                        · dsimp only at H
                          simp only [List.drop_succ_cons, List.drop_zero, List.drop_nil] at H
                          cases f2
                          · cases bl
                            · have : f3 = false := by rw [HF3.out]; rfl
                              subst this
                              go_upto_region 999 with (first | (first | (with_reducible exact H _ _ _ _ _ _ _ _ HBN.out) | (with_reducible exact H _ _ _ _ _ _ _ _ HBM.out)) | go_big_skip | (refine load_op2 _ rfl (by kernel_rfl) w.heap.size rfl _ (HPM.out) ?_) | (go_at_call 65; (with_reducible refine (il _).mono ?_); rintro e w' ⟨rfl, rfl⟩) | (go_at_call 66; (with_reducible refine (cvl _ (HL4.out.1.keep (below_next HBa.out HBM.out))).mono ?_); rintro e wN ⟨rfl, hBN⟩; have HBN := hid (below_next HBM.out hBN); clear hBN))
                            · cases ul
                              · have : f3 = true := by rw [HF3.out]; rfl
                                subst this
                                go_upto_region 999 with (first | (first | (with_reducible exact H _ _ _ _ _ _ _ _ HBN.out) | (with_reducible exact H _ _ _ _ _ _ _ _ HBM.out)) | go_big_skip | (refine load_op2 _ rfl (by kernel_rfl) w.heap.size rfl _ (HPM.out) ?_) | (go_at_call 65; (with_reducible refine (il _).mono ?_); rintro e w' ⟨rfl, rfl⟩) | (go_at_call 66; (with_reducible refine (cvl _ (HL4.out.1.keep (below_next HBa.out HBM.out))).mono ?_); rintro e wN ⟨rfl, hBN⟩; have HBN := hid (below_next HBM.out hBN); clear hBN))
                              · have : f3 = false := by rw [HF3.out]; rfl
                                subst this
                                go_upto_region 999 with (first | (first | (with_reducible exact H _ _ _ _ _ _ _ _ HBN.out) | (with_reducible exact H _ _ _ _ _ _ _ _ HBM.out)) | go_big_skip | (refine load_op2 _ rfl (by kernel_rfl) w.heap.size rfl _ (HPM.out) ?_) | (go_at_call 65; (with_reducible refine (il _).mono ?_); rintro e w' ⟨rfl, rfl⟩) | (go_at_call 66; (with_reducible refine (cvl _ (HL4.out.1.keep (below_next HBa.out HBM.out))).mono ?_); rintro e wN ⟨rfl, hBN⟩; have HBN := hid (below_next HBM.out hBN); clear hBN))
                          · have : f3 = true := by rw [HF3.out]; rfl
                            subst this
                            go_upto_region 999 with (first | (first | (with_reducible exact H _ _ _ _ _ _ _ _ HBN.out) | (with_reducible exact H _ _ _ _ _ _ _ _ HBM.out)) | go_big_skip | (refine load_op2 _ rfl (by kernel_rfl) w.heap.size rfl _ (HPM.out) ?_) | (go_at_call 65; (with_reducible refine (il _).mono ?_); rintro e w' ⟨rfl, rfl⟩) | (go_at_call 66; (with_reducible refine (cvl _ (HL4.out.1.keep (below_next HBa.out HBM.out))).mono ?_); rintro e wN ⟨rfl, hBN⟩; have HBN := hid (below_next HBM.out hBN); clear hBN))
                        dsimp only
                        simp only [List.drop_succ_cons, List.drop_zero, List.drop_nil]
                        intro x178 x179 x180 x181 x182 x183 x184 wN hBN
                        clear HPM HBM
                        have HPM := hid (HPa.out.keep hBN)
                        have HBM := hid hBN
                        clear hBN
                        obtain ⟨wM, rfl⟩ : ∃ W, W = wN := ⟨_, rfl⟩
                        cases f3
                        · go_wp2
                          go_ret
                          exact ⟨by rw [← HVAL.out, refIn, HBAD.out, HREST.out, HRB0.out, ← HRB.out, HRC0.out, ← HRC.out]; rfl, below_next HBa.out HBM.out⟩
                        · go_wp2
                          go_ret
                          exact ⟨by rw [← HVAL.out, refIn, HBAD.out, HREST.out, HRB0.out, ← HRB.out, HRC0.out, ← HRC.out]; rfl, below_next HBa.out HBM.out⟩
                      · go_wp2
                        go_ret
                        exact ⟨by rw [← HVAL.out, refIn, HBAD.out, HREST.out, HRB0.out, ← HRB.out]; rfl, below_next HBa.out HBM.out⟩

end Go.Proofs.YtagdapmnghnphaaDoor.V
