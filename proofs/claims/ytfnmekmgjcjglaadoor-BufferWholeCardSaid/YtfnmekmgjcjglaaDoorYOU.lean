/-
  The document's Same.
-/
import Derived.Test.YtfnmekmgjcjglaaDoorYMD
namespace Go.Proofs.YtfnmekmgjcjglaaDoor.V
set_option linter.unusedVariables false
set_option linter.unusedSimpArgs false
set_option maxRecDepth 100000
open Go Go.RowKit Go.Maps
set_option maxRecDepth 100000
set_option linter.unusedVariables false
set_option linter.unusedSimpArgs false
set_option maxRecDepth 100000
set_option linter.unusedVariables false
set_option linter.unusedSimpArgs false
def sameF (a b : OpM) : Bool := eqB (a.r, a.n) (b.r, b.n) && (eqV a.dep b.dep && (((a.tm : Int) == (b.tm : Int)) && (((a.who : Int) == (b.who : Int)) && (eqB (a.cr, a.cn) (b.cr, b.cn) && (((a.kd : Int) == (b.kd : Int)) && (eqB (a.dr, a.dn) (b.dr, b.dn) && (((a.to : Int) == (b.to : Int)) && (((a.ro : Int) == (b.ro : Int)) && (((a.de : Int) == (b.de : Int)) && (((a.cap : Int) == (b.cap : Int)) && (eqB (a.ar, a.an) (b.ar, b.an) && (eqB (a.vr, a.vn) (b.vr, b.vn) && (((a.it : Int) == (b.it : Int)) && (((a.qt : Int) == (b.qt : Int)) && (((a.pr : Int) == (b.pr : Int)))))))))))))))))
def sameR (a b : OpM) (la lb : List Claim) : Bool := decide (la = lb) && sameF a b
theorem sameR_eq (a b : OpM) (la lb : List Claim) : sameR a b la lb = sameM a b la lb := by
  rw [Bool.eq_iff_iff]
  unfold sameR sameF sameM simE
  simp only [Bool.and_eq_true, decide_eq_true_eq, beq_iff_eq, Int.natCast_inj]
  constructor
  · rintro ⟨h, h0, h1, h2, h3, h4, h5, h6, h7, h8, h9, h10, h11, h12, h13, h14, h15⟩
    exact ⟨h0, h1, h2, h3, h4, h5, h6, h11, h12, ⟨h7, h8, h9, h10, h13, h14, h15⟩, h⟩
  · rintro ⟨h0, h1, h2, h3, h4, h5, h6, h11, h12, ⟨h7, h8, h9, h10, h13, h14, h15⟩, h⟩
    exact ⟨h, h0, h1, h2, h3, h4, h5, h6, h7, h8, h9, h10, h11, h12, h13, h14, h15⟩
set_option maxHeartbeats 3000000 in
theorem ref_SameR (a b : OpM) (la lb : List Claim) (w : World) (ha : ClaimsV w a.lv la) (hb : ClaimsV w b.lv lb) :
    Calls Tryd.prog 33 #[.agg (oc a), .agg (oc b)] w
      fun e w' => e = .returned (.bool (sameR a b la lb)) ∧ Below w.heap.size w w' := by
  obtain ⟨aa, na, ca, hlva, hA⟩ := ha
  obtain ⟨ab, nb, cb, hlvb, hB⟩ := hb
  have hla := hA.1
  have hlb := hB.1
  have HA := hid hA
  have HB := hid hB
  have HLA := hid hlva
  have HLB := hid hlvb
  have ga28 : (oc a)[28]? = some (.slice aa na ca) := by rw [← hlva]; rfl
  have gb28 : (oc b)[28]? = some (.slice ab nb cb) := by rw [← hlvb]; rfl
  clear hA hB hlva hlvb
  by_cases hn : na = nb
  · subst hn
    have HL := hid (And.intro hla hlb)
    have t1 : ((na : Int) != (na : Int)) = false := by simp
    have hmx : na ≤ 9223372036854775807 := by have := HA.out.2.1; have := HA.out.2.2.1; unfold maxLen at *; omega
    clear hla hlb
    obtain ⟨v, hval⟩ : ∃ v, sameR a b la lb = v := ⟨_, rfl⟩
    rw [hval]
    have HVAL := hid hval
    clear hval
    go_enter Tryd.func33, Tryd.ntmps33
    have HOA := hid (show OpAt ((w.alloc (.cells (oc a) 50)).alloc (.cells (oc b) 50)) w.heap.size a from (opAt_new w a).al _)
    have HOB := hid (show OpAt ((w.alloc (.cells (oc a) 50)).alloc (.cells (oc b) 50)) (w.heap.size + 1) b from last2 _ _ _)
    have HBw := hid (below_al2 w (.cells (oc a) 50) (.cells (oc b) 50))
    go_wp2
    clear ga28 gb28
    generalize (w.alloc (.cells (oc a) 50)).alloc (.cells (oc b) 50) = w1 at HOA HOB HBw ⊢
    go_loopw [5] (fun i wr => ∃ k : Nat, k ≤ na ∧ i = .int .i64 k ∧ Below w1.heap.size w1 wr ∧ ∀ j, j < k → la[j]? = lb[j]?) (fun i _ => na - (intOf i).toNat)
    case atStart => exact ⟨0, by omega, rfl, Below.refl _ _, fun j hj => absurd hj (by omega)⟩
    case round =>
      obtain ⟨k, hk, rfl, hBr, hall⟩ := hrel
      obtain ⟨W0, rfl⟩ : ∃ W, W = wr := ⟨_, rfl⟩
      have ca28 := (HOA.out.keep hBr).c28.trans (congrArg some HLA.out)
      by_cases hlt : k < na
      · cases aa with
        | none => have := HA.out.none_len; omega
        | some aa =>
          cases ab with
          | none => have := HB.out.none_len; omega
          | some ab =>
            obtain ⟨x, B, O, sp, hx, hxo, hAd, c0, c1, c2, c3⟩ := (HA.out.keep (below_next HBw.out hBr)).at k hlt
            obtain ⟨y, B2, O2, sp2, hy, hyo, hAd2, d0, d1, d2, d3⟩ := (HB.out.keep (below_next HBw.out hBr)).at k hlt
            have HX := hid (And.intro hx (And.intro hy (And.intro hBr hall)))
            have hq := fun W => run_neqC x y W
            clear hx hy hBr hall hxo hyo
            cases he : decide (x = y)
            · rw [he] at hq
              have HE := hid he
              clear he
              go_wp2
              refine wp_region_later_n (by kernel_rfl) (by kernel_rfl) ?_
              intro wd hwd
              have hw1 : Below W0.heap.size W0 wd := by rw [hwd]; first | exact Below.refl _ _ | exact below_dr _
              clear hwd
              have HW := hid hw1
              have fa28 := fun p : Later wd.heap.size wd => ((HOA.out.keep (below_next HX.out.2.2.1 (below_next hw1 p.ok))).c28).trans (congrArg some HLA.out)
              have fb28 := fun p : Later wd.heap.size wd => ((HOB.out.keep (below_next HX.out.2.2.1 (below_next hw1 p.ok))).c28).trans (congrArg some HLB.out)
              have f0 := fun p : Later wd.heap.size wd => cell_keep (below_next hw1 p.ok) c0
              have g0 := fun p : Later wd.heap.size wd => cell_keep (below_next hw1 p.ok) d0
              have f1 := fun p : Later wd.heap.size wd => cell_keep (below_next hw1 p.ok) c1
              have g1 := fun p : Later wd.heap.size wd => cell_keep (below_next hw1 p.ok) d1
              have f2 := fun p : Later wd.heap.size wd => cell_keep (below_next hw1 p.ok) c2
              have g2 := fun p : Later wd.heap.size wd => cell_keep (below_next hw1 p.ok) d2
              have f3 := fun p : Later wd.heap.size wd => cell_keep (below_next hw1 p.ok) c3
              have g3 := fun p : Later wd.heap.size wd => cell_keep (below_next hw1 p.ok) d3
              clear hw1 c0 c1 c2 c3 d0 d1 d2 d3
              repeat (go_big_quiet_step (fail))
              refine wpQuiet_nil ?_
              rintro _ ⟨p, rfl⟩
              have HP := hid p.ok
              generalize p.val = w2 at HP
              clear f0 f1 f2 f3 g0 g1 g2 g3 hq fa28 fb28
              go_wp2
              go_ret
              have : sameR a b la lb = false := by unfold sameR; rw [decide_eq_false (not_eq_at HX.out.1 HX.out.2.1 (of_decide_eq_false HE.out))]; rfl
              exact ⟨by rw [← HVAL.out, this]; rfl, below_next HBw.out (below_next HX.out.2.2.1 (below_next HW.out HP.out))⟩
            · rw [he] at hq
              have HE := hid he
              clear he
              go_wp2
              refine wp_region_later_n (by kernel_rfl) (by kernel_rfl) ?_
              intro wd hwd
              have hw1 : Below W0.heap.size W0 wd := by rw [hwd]; first | exact Below.refl _ _ | exact below_dr _
              clear hwd
              have HW := hid hw1
              have fa28 := fun p : Later wd.heap.size wd => ((HOA.out.keep (below_next HX.out.2.2.1 (below_next hw1 p.ok))).c28).trans (congrArg some HLA.out)
              have fb28 := fun p : Later wd.heap.size wd => ((HOB.out.keep (below_next HX.out.2.2.1 (below_next hw1 p.ok))).c28).trans (congrArg some HLB.out)
              have f0 := fun p : Later wd.heap.size wd => cell_keep (below_next hw1 p.ok) c0
              have g0 := fun p : Later wd.heap.size wd => cell_keep (below_next hw1 p.ok) d0
              have f1 := fun p : Later wd.heap.size wd => cell_keep (below_next hw1 p.ok) c1
              have g1 := fun p : Later wd.heap.size wd => cell_keep (below_next hw1 p.ok) d1
              have f2 := fun p : Later wd.heap.size wd => cell_keep (below_next hw1 p.ok) c2
              have g2 := fun p : Later wd.heap.size wd => cell_keep (below_next hw1 p.ok) d2
              have f3 := fun p : Later wd.heap.size wd => cell_keep (below_next hw1 p.ok) c3
              have g3 := fun p : Later wd.heap.size wd => cell_keep (below_next hw1 p.ok) d3
              clear hw1 c0 c1 c2 c3 d0 d1 d2 d3
              repeat (go_big_quiet_step (fail))
              refine wpQuiet_nil ?_
              rintro _ ⟨p, rfl⟩
              have HP := hid p.ok
              generalize p.val = w2 at HP
              clear f0 f1 f2 f3 g0 g1 g2 g3 hq fa28 fb28
              go_wp2
              go_roundw
              case rel =>
                refine ⟨k + 1, by omega, by go_num, below_next HX.out.2.2.1 (below_next HW.out HP.out), fun j hj => ?_⟩
                by_cases hjk : j = k
                · subst hjk
                  rw [HX.out.1, HX.out.2.1, of_decide_eq_true HE.out]
                · exact HX.out.2.2.2 j (by omega)
              case measure => simp [intOf]; omega
      · obtain rfl : k = na := by omega
        have hval : sameF a b = v := by rw [← HVAL.out]; unfold sameR; rw [decide_eq_true (eq_of_at HL.out.1 HL.out.2 hall)]; rfl
        have hBW := below_next HBw.out hBr
        have HOA := hid (HOA.out.keep hBr)
        have HOB := hid (HOB.out.keep hBr)
        clear hall hBr HBw
        unfold sameF at hval
        obtain ⟨e0, he0⟩ : ∃ e, (eqB (a.r, a.n) (b.r, b.n)) = e := ⟨_, rfl⟩
        obtain ⟨e1, he1⟩ : ∃ e, (eqV a.dep b.dep) = e := ⟨_, rfl⟩
        obtain ⟨e2, he2⟩ : ∃ e, (((a.tm : Int) == (b.tm : Int))) = e := ⟨_, rfl⟩
        obtain ⟨e3, he3⟩ : ∃ e, (((a.who : Int) == (b.who : Int))) = e := ⟨_, rfl⟩
        obtain ⟨e4, he4⟩ : ∃ e, (eqB (a.cr, a.cn) (b.cr, b.cn)) = e := ⟨_, rfl⟩
        obtain ⟨e5, he5⟩ : ∃ e, (((a.kd : Int) == (b.kd : Int))) = e := ⟨_, rfl⟩
        obtain ⟨e6, he6⟩ : ∃ e, (eqB (a.dr, a.dn) (b.dr, b.dn)) = e := ⟨_, rfl⟩
        obtain ⟨e7, he7⟩ : ∃ e, (((a.to : Int) == (b.to : Int))) = e := ⟨_, rfl⟩
        obtain ⟨e8, he8⟩ : ∃ e, (((a.ro : Int) == (b.ro : Int))) = e := ⟨_, rfl⟩
        obtain ⟨e9, he9⟩ : ∃ e, (((a.de : Int) == (b.de : Int))) = e := ⟨_, rfl⟩
        obtain ⟨e10, he10⟩ : ∃ e, (((a.cap : Int) == (b.cap : Int))) = e := ⟨_, rfl⟩
        obtain ⟨e11, he11⟩ : ∃ e, (eqB (a.ar, a.an) (b.ar, b.an)) = e := ⟨_, rfl⟩
        obtain ⟨e12, he12⟩ : ∃ e, (eqB (a.vr, a.vn) (b.vr, b.vn)) = e := ⟨_, rfl⟩
        obtain ⟨e13, he13⟩ : ∃ e, (((a.it : Int) == (b.it : Int))) = e := ⟨_, rfl⟩
        obtain ⟨e14, he14⟩ : ∃ e, (((a.qt : Int) == (b.qt : Int))) = e := ⟨_, rfl⟩
        obtain ⟨e15, he15⟩ : ∃ e, (((a.pr : Int) == (b.pr : Int))) = e := ⟨_, rfl⟩
        rw [he0, he1, he2, he3, he4, he5, he6, he7, he8, he9, he10, he11, he12, he13, he14, he15] at hval
        have HV2 := hid hval
        clear hval
        have HQ0 := hid (fun W => (run_eql a.r a.n b.r b.n W).trans (by rw [he0]))
        have HQ4 := hid (fun W => (run_eql a.cr a.cn b.cr b.cn W).trans (by rw [he4]))
        have HQ6 := hid (fun W => (run_eql a.dr a.dn b.dr b.dn W).trans (by rw [he6]))
        have HQ11 := hid (fun W => (run_eql a.ar a.an b.ar b.an W).trans (by rw [he11]))
        have HQ12 := hid (fun W => (run_eql a.vr a.vn b.vr b.vn W).trans (by rw [he12]))
        have HQ1 := hid (fun W => eqlV he1 W)
        have HZ2 := hid he2
        have HZ3 := hid he3
        have HZ5 := hid he5
        have HZ7 := hid he7
        have HZ8 := hid he8
        have HZ9 := hid he9
        have HZ10 := hid he10
        have HZ13 := hid he13
        have HZ14 := hid he14
        have HZ15 := hid he15
        clear he0 he1 he2 he3 he4 he5 he6 he7 he8 he9 he10 he11 he12 he13 he14 he15
        have HBW := hid hBW
        clear hBW
        go_upto_region 8 with (fail)
        clear ca28
        (try dsimp only [List.append])
        refine wp_region_lit ?_
        refine wpList_later ?_
        cases e0
        · have q0 := HQ0.out
          have fa0 := fun p : Later W0.heap.size W0 => (OpAt.keep HOA.out p.ok).c0
          have fb0 := fun p : Later W0.heap.size W0 => (OpAt.keep HOB.out p.ok).c0
          have fa1 := fun p : Later W0.heap.size W0 => (OpAt.keep HOA.out p.ok).c1
          have fb1 := fun p : Later W0.heap.size W0 => (OpAt.keep HOB.out p.ok).c1
          repeat (go_big_quiet_step (fail))
          refine wpQuiet_nil ?_
          rintro _ ⟨p, rfl⟩
          have HP := hid p.ok
          generalize p.val = w2 at HP
          clear q0 fa0 fb0 fa1 fb1
          go_wp2
          go_ret
          exact ⟨by rw [← HV2.out]; rfl, below_next HBW.out HP.out⟩
        · skip
          cases e1
          · have q0 := HQ0.out
            have q1 := HQ1.out
            have fa0 := fun p : Later W0.heap.size W0 => (OpAt.keep HOA.out p.ok).c0
            have fb0 := fun p : Later W0.heap.size W0 => (OpAt.keep HOB.out p.ok).c0
            have fa1 := fun p : Later W0.heap.size W0 => (OpAt.keep HOA.out p.ok).c1
            have fb1 := fun p : Later W0.heap.size W0 => (OpAt.keep HOB.out p.ok).c1
            have fa2 := fun p : Later W0.heap.size W0 => (OpAt.keep HOA.out p.ok).c2
            have fb2 := fun p : Later W0.heap.size W0 => (OpAt.keep HOB.out p.ok).c2
            have fa3 := fun p : Later W0.heap.size W0 => (OpAt.keep HOA.out p.ok).c3
            have fb3 := fun p : Later W0.heap.size W0 => (OpAt.keep HOB.out p.ok).c3
            have fa4 := fun p : Later W0.heap.size W0 => (OpAt.keep HOA.out p.ok).c4
            have fb4 := fun p : Later W0.heap.size W0 => (OpAt.keep HOB.out p.ok).c4
            have fa5 := fun p : Later W0.heap.size W0 => (OpAt.keep HOA.out p.ok).c5
            have fb5 := fun p : Later W0.heap.size W0 => (OpAt.keep HOB.out p.ok).c5
            have fa6 := fun p : Later W0.heap.size W0 => (OpAt.keep HOA.out p.ok).c6
            have fb6 := fun p : Later W0.heap.size W0 => (OpAt.keep HOB.out p.ok).c6
            have fa7 := fun p : Later W0.heap.size W0 => (OpAt.keep HOA.out p.ok).c7
            have fb7 := fun p : Later W0.heap.size W0 => (OpAt.keep HOB.out p.ok).c7
            have fa8 := fun p : Later W0.heap.size W0 => (OpAt.keep HOA.out p.ok).c8
            have fb8 := fun p : Later W0.heap.size W0 => (OpAt.keep HOB.out p.ok).c8
            have fa9 := fun p : Later W0.heap.size W0 => (OpAt.keep HOA.out p.ok).c9
            have fb9 := fun p : Later W0.heap.size W0 => (OpAt.keep HOB.out p.ok).c9
            repeat (go_big_quiet_step (fail))
            refine wpQuiet_nil ?_
            rintro _ ⟨p, rfl⟩
            have HP := hid p.ok
            generalize p.val = w2 at HP
            clear q0 q1 fa0 fb0 fa1 fb1 fa2 fb2 fa3 fb3 fa4 fb4 fa5 fb5 fa6 fb6 fa7 fb7 fa8 fb8 fa9 fb9
            go_wp2
            go_ret
            exact ⟨by rw [← HV2.out]; rfl, below_next HBW.out HP.out⟩
          · skip
            cases e2
            · have q0 := HQ0.out
              have q1 := HQ1.out
              have q2 := HZ2.out
              have fa0 := fun p : Later W0.heap.size W0 => (OpAt.keep HOA.out p.ok).c0
              have fb0 := fun p : Later W0.heap.size W0 => (OpAt.keep HOB.out p.ok).c0
              have fa1 := fun p : Later W0.heap.size W0 => (OpAt.keep HOA.out p.ok).c1
              have fb1 := fun p : Later W0.heap.size W0 => (OpAt.keep HOB.out p.ok).c1
              have fa2 := fun p : Later W0.heap.size W0 => (OpAt.keep HOA.out p.ok).c2
              have fb2 := fun p : Later W0.heap.size W0 => (OpAt.keep HOB.out p.ok).c2
              have fa3 := fun p : Later W0.heap.size W0 => (OpAt.keep HOA.out p.ok).c3
              have fb3 := fun p : Later W0.heap.size W0 => (OpAt.keep HOB.out p.ok).c3
              have fa4 := fun p : Later W0.heap.size W0 => (OpAt.keep HOA.out p.ok).c4
              have fb4 := fun p : Later W0.heap.size W0 => (OpAt.keep HOB.out p.ok).c4
              have fa5 := fun p : Later W0.heap.size W0 => (OpAt.keep HOA.out p.ok).c5
              have fb5 := fun p : Later W0.heap.size W0 => (OpAt.keep HOB.out p.ok).c5
              have fa6 := fun p : Later W0.heap.size W0 => (OpAt.keep HOA.out p.ok).c6
              have fb6 := fun p : Later W0.heap.size W0 => (OpAt.keep HOB.out p.ok).c6
              have fa7 := fun p : Later W0.heap.size W0 => (OpAt.keep HOA.out p.ok).c7
              have fb7 := fun p : Later W0.heap.size W0 => (OpAt.keep HOB.out p.ok).c7
              have fa8 := fun p : Later W0.heap.size W0 => (OpAt.keep HOA.out p.ok).c8
              have fb8 := fun p : Later W0.heap.size W0 => (OpAt.keep HOB.out p.ok).c8
              have fa9 := fun p : Later W0.heap.size W0 => (OpAt.keep HOA.out p.ok).c9
              have fb9 := fun p : Later W0.heap.size W0 => (OpAt.keep HOB.out p.ok).c9
              have fa10 := fun p : Later W0.heap.size W0 => (OpAt.keep HOA.out p.ok).c10
              have fb10 := fun p : Later W0.heap.size W0 => (OpAt.keep HOB.out p.ok).c10
              repeat (go_big_quiet_step (fail))
              refine wpQuiet_nil ?_
              rintro _ ⟨p, rfl⟩
              have HP := hid p.ok
              generalize p.val = w2 at HP
              clear q0 q1 q2 fa0 fb0 fa1 fb1 fa2 fb2 fa3 fb3 fa4 fb4 fa5 fb5 fa6 fb6 fa7 fb7 fa8 fb8 fa9 fb9 fa10 fb10
              go_wp2
              go_ret
              exact ⟨by rw [← HV2.out]; rfl, below_next HBW.out HP.out⟩
            · skip
              cases e3
              · have q0 := HQ0.out
                have q1 := HQ1.out
                have q2 := HZ2.out
                have q3 := HZ3.out
                have fa0 := fun p : Later W0.heap.size W0 => (OpAt.keep HOA.out p.ok).c0
                have fb0 := fun p : Later W0.heap.size W0 => (OpAt.keep HOB.out p.ok).c0
                have fa1 := fun p : Later W0.heap.size W0 => (OpAt.keep HOA.out p.ok).c1
                have fb1 := fun p : Later W0.heap.size W0 => (OpAt.keep HOB.out p.ok).c1
                have fa2 := fun p : Later W0.heap.size W0 => (OpAt.keep HOA.out p.ok).c2
                have fb2 := fun p : Later W0.heap.size W0 => (OpAt.keep HOB.out p.ok).c2
                have fa3 := fun p : Later W0.heap.size W0 => (OpAt.keep HOA.out p.ok).c3
                have fb3 := fun p : Later W0.heap.size W0 => (OpAt.keep HOB.out p.ok).c3
                have fa4 := fun p : Later W0.heap.size W0 => (OpAt.keep HOA.out p.ok).c4
                have fb4 := fun p : Later W0.heap.size W0 => (OpAt.keep HOB.out p.ok).c4
                have fa5 := fun p : Later W0.heap.size W0 => (OpAt.keep HOA.out p.ok).c5
                have fb5 := fun p : Later W0.heap.size W0 => (OpAt.keep HOB.out p.ok).c5
                have fa6 := fun p : Later W0.heap.size W0 => (OpAt.keep HOA.out p.ok).c6
                have fb6 := fun p : Later W0.heap.size W0 => (OpAt.keep HOB.out p.ok).c6
                have fa7 := fun p : Later W0.heap.size W0 => (OpAt.keep HOA.out p.ok).c7
                have fb7 := fun p : Later W0.heap.size W0 => (OpAt.keep HOB.out p.ok).c7
                have fa8 := fun p : Later W0.heap.size W0 => (OpAt.keep HOA.out p.ok).c8
                have fb8 := fun p : Later W0.heap.size W0 => (OpAt.keep HOB.out p.ok).c8
                have fa9 := fun p : Later W0.heap.size W0 => (OpAt.keep HOA.out p.ok).c9
                have fb9 := fun p : Later W0.heap.size W0 => (OpAt.keep HOB.out p.ok).c9
                have fa10 := fun p : Later W0.heap.size W0 => (OpAt.keep HOA.out p.ok).c10
                have fb10 := fun p : Later W0.heap.size W0 => (OpAt.keep HOB.out p.ok).c10
                have fa11 := fun p : Later W0.heap.size W0 => (OpAt.keep HOA.out p.ok).c11
                have fb11 := fun p : Later W0.heap.size W0 => (OpAt.keep HOB.out p.ok).c11
                repeat (go_big_quiet_step (fail))
                refine wpQuiet_nil ?_
                rintro _ ⟨p, rfl⟩
                have HP := hid p.ok
                generalize p.val = w2 at HP
                clear q0 q1 q2 q3 fa0 fb0 fa1 fb1 fa2 fb2 fa3 fb3 fa4 fb4 fa5 fb5 fa6 fb6 fa7 fb7 fa8 fb8 fa9 fb9 fa10 fb10 fa11 fb11
                go_wp2
                go_ret
                exact ⟨by rw [← HV2.out]; rfl, below_next HBW.out HP.out⟩
              · skip
                cases e4
                · have q0 := HQ0.out
                  have q1 := HQ1.out
                  have q2 := HZ2.out
                  have q3 := HZ3.out
                  have q4 := HQ4.out
                  have fa0 := fun p : Later W0.heap.size W0 => (OpAt.keep HOA.out p.ok).c0
                  have fb0 := fun p : Later W0.heap.size W0 => (OpAt.keep HOB.out p.ok).c0
                  have fa1 := fun p : Later W0.heap.size W0 => (OpAt.keep HOA.out p.ok).c1
                  have fb1 := fun p : Later W0.heap.size W0 => (OpAt.keep HOB.out p.ok).c1
                  have fa2 := fun p : Later W0.heap.size W0 => (OpAt.keep HOA.out p.ok).c2
                  have fb2 := fun p : Later W0.heap.size W0 => (OpAt.keep HOB.out p.ok).c2
                  have fa3 := fun p : Later W0.heap.size W0 => (OpAt.keep HOA.out p.ok).c3
                  have fb3 := fun p : Later W0.heap.size W0 => (OpAt.keep HOB.out p.ok).c3
                  have fa4 := fun p : Later W0.heap.size W0 => (OpAt.keep HOA.out p.ok).c4
                  have fb4 := fun p : Later W0.heap.size W0 => (OpAt.keep HOB.out p.ok).c4
                  have fa5 := fun p : Later W0.heap.size W0 => (OpAt.keep HOA.out p.ok).c5
                  have fb5 := fun p : Later W0.heap.size W0 => (OpAt.keep HOB.out p.ok).c5
                  have fa6 := fun p : Later W0.heap.size W0 => (OpAt.keep HOA.out p.ok).c6
                  have fb6 := fun p : Later W0.heap.size W0 => (OpAt.keep HOB.out p.ok).c6
                  have fa7 := fun p : Later W0.heap.size W0 => (OpAt.keep HOA.out p.ok).c7
                  have fb7 := fun p : Later W0.heap.size W0 => (OpAt.keep HOB.out p.ok).c7
                  have fa8 := fun p : Later W0.heap.size W0 => (OpAt.keep HOA.out p.ok).c8
                  have fb8 := fun p : Later W0.heap.size W0 => (OpAt.keep HOB.out p.ok).c8
                  have fa9 := fun p : Later W0.heap.size W0 => (OpAt.keep HOA.out p.ok).c9
                  have fb9 := fun p : Later W0.heap.size W0 => (OpAt.keep HOB.out p.ok).c9
                  have fa10 := fun p : Later W0.heap.size W0 => (OpAt.keep HOA.out p.ok).c10
                  have fb10 := fun p : Later W0.heap.size W0 => (OpAt.keep HOB.out p.ok).c10
                  have fa11 := fun p : Later W0.heap.size W0 => (OpAt.keep HOA.out p.ok).c11
                  have fb11 := fun p : Later W0.heap.size W0 => (OpAt.keep HOB.out p.ok).c11
                  have fa12 := fun p : Later W0.heap.size W0 => (OpAt.keep HOA.out p.ok).c12
                  have fb12 := fun p : Later W0.heap.size W0 => (OpAt.keep HOB.out p.ok).c12
                  have fa13 := fun p : Later W0.heap.size W0 => (OpAt.keep HOA.out p.ok).c13
                  have fb13 := fun p : Later W0.heap.size W0 => (OpAt.keep HOB.out p.ok).c13
                  repeat (go_big_quiet_step (fail))
                  refine wpQuiet_nil ?_
                  rintro _ ⟨p, rfl⟩
                  have HP := hid p.ok
                  generalize p.val = w2 at HP
                  clear q0 q1 q2 q3 q4 fa0 fb0 fa1 fb1 fa2 fb2 fa3 fb3 fa4 fb4 fa5 fb5 fa6 fb6 fa7 fb7 fa8 fb8 fa9 fb9 fa10 fb10 fa11 fb11 fa12 fb12 fa13 fb13
                  go_wp2
                  go_ret
                  exact ⟨by rw [← HV2.out]; rfl, below_next HBW.out HP.out⟩
                · skip
                  cases e5
                  · have q0 := HQ0.out
                    have q1 := HQ1.out
                    have q2 := HZ2.out
                    have q3 := HZ3.out
                    have q4 := HQ4.out
                    have q5 := HZ5.out
                    have fa0 := fun p : Later W0.heap.size W0 => (OpAt.keep HOA.out p.ok).c0
                    have fb0 := fun p : Later W0.heap.size W0 => (OpAt.keep HOB.out p.ok).c0
                    have fa1 := fun p : Later W0.heap.size W0 => (OpAt.keep HOA.out p.ok).c1
                    have fb1 := fun p : Later W0.heap.size W0 => (OpAt.keep HOB.out p.ok).c1
                    have fa2 := fun p : Later W0.heap.size W0 => (OpAt.keep HOA.out p.ok).c2
                    have fb2 := fun p : Later W0.heap.size W0 => (OpAt.keep HOB.out p.ok).c2
                    have fa3 := fun p : Later W0.heap.size W0 => (OpAt.keep HOA.out p.ok).c3
                    have fb3 := fun p : Later W0.heap.size W0 => (OpAt.keep HOB.out p.ok).c3
                    have fa4 := fun p : Later W0.heap.size W0 => (OpAt.keep HOA.out p.ok).c4
                    have fb4 := fun p : Later W0.heap.size W0 => (OpAt.keep HOB.out p.ok).c4
                    have fa5 := fun p : Later W0.heap.size W0 => (OpAt.keep HOA.out p.ok).c5
                    have fb5 := fun p : Later W0.heap.size W0 => (OpAt.keep HOB.out p.ok).c5
                    have fa6 := fun p : Later W0.heap.size W0 => (OpAt.keep HOA.out p.ok).c6
                    have fb6 := fun p : Later W0.heap.size W0 => (OpAt.keep HOB.out p.ok).c6
                    have fa7 := fun p : Later W0.heap.size W0 => (OpAt.keep HOA.out p.ok).c7
                    have fb7 := fun p : Later W0.heap.size W0 => (OpAt.keep HOB.out p.ok).c7
                    have fa8 := fun p : Later W0.heap.size W0 => (OpAt.keep HOA.out p.ok).c8
                    have fb8 := fun p : Later W0.heap.size W0 => (OpAt.keep HOB.out p.ok).c8
                    have fa9 := fun p : Later W0.heap.size W0 => (OpAt.keep HOA.out p.ok).c9
                    have fb9 := fun p : Later W0.heap.size W0 => (OpAt.keep HOB.out p.ok).c9
                    have fa10 := fun p : Later W0.heap.size W0 => (OpAt.keep HOA.out p.ok).c10
                    have fb10 := fun p : Later W0.heap.size W0 => (OpAt.keep HOB.out p.ok).c10
                    have fa11 := fun p : Later W0.heap.size W0 => (OpAt.keep HOA.out p.ok).c11
                    have fb11 := fun p : Later W0.heap.size W0 => (OpAt.keep HOB.out p.ok).c11
                    have fa12 := fun p : Later W0.heap.size W0 => (OpAt.keep HOA.out p.ok).c12
                    have fb12 := fun p : Later W0.heap.size W0 => (OpAt.keep HOB.out p.ok).c12
                    have fa13 := fun p : Later W0.heap.size W0 => (OpAt.keep HOA.out p.ok).c13
                    have fb13 := fun p : Later W0.heap.size W0 => (OpAt.keep HOB.out p.ok).c13
                    have fa14 := fun p : Later W0.heap.size W0 => (OpAt.keep HOA.out p.ok).c14
                    have fb14 := fun p : Later W0.heap.size W0 => (OpAt.keep HOB.out p.ok).c14
                    repeat (go_big_quiet_step (fail))
                    refine wpQuiet_nil ?_
                    rintro _ ⟨p, rfl⟩
                    have HP := hid p.ok
                    generalize p.val = w2 at HP
                    clear q0 q1 q2 q3 q4 q5 fa0 fb0 fa1 fb1 fa2 fb2 fa3 fb3 fa4 fb4 fa5 fb5 fa6 fb6 fa7 fb7 fa8 fb8 fa9 fb9 fa10 fb10 fa11 fb11 fa12 fb12 fa13 fb13 fa14 fb14
                    go_wp2
                    go_ret
                    exact ⟨by rw [← HV2.out]; rfl, below_next HBW.out HP.out⟩
                  · skip
                    cases e6
                    · have q0 := HQ0.out
                      have q1 := HQ1.out
                      have q2 := HZ2.out
                      have q3 := HZ3.out
                      have q4 := HQ4.out
                      have q5 := HZ5.out
                      have q6 := HQ6.out
                      have fa0 := fun p : Later W0.heap.size W0 => (OpAt.keep HOA.out p.ok).c0
                      have fb0 := fun p : Later W0.heap.size W0 => (OpAt.keep HOB.out p.ok).c0
                      have fa1 := fun p : Later W0.heap.size W0 => (OpAt.keep HOA.out p.ok).c1
                      have fb1 := fun p : Later W0.heap.size W0 => (OpAt.keep HOB.out p.ok).c1
                      have fa2 := fun p : Later W0.heap.size W0 => (OpAt.keep HOA.out p.ok).c2
                      have fb2 := fun p : Later W0.heap.size W0 => (OpAt.keep HOB.out p.ok).c2
                      have fa3 := fun p : Later W0.heap.size W0 => (OpAt.keep HOA.out p.ok).c3
                      have fb3 := fun p : Later W0.heap.size W0 => (OpAt.keep HOB.out p.ok).c3
                      have fa4 := fun p : Later W0.heap.size W0 => (OpAt.keep HOA.out p.ok).c4
                      have fb4 := fun p : Later W0.heap.size W0 => (OpAt.keep HOB.out p.ok).c4
                      have fa5 := fun p : Later W0.heap.size W0 => (OpAt.keep HOA.out p.ok).c5
                      have fb5 := fun p : Later W0.heap.size W0 => (OpAt.keep HOB.out p.ok).c5
                      have fa6 := fun p : Later W0.heap.size W0 => (OpAt.keep HOA.out p.ok).c6
                      have fb6 := fun p : Later W0.heap.size W0 => (OpAt.keep HOB.out p.ok).c6
                      have fa7 := fun p : Later W0.heap.size W0 => (OpAt.keep HOA.out p.ok).c7
                      have fb7 := fun p : Later W0.heap.size W0 => (OpAt.keep HOB.out p.ok).c7
                      have fa8 := fun p : Later W0.heap.size W0 => (OpAt.keep HOA.out p.ok).c8
                      have fb8 := fun p : Later W0.heap.size W0 => (OpAt.keep HOB.out p.ok).c8
                      have fa9 := fun p : Later W0.heap.size W0 => (OpAt.keep HOA.out p.ok).c9
                      have fb9 := fun p : Later W0.heap.size W0 => (OpAt.keep HOB.out p.ok).c9
                      have fa10 := fun p : Later W0.heap.size W0 => (OpAt.keep HOA.out p.ok).c10
                      have fb10 := fun p : Later W0.heap.size W0 => (OpAt.keep HOB.out p.ok).c10
                      have fa11 := fun p : Later W0.heap.size W0 => (OpAt.keep HOA.out p.ok).c11
                      have fb11 := fun p : Later W0.heap.size W0 => (OpAt.keep HOB.out p.ok).c11
                      have fa12 := fun p : Later W0.heap.size W0 => (OpAt.keep HOA.out p.ok).c12
                      have fb12 := fun p : Later W0.heap.size W0 => (OpAt.keep HOB.out p.ok).c12
                      have fa13 := fun p : Later W0.heap.size W0 => (OpAt.keep HOA.out p.ok).c13
                      have fb13 := fun p : Later W0.heap.size W0 => (OpAt.keep HOB.out p.ok).c13
                      have fa14 := fun p : Later W0.heap.size W0 => (OpAt.keep HOA.out p.ok).c14
                      have fb14 := fun p : Later W0.heap.size W0 => (OpAt.keep HOB.out p.ok).c14
                      have fa15 := fun p : Later W0.heap.size W0 => (OpAt.keep HOA.out p.ok).c15
                      have fb15 := fun p : Later W0.heap.size W0 => (OpAt.keep HOB.out p.ok).c15
                      have fa16 := fun p : Later W0.heap.size W0 => (OpAt.keep HOA.out p.ok).c16
                      have fb16 := fun p : Later W0.heap.size W0 => (OpAt.keep HOB.out p.ok).c16
                      repeat (go_big_quiet_step (fail))
                      refine wpQuiet_nil ?_
                      rintro _ ⟨p, rfl⟩
                      have HP := hid p.ok
                      generalize p.val = w2 at HP
                      clear q0 q1 q2 q3 q4 q5 q6 fa0 fb0 fa1 fb1 fa2 fb2 fa3 fb3 fa4 fb4 fa5 fb5 fa6 fb6 fa7 fb7 fa8 fb8 fa9 fb9 fa10 fb10 fa11 fb11 fa12 fb12 fa13 fb13 fa14 fb14 fa15 fb15 fa16 fb16
                      go_wp2
                      go_ret
                      exact ⟨by rw [← HV2.out]; rfl, below_next HBW.out HP.out⟩
                    · skip
                      cases e7
                      · have q0 := HQ0.out
                        have q1 := HQ1.out
                        have q2 := HZ2.out
                        have q3 := HZ3.out
                        have q4 := HQ4.out
                        have q5 := HZ5.out
                        have q6 := HQ6.out
                        have q7 := HZ7.out
                        have fa0 := fun p : Later W0.heap.size W0 => (OpAt.keep HOA.out p.ok).c0
                        have fb0 := fun p : Later W0.heap.size W0 => (OpAt.keep HOB.out p.ok).c0
                        have fa1 := fun p : Later W0.heap.size W0 => (OpAt.keep HOA.out p.ok).c1
                        have fb1 := fun p : Later W0.heap.size W0 => (OpAt.keep HOB.out p.ok).c1
                        have fa2 := fun p : Later W0.heap.size W0 => (OpAt.keep HOA.out p.ok).c2
                        have fb2 := fun p : Later W0.heap.size W0 => (OpAt.keep HOB.out p.ok).c2
                        have fa3 := fun p : Later W0.heap.size W0 => (OpAt.keep HOA.out p.ok).c3
                        have fb3 := fun p : Later W0.heap.size W0 => (OpAt.keep HOB.out p.ok).c3
                        have fa4 := fun p : Later W0.heap.size W0 => (OpAt.keep HOA.out p.ok).c4
                        have fb4 := fun p : Later W0.heap.size W0 => (OpAt.keep HOB.out p.ok).c4
                        have fa5 := fun p : Later W0.heap.size W0 => (OpAt.keep HOA.out p.ok).c5
                        have fb5 := fun p : Later W0.heap.size W0 => (OpAt.keep HOB.out p.ok).c5
                        have fa6 := fun p : Later W0.heap.size W0 => (OpAt.keep HOA.out p.ok).c6
                        have fb6 := fun p : Later W0.heap.size W0 => (OpAt.keep HOB.out p.ok).c6
                        have fa7 := fun p : Later W0.heap.size W0 => (OpAt.keep HOA.out p.ok).c7
                        have fb7 := fun p : Later W0.heap.size W0 => (OpAt.keep HOB.out p.ok).c7
                        have fa8 := fun p : Later W0.heap.size W0 => (OpAt.keep HOA.out p.ok).c8
                        have fb8 := fun p : Later W0.heap.size W0 => (OpAt.keep HOB.out p.ok).c8
                        have fa9 := fun p : Later W0.heap.size W0 => (OpAt.keep HOA.out p.ok).c9
                        have fb9 := fun p : Later W0.heap.size W0 => (OpAt.keep HOB.out p.ok).c9
                        have fa10 := fun p : Later W0.heap.size W0 => (OpAt.keep HOA.out p.ok).c10
                        have fb10 := fun p : Later W0.heap.size W0 => (OpAt.keep HOB.out p.ok).c10
                        have fa11 := fun p : Later W0.heap.size W0 => (OpAt.keep HOA.out p.ok).c11
                        have fb11 := fun p : Later W0.heap.size W0 => (OpAt.keep HOB.out p.ok).c11
                        have fa12 := fun p : Later W0.heap.size W0 => (OpAt.keep HOA.out p.ok).c12
                        have fb12 := fun p : Later W0.heap.size W0 => (OpAt.keep HOB.out p.ok).c12
                        have fa13 := fun p : Later W0.heap.size W0 => (OpAt.keep HOA.out p.ok).c13
                        have fb13 := fun p : Later W0.heap.size W0 => (OpAt.keep HOB.out p.ok).c13
                        have fa14 := fun p : Later W0.heap.size W0 => (OpAt.keep HOA.out p.ok).c14
                        have fb14 := fun p : Later W0.heap.size W0 => (OpAt.keep HOB.out p.ok).c14
                        have fa15 := fun p : Later W0.heap.size W0 => (OpAt.keep HOA.out p.ok).c15
                        have fb15 := fun p : Later W0.heap.size W0 => (OpAt.keep HOB.out p.ok).c15
                        have fa16 := fun p : Later W0.heap.size W0 => (OpAt.keep HOA.out p.ok).c16
                        have fb16 := fun p : Later W0.heap.size W0 => (OpAt.keep HOB.out p.ok).c16
                        have fa17 := fun p : Later W0.heap.size W0 => (OpAt.keep HOA.out p.ok).c17
                        have fb17 := fun p : Later W0.heap.size W0 => (OpAt.keep HOB.out p.ok).c17
                        repeat (go_big_quiet_step (fail))
                        refine wpQuiet_nil ?_
                        rintro _ ⟨p, rfl⟩
                        have HP := hid p.ok
                        generalize p.val = w2 at HP
                        clear q0 q1 q2 q3 q4 q5 q6 q7 fa0 fb0 fa1 fb1 fa2 fb2 fa3 fb3 fa4 fb4 fa5 fb5 fa6 fb6 fa7 fb7 fa8 fb8 fa9 fb9 fa10 fb10 fa11 fb11 fa12 fb12 fa13 fb13 fa14 fb14 fa15 fb15 fa16 fb16 fa17 fb17
                        go_wp2
                        go_ret
                        exact ⟨by rw [← HV2.out]; rfl, below_next HBW.out HP.out⟩
                      · skip
                        cases e8
                        · have q0 := HQ0.out
                          have q1 := HQ1.out
                          have q2 := HZ2.out
                          have q3 := HZ3.out
                          have q4 := HQ4.out
                          have q5 := HZ5.out
                          have q6 := HQ6.out
                          have q7 := HZ7.out
                          have q8 := HZ8.out
                          have fa0 := fun p : Later W0.heap.size W0 => (OpAt.keep HOA.out p.ok).c0
                          have fb0 := fun p : Later W0.heap.size W0 => (OpAt.keep HOB.out p.ok).c0
                          have fa1 := fun p : Later W0.heap.size W0 => (OpAt.keep HOA.out p.ok).c1
                          have fb1 := fun p : Later W0.heap.size W0 => (OpAt.keep HOB.out p.ok).c1
                          have fa2 := fun p : Later W0.heap.size W0 => (OpAt.keep HOA.out p.ok).c2
                          have fb2 := fun p : Later W0.heap.size W0 => (OpAt.keep HOB.out p.ok).c2
                          have fa3 := fun p : Later W0.heap.size W0 => (OpAt.keep HOA.out p.ok).c3
                          have fb3 := fun p : Later W0.heap.size W0 => (OpAt.keep HOB.out p.ok).c3
                          have fa4 := fun p : Later W0.heap.size W0 => (OpAt.keep HOA.out p.ok).c4
                          have fb4 := fun p : Later W0.heap.size W0 => (OpAt.keep HOB.out p.ok).c4
                          have fa5 := fun p : Later W0.heap.size W0 => (OpAt.keep HOA.out p.ok).c5
                          have fb5 := fun p : Later W0.heap.size W0 => (OpAt.keep HOB.out p.ok).c5
                          have fa6 := fun p : Later W0.heap.size W0 => (OpAt.keep HOA.out p.ok).c6
                          have fb6 := fun p : Later W0.heap.size W0 => (OpAt.keep HOB.out p.ok).c6
                          have fa7 := fun p : Later W0.heap.size W0 => (OpAt.keep HOA.out p.ok).c7
                          have fb7 := fun p : Later W0.heap.size W0 => (OpAt.keep HOB.out p.ok).c7
                          have fa8 := fun p : Later W0.heap.size W0 => (OpAt.keep HOA.out p.ok).c8
                          have fb8 := fun p : Later W0.heap.size W0 => (OpAt.keep HOB.out p.ok).c8
                          have fa9 := fun p : Later W0.heap.size W0 => (OpAt.keep HOA.out p.ok).c9
                          have fb9 := fun p : Later W0.heap.size W0 => (OpAt.keep HOB.out p.ok).c9
                          have fa10 := fun p : Later W0.heap.size W0 => (OpAt.keep HOA.out p.ok).c10
                          have fb10 := fun p : Later W0.heap.size W0 => (OpAt.keep HOB.out p.ok).c10
                          have fa11 := fun p : Later W0.heap.size W0 => (OpAt.keep HOA.out p.ok).c11
                          have fb11 := fun p : Later W0.heap.size W0 => (OpAt.keep HOB.out p.ok).c11
                          have fa12 := fun p : Later W0.heap.size W0 => (OpAt.keep HOA.out p.ok).c12
                          have fb12 := fun p : Later W0.heap.size W0 => (OpAt.keep HOB.out p.ok).c12
                          have fa13 := fun p : Later W0.heap.size W0 => (OpAt.keep HOA.out p.ok).c13
                          have fb13 := fun p : Later W0.heap.size W0 => (OpAt.keep HOB.out p.ok).c13
                          have fa14 := fun p : Later W0.heap.size W0 => (OpAt.keep HOA.out p.ok).c14
                          have fb14 := fun p : Later W0.heap.size W0 => (OpAt.keep HOB.out p.ok).c14
                          have fa15 := fun p : Later W0.heap.size W0 => (OpAt.keep HOA.out p.ok).c15
                          have fb15 := fun p : Later W0.heap.size W0 => (OpAt.keep HOB.out p.ok).c15
                          have fa16 := fun p : Later W0.heap.size W0 => (OpAt.keep HOA.out p.ok).c16
                          have fb16 := fun p : Later W0.heap.size W0 => (OpAt.keep HOB.out p.ok).c16
                          have fa17 := fun p : Later W0.heap.size W0 => (OpAt.keep HOA.out p.ok).c17
                          have fb17 := fun p : Later W0.heap.size W0 => (OpAt.keep HOB.out p.ok).c17
                          have fa18 := fun p : Later W0.heap.size W0 => (OpAt.keep HOA.out p.ok).c18
                          have fb18 := fun p : Later W0.heap.size W0 => (OpAt.keep HOB.out p.ok).c18
                          repeat (go_big_quiet_step (fail))
                          refine wpQuiet_nil ?_
                          rintro _ ⟨p, rfl⟩
                          have HP := hid p.ok
                          generalize p.val = w2 at HP
                          clear q0 q1 q2 q3 q4 q5 q6 q7 q8 fa0 fb0 fa1 fb1 fa2 fb2 fa3 fb3 fa4 fb4 fa5 fb5 fa6 fb6 fa7 fb7 fa8 fb8 fa9 fb9 fa10 fb10 fa11 fb11 fa12 fb12 fa13 fb13 fa14 fb14 fa15 fb15 fa16 fb16 fa17 fb17 fa18 fb18
                          go_wp2
                          go_ret
                          exact ⟨by rw [← HV2.out]; rfl, below_next HBW.out HP.out⟩
                        · skip
                          cases e9
                          · have q0 := HQ0.out
                            have q1 := HQ1.out
                            have q2 := HZ2.out
                            have q3 := HZ3.out
                            have q4 := HQ4.out
                            have q5 := HZ5.out
                            have q6 := HQ6.out
                            have q7 := HZ7.out
                            have q8 := HZ8.out
                            have q9 := HZ9.out
                            have fa0 := fun p : Later W0.heap.size W0 => (OpAt.keep HOA.out p.ok).c0
                            have fb0 := fun p : Later W0.heap.size W0 => (OpAt.keep HOB.out p.ok).c0
                            have fa1 := fun p : Later W0.heap.size W0 => (OpAt.keep HOA.out p.ok).c1
                            have fb1 := fun p : Later W0.heap.size W0 => (OpAt.keep HOB.out p.ok).c1
                            have fa2 := fun p : Later W0.heap.size W0 => (OpAt.keep HOA.out p.ok).c2
                            have fb2 := fun p : Later W0.heap.size W0 => (OpAt.keep HOB.out p.ok).c2
                            have fa3 := fun p : Later W0.heap.size W0 => (OpAt.keep HOA.out p.ok).c3
                            have fb3 := fun p : Later W0.heap.size W0 => (OpAt.keep HOB.out p.ok).c3
                            have fa4 := fun p : Later W0.heap.size W0 => (OpAt.keep HOA.out p.ok).c4
                            have fb4 := fun p : Later W0.heap.size W0 => (OpAt.keep HOB.out p.ok).c4
                            have fa5 := fun p : Later W0.heap.size W0 => (OpAt.keep HOA.out p.ok).c5
                            have fb5 := fun p : Later W0.heap.size W0 => (OpAt.keep HOB.out p.ok).c5
                            have fa6 := fun p : Later W0.heap.size W0 => (OpAt.keep HOA.out p.ok).c6
                            have fb6 := fun p : Later W0.heap.size W0 => (OpAt.keep HOB.out p.ok).c6
                            have fa7 := fun p : Later W0.heap.size W0 => (OpAt.keep HOA.out p.ok).c7
                            have fb7 := fun p : Later W0.heap.size W0 => (OpAt.keep HOB.out p.ok).c7
                            have fa8 := fun p : Later W0.heap.size W0 => (OpAt.keep HOA.out p.ok).c8
                            have fb8 := fun p : Later W0.heap.size W0 => (OpAt.keep HOB.out p.ok).c8
                            have fa9 := fun p : Later W0.heap.size W0 => (OpAt.keep HOA.out p.ok).c9
                            have fb9 := fun p : Later W0.heap.size W0 => (OpAt.keep HOB.out p.ok).c9
                            have fa10 := fun p : Later W0.heap.size W0 => (OpAt.keep HOA.out p.ok).c10
                            have fb10 := fun p : Later W0.heap.size W0 => (OpAt.keep HOB.out p.ok).c10
                            have fa11 := fun p : Later W0.heap.size W0 => (OpAt.keep HOA.out p.ok).c11
                            have fb11 := fun p : Later W0.heap.size W0 => (OpAt.keep HOB.out p.ok).c11
                            have fa12 := fun p : Later W0.heap.size W0 => (OpAt.keep HOA.out p.ok).c12
                            have fb12 := fun p : Later W0.heap.size W0 => (OpAt.keep HOB.out p.ok).c12
                            have fa13 := fun p : Later W0.heap.size W0 => (OpAt.keep HOA.out p.ok).c13
                            have fb13 := fun p : Later W0.heap.size W0 => (OpAt.keep HOB.out p.ok).c13
                            have fa14 := fun p : Later W0.heap.size W0 => (OpAt.keep HOA.out p.ok).c14
                            have fb14 := fun p : Later W0.heap.size W0 => (OpAt.keep HOB.out p.ok).c14
                            have fa15 := fun p : Later W0.heap.size W0 => (OpAt.keep HOA.out p.ok).c15
                            have fb15 := fun p : Later W0.heap.size W0 => (OpAt.keep HOB.out p.ok).c15
                            have fa16 := fun p : Later W0.heap.size W0 => (OpAt.keep HOA.out p.ok).c16
                            have fb16 := fun p : Later W0.heap.size W0 => (OpAt.keep HOB.out p.ok).c16
                            have fa17 := fun p : Later W0.heap.size W0 => (OpAt.keep HOA.out p.ok).c17
                            have fb17 := fun p : Later W0.heap.size W0 => (OpAt.keep HOB.out p.ok).c17
                            have fa18 := fun p : Later W0.heap.size W0 => (OpAt.keep HOA.out p.ok).c18
                            have fb18 := fun p : Later W0.heap.size W0 => (OpAt.keep HOB.out p.ok).c18
                            have fa19 := fun p : Later W0.heap.size W0 => (OpAt.keep HOA.out p.ok).c19
                            have fb19 := fun p : Later W0.heap.size W0 => (OpAt.keep HOB.out p.ok).c19
                            repeat (go_big_quiet_step (fail))
                            refine wpQuiet_nil ?_
                            rintro _ ⟨p, rfl⟩
                            have HP := hid p.ok
                            generalize p.val = w2 at HP
                            clear q0 q1 q2 q3 q4 q5 q6 q7 q8 q9 fa0 fb0 fa1 fb1 fa2 fb2 fa3 fb3 fa4 fb4 fa5 fb5 fa6 fb6 fa7 fb7 fa8 fb8 fa9 fb9 fa10 fb10 fa11 fb11 fa12 fb12 fa13 fb13 fa14 fb14 fa15 fb15 fa16 fb16 fa17 fb17 fa18 fb18 fa19 fb19
                            go_wp2
                            go_ret
                            exact ⟨by rw [← HV2.out]; rfl, below_next HBW.out HP.out⟩
                          · skip
                            cases e10
                            · have q0 := HQ0.out
                              have q1 := HQ1.out
                              have q2 := HZ2.out
                              have q3 := HZ3.out
                              have q4 := HQ4.out
                              have q5 := HZ5.out
                              have q6 := HQ6.out
                              have q7 := HZ7.out
                              have q8 := HZ8.out
                              have q9 := HZ9.out
                              have q10 := HZ10.out
                              have fa0 := fun p : Later W0.heap.size W0 => (OpAt.keep HOA.out p.ok).c0
                              have fb0 := fun p : Later W0.heap.size W0 => (OpAt.keep HOB.out p.ok).c0
                              have fa1 := fun p : Later W0.heap.size W0 => (OpAt.keep HOA.out p.ok).c1
                              have fb1 := fun p : Later W0.heap.size W0 => (OpAt.keep HOB.out p.ok).c1
                              have fa2 := fun p : Later W0.heap.size W0 => (OpAt.keep HOA.out p.ok).c2
                              have fb2 := fun p : Later W0.heap.size W0 => (OpAt.keep HOB.out p.ok).c2
                              have fa3 := fun p : Later W0.heap.size W0 => (OpAt.keep HOA.out p.ok).c3
                              have fb3 := fun p : Later W0.heap.size W0 => (OpAt.keep HOB.out p.ok).c3
                              have fa4 := fun p : Later W0.heap.size W0 => (OpAt.keep HOA.out p.ok).c4
                              have fb4 := fun p : Later W0.heap.size W0 => (OpAt.keep HOB.out p.ok).c4
                              have fa5 := fun p : Later W0.heap.size W0 => (OpAt.keep HOA.out p.ok).c5
                              have fb5 := fun p : Later W0.heap.size W0 => (OpAt.keep HOB.out p.ok).c5
                              have fa6 := fun p : Later W0.heap.size W0 => (OpAt.keep HOA.out p.ok).c6
                              have fb6 := fun p : Later W0.heap.size W0 => (OpAt.keep HOB.out p.ok).c6
                              have fa7 := fun p : Later W0.heap.size W0 => (OpAt.keep HOA.out p.ok).c7
                              have fb7 := fun p : Later W0.heap.size W0 => (OpAt.keep HOB.out p.ok).c7
                              have fa8 := fun p : Later W0.heap.size W0 => (OpAt.keep HOA.out p.ok).c8
                              have fb8 := fun p : Later W0.heap.size W0 => (OpAt.keep HOB.out p.ok).c8
                              have fa9 := fun p : Later W0.heap.size W0 => (OpAt.keep HOA.out p.ok).c9
                              have fb9 := fun p : Later W0.heap.size W0 => (OpAt.keep HOB.out p.ok).c9
                              have fa10 := fun p : Later W0.heap.size W0 => (OpAt.keep HOA.out p.ok).c10
                              have fb10 := fun p : Later W0.heap.size W0 => (OpAt.keep HOB.out p.ok).c10
                              have fa11 := fun p : Later W0.heap.size W0 => (OpAt.keep HOA.out p.ok).c11
                              have fb11 := fun p : Later W0.heap.size W0 => (OpAt.keep HOB.out p.ok).c11
                              have fa12 := fun p : Later W0.heap.size W0 => (OpAt.keep HOA.out p.ok).c12
                              have fb12 := fun p : Later W0.heap.size W0 => (OpAt.keep HOB.out p.ok).c12
                              have fa13 := fun p : Later W0.heap.size W0 => (OpAt.keep HOA.out p.ok).c13
                              have fb13 := fun p : Later W0.heap.size W0 => (OpAt.keep HOB.out p.ok).c13
                              have fa14 := fun p : Later W0.heap.size W0 => (OpAt.keep HOA.out p.ok).c14
                              have fb14 := fun p : Later W0.heap.size W0 => (OpAt.keep HOB.out p.ok).c14
                              have fa15 := fun p : Later W0.heap.size W0 => (OpAt.keep HOA.out p.ok).c15
                              have fb15 := fun p : Later W0.heap.size W0 => (OpAt.keep HOB.out p.ok).c15
                              have fa16 := fun p : Later W0.heap.size W0 => (OpAt.keep HOA.out p.ok).c16
                              have fb16 := fun p : Later W0.heap.size W0 => (OpAt.keep HOB.out p.ok).c16
                              have fa17 := fun p : Later W0.heap.size W0 => (OpAt.keep HOA.out p.ok).c17
                              have fb17 := fun p : Later W0.heap.size W0 => (OpAt.keep HOB.out p.ok).c17
                              have fa18 := fun p : Later W0.heap.size W0 => (OpAt.keep HOA.out p.ok).c18
                              have fb18 := fun p : Later W0.heap.size W0 => (OpAt.keep HOB.out p.ok).c18
                              have fa19 := fun p : Later W0.heap.size W0 => (OpAt.keep HOA.out p.ok).c19
                              have fb19 := fun p : Later W0.heap.size W0 => (OpAt.keep HOB.out p.ok).c19
                              have fa20 := fun p : Later W0.heap.size W0 => (OpAt.keep HOA.out p.ok).c20
                              have fb20 := fun p : Later W0.heap.size W0 => (OpAt.keep HOB.out p.ok).c20
                              repeat (go_big_quiet_step (fail))
                              refine wpQuiet_nil ?_
                              rintro _ ⟨p, rfl⟩
                              have HP := hid p.ok
                              generalize p.val = w2 at HP
                              clear q0 q1 q2 q3 q4 q5 q6 q7 q8 q9 q10 fa0 fb0 fa1 fb1 fa2 fb2 fa3 fb3 fa4 fb4 fa5 fb5 fa6 fb6 fa7 fb7 fa8 fb8 fa9 fb9 fa10 fb10 fa11 fb11 fa12 fb12 fa13 fb13 fa14 fb14 fa15 fb15 fa16 fb16 fa17 fb17 fa18 fb18 fa19 fb19 fa20 fb20
                              go_wp2
                              go_ret
                              exact ⟨by rw [← HV2.out]; rfl, below_next HBW.out HP.out⟩
                            · skip
                              cases e11
                              · have q0 := HQ0.out
                                have q1 := HQ1.out
                                have q2 := HZ2.out
                                have q3 := HZ3.out
                                have q4 := HQ4.out
                                have q5 := HZ5.out
                                have q6 := HQ6.out
                                have q7 := HZ7.out
                                have q8 := HZ8.out
                                have q9 := HZ9.out
                                have q10 := HZ10.out
                                have q11 := HQ11.out
                                have fa0 := fun p : Later W0.heap.size W0 => (OpAt.keep HOA.out p.ok).c0
                                have fb0 := fun p : Later W0.heap.size W0 => (OpAt.keep HOB.out p.ok).c0
                                have fa1 := fun p : Later W0.heap.size W0 => (OpAt.keep HOA.out p.ok).c1
                                have fb1 := fun p : Later W0.heap.size W0 => (OpAt.keep HOB.out p.ok).c1
                                have fa2 := fun p : Later W0.heap.size W0 => (OpAt.keep HOA.out p.ok).c2
                                have fb2 := fun p : Later W0.heap.size W0 => (OpAt.keep HOB.out p.ok).c2
                                have fa3 := fun p : Later W0.heap.size W0 => (OpAt.keep HOA.out p.ok).c3
                                have fb3 := fun p : Later W0.heap.size W0 => (OpAt.keep HOB.out p.ok).c3
                                have fa4 := fun p : Later W0.heap.size W0 => (OpAt.keep HOA.out p.ok).c4
                                have fb4 := fun p : Later W0.heap.size W0 => (OpAt.keep HOB.out p.ok).c4
                                have fa5 := fun p : Later W0.heap.size W0 => (OpAt.keep HOA.out p.ok).c5
                                have fb5 := fun p : Later W0.heap.size W0 => (OpAt.keep HOB.out p.ok).c5
                                have fa6 := fun p : Later W0.heap.size W0 => (OpAt.keep HOA.out p.ok).c6
                                have fb6 := fun p : Later W0.heap.size W0 => (OpAt.keep HOB.out p.ok).c6
                                have fa7 := fun p : Later W0.heap.size W0 => (OpAt.keep HOA.out p.ok).c7
                                have fb7 := fun p : Later W0.heap.size W0 => (OpAt.keep HOB.out p.ok).c7
                                have fa8 := fun p : Later W0.heap.size W0 => (OpAt.keep HOA.out p.ok).c8
                                have fb8 := fun p : Later W0.heap.size W0 => (OpAt.keep HOB.out p.ok).c8
                                have fa9 := fun p : Later W0.heap.size W0 => (OpAt.keep HOA.out p.ok).c9
                                have fb9 := fun p : Later W0.heap.size W0 => (OpAt.keep HOB.out p.ok).c9
                                have fa10 := fun p : Later W0.heap.size W0 => (OpAt.keep HOA.out p.ok).c10
                                have fb10 := fun p : Later W0.heap.size W0 => (OpAt.keep HOB.out p.ok).c10
                                have fa11 := fun p : Later W0.heap.size W0 => (OpAt.keep HOA.out p.ok).c11
                                have fb11 := fun p : Later W0.heap.size W0 => (OpAt.keep HOB.out p.ok).c11
                                have fa12 := fun p : Later W0.heap.size W0 => (OpAt.keep HOA.out p.ok).c12
                                have fb12 := fun p : Later W0.heap.size W0 => (OpAt.keep HOB.out p.ok).c12
                                have fa13 := fun p : Later W0.heap.size W0 => (OpAt.keep HOA.out p.ok).c13
                                have fb13 := fun p : Later W0.heap.size W0 => (OpAt.keep HOB.out p.ok).c13
                                have fa14 := fun p : Later W0.heap.size W0 => (OpAt.keep HOA.out p.ok).c14
                                have fb14 := fun p : Later W0.heap.size W0 => (OpAt.keep HOB.out p.ok).c14
                                have fa15 := fun p : Later W0.heap.size W0 => (OpAt.keep HOA.out p.ok).c15
                                have fb15 := fun p : Later W0.heap.size W0 => (OpAt.keep HOB.out p.ok).c15
                                have fa16 := fun p : Later W0.heap.size W0 => (OpAt.keep HOA.out p.ok).c16
                                have fb16 := fun p : Later W0.heap.size W0 => (OpAt.keep HOB.out p.ok).c16
                                have fa17 := fun p : Later W0.heap.size W0 => (OpAt.keep HOA.out p.ok).c17
                                have fb17 := fun p : Later W0.heap.size W0 => (OpAt.keep HOB.out p.ok).c17
                                have fa18 := fun p : Later W0.heap.size W0 => (OpAt.keep HOA.out p.ok).c18
                                have fb18 := fun p : Later W0.heap.size W0 => (OpAt.keep HOB.out p.ok).c18
                                have fa19 := fun p : Later W0.heap.size W0 => (OpAt.keep HOA.out p.ok).c19
                                have fb19 := fun p : Later W0.heap.size W0 => (OpAt.keep HOB.out p.ok).c19
                                have fa20 := fun p : Later W0.heap.size W0 => (OpAt.keep HOA.out p.ok).c20
                                have fb20 := fun p : Later W0.heap.size W0 => (OpAt.keep HOB.out p.ok).c20
                                have fa21 := fun p : Later W0.heap.size W0 => (OpAt.keep HOA.out p.ok).c21
                                have fb21 := fun p : Later W0.heap.size W0 => (OpAt.keep HOB.out p.ok).c21
                                have fa22 := fun p : Later W0.heap.size W0 => (OpAt.keep HOA.out p.ok).c22
                                have fb22 := fun p : Later W0.heap.size W0 => (OpAt.keep HOB.out p.ok).c22
                                repeat (go_big_quiet_step (fail))
                                refine wpQuiet_nil ?_
                                rintro _ ⟨p, rfl⟩
                                have HP := hid p.ok
                                generalize p.val = w2 at HP
                                clear q0 q1 q2 q3 q4 q5 q6 q7 q8 q9 q10 q11 fa0 fb0 fa1 fb1 fa2 fb2 fa3 fb3 fa4 fb4 fa5 fb5 fa6 fb6 fa7 fb7 fa8 fb8 fa9 fb9 fa10 fb10 fa11 fb11 fa12 fb12 fa13 fb13 fa14 fb14 fa15 fb15 fa16 fb16 fa17 fb17 fa18 fb18 fa19 fb19 fa20 fb20 fa21 fb21 fa22 fb22
                                go_wp2
                                go_ret
                                exact ⟨by rw [← HV2.out]; rfl, below_next HBW.out HP.out⟩
                              · skip
                                cases e12
                                · have q0 := HQ0.out
                                  have q1 := HQ1.out
                                  have q2 := HZ2.out
                                  have q3 := HZ3.out
                                  have q4 := HQ4.out
                                  have q5 := HZ5.out
                                  have q6 := HQ6.out
                                  have q7 := HZ7.out
                                  have q8 := HZ8.out
                                  have q9 := HZ9.out
                                  have q10 := HZ10.out
                                  have q11 := HQ11.out
                                  have q12 := HQ12.out
                                  have fa0 := fun p : Later W0.heap.size W0 => (OpAt.keep HOA.out p.ok).c0
                                  have fb0 := fun p : Later W0.heap.size W0 => (OpAt.keep HOB.out p.ok).c0
                                  have fa1 := fun p : Later W0.heap.size W0 => (OpAt.keep HOA.out p.ok).c1
                                  have fb1 := fun p : Later W0.heap.size W0 => (OpAt.keep HOB.out p.ok).c1
                                  have fa2 := fun p : Later W0.heap.size W0 => (OpAt.keep HOA.out p.ok).c2
                                  have fb2 := fun p : Later W0.heap.size W0 => (OpAt.keep HOB.out p.ok).c2
                                  have fa3 := fun p : Later W0.heap.size W0 => (OpAt.keep HOA.out p.ok).c3
                                  have fb3 := fun p : Later W0.heap.size W0 => (OpAt.keep HOB.out p.ok).c3
                                  have fa4 := fun p : Later W0.heap.size W0 => (OpAt.keep HOA.out p.ok).c4
                                  have fb4 := fun p : Later W0.heap.size W0 => (OpAt.keep HOB.out p.ok).c4
                                  have fa5 := fun p : Later W0.heap.size W0 => (OpAt.keep HOA.out p.ok).c5
                                  have fb5 := fun p : Later W0.heap.size W0 => (OpAt.keep HOB.out p.ok).c5
                                  have fa6 := fun p : Later W0.heap.size W0 => (OpAt.keep HOA.out p.ok).c6
                                  have fb6 := fun p : Later W0.heap.size W0 => (OpAt.keep HOB.out p.ok).c6
                                  have fa7 := fun p : Later W0.heap.size W0 => (OpAt.keep HOA.out p.ok).c7
                                  have fb7 := fun p : Later W0.heap.size W0 => (OpAt.keep HOB.out p.ok).c7
                                  have fa8 := fun p : Later W0.heap.size W0 => (OpAt.keep HOA.out p.ok).c8
                                  have fb8 := fun p : Later W0.heap.size W0 => (OpAt.keep HOB.out p.ok).c8
                                  have fa9 := fun p : Later W0.heap.size W0 => (OpAt.keep HOA.out p.ok).c9
                                  have fb9 := fun p : Later W0.heap.size W0 => (OpAt.keep HOB.out p.ok).c9
                                  have fa10 := fun p : Later W0.heap.size W0 => (OpAt.keep HOA.out p.ok).c10
                                  have fb10 := fun p : Later W0.heap.size W0 => (OpAt.keep HOB.out p.ok).c10
                                  have fa11 := fun p : Later W0.heap.size W0 => (OpAt.keep HOA.out p.ok).c11
                                  have fb11 := fun p : Later W0.heap.size W0 => (OpAt.keep HOB.out p.ok).c11
                                  have fa12 := fun p : Later W0.heap.size W0 => (OpAt.keep HOA.out p.ok).c12
                                  have fb12 := fun p : Later W0.heap.size W0 => (OpAt.keep HOB.out p.ok).c12
                                  have fa13 := fun p : Later W0.heap.size W0 => (OpAt.keep HOA.out p.ok).c13
                                  have fb13 := fun p : Later W0.heap.size W0 => (OpAt.keep HOB.out p.ok).c13
                                  have fa14 := fun p : Later W0.heap.size W0 => (OpAt.keep HOA.out p.ok).c14
                                  have fb14 := fun p : Later W0.heap.size W0 => (OpAt.keep HOB.out p.ok).c14
                                  have fa15 := fun p : Later W0.heap.size W0 => (OpAt.keep HOA.out p.ok).c15
                                  have fb15 := fun p : Later W0.heap.size W0 => (OpAt.keep HOB.out p.ok).c15
                                  have fa16 := fun p : Later W0.heap.size W0 => (OpAt.keep HOA.out p.ok).c16
                                  have fb16 := fun p : Later W0.heap.size W0 => (OpAt.keep HOB.out p.ok).c16
                                  have fa17 := fun p : Later W0.heap.size W0 => (OpAt.keep HOA.out p.ok).c17
                                  have fb17 := fun p : Later W0.heap.size W0 => (OpAt.keep HOB.out p.ok).c17
                                  have fa18 := fun p : Later W0.heap.size W0 => (OpAt.keep HOA.out p.ok).c18
                                  have fb18 := fun p : Later W0.heap.size W0 => (OpAt.keep HOB.out p.ok).c18
                                  have fa19 := fun p : Later W0.heap.size W0 => (OpAt.keep HOA.out p.ok).c19
                                  have fb19 := fun p : Later W0.heap.size W0 => (OpAt.keep HOB.out p.ok).c19
                                  have fa20 := fun p : Later W0.heap.size W0 => (OpAt.keep HOA.out p.ok).c20
                                  have fb20 := fun p : Later W0.heap.size W0 => (OpAt.keep HOB.out p.ok).c20
                                  have fa21 := fun p : Later W0.heap.size W0 => (OpAt.keep HOA.out p.ok).c21
                                  have fb21 := fun p : Later W0.heap.size W0 => (OpAt.keep HOB.out p.ok).c21
                                  have fa22 := fun p : Later W0.heap.size W0 => (OpAt.keep HOA.out p.ok).c22
                                  have fb22 := fun p : Later W0.heap.size W0 => (OpAt.keep HOB.out p.ok).c22
                                  have fa23 := fun p : Later W0.heap.size W0 => (OpAt.keep HOA.out p.ok).c23
                                  have fb23 := fun p : Later W0.heap.size W0 => (OpAt.keep HOB.out p.ok).c23
                                  have fa24 := fun p : Later W0.heap.size W0 => (OpAt.keep HOA.out p.ok).c24
                                  have fb24 := fun p : Later W0.heap.size W0 => (OpAt.keep HOB.out p.ok).c24
                                  repeat (go_big_quiet_step (fail))
                                  refine wpQuiet_nil ?_
                                  rintro _ ⟨p, rfl⟩
                                  have HP := hid p.ok
                                  generalize p.val = w2 at HP
                                  clear q0 q1 q2 q3 q4 q5 q6 q7 q8 q9 q10 q11 q12 fa0 fb0 fa1 fb1 fa2 fb2 fa3 fb3 fa4 fb4 fa5 fb5 fa6 fb6 fa7 fb7 fa8 fb8 fa9 fb9 fa10 fb10 fa11 fb11 fa12 fb12 fa13 fb13 fa14 fb14 fa15 fb15 fa16 fb16 fa17 fb17 fa18 fb18 fa19 fb19 fa20 fb20 fa21 fb21 fa22 fb22 fa23 fb23 fa24 fb24
                                  go_wp2
                                  go_ret
                                  exact ⟨by rw [← HV2.out]; rfl, below_next HBW.out HP.out⟩
                                · skip
                                  cases e13
                                  · have q0 := HQ0.out
                                    have q1 := HQ1.out
                                    have q2 := HZ2.out
                                    have q3 := HZ3.out
                                    have q4 := HQ4.out
                                    have q5 := HZ5.out
                                    have q6 := HQ6.out
                                    have q7 := HZ7.out
                                    have q8 := HZ8.out
                                    have q9 := HZ9.out
                                    have q10 := HZ10.out
                                    have q11 := HQ11.out
                                    have q12 := HQ12.out
                                    have q13 := HZ13.out
                                    have fa0 := fun p : Later W0.heap.size W0 => (OpAt.keep HOA.out p.ok).c0
                                    have fb0 := fun p : Later W0.heap.size W0 => (OpAt.keep HOB.out p.ok).c0
                                    have fa1 := fun p : Later W0.heap.size W0 => (OpAt.keep HOA.out p.ok).c1
                                    have fb1 := fun p : Later W0.heap.size W0 => (OpAt.keep HOB.out p.ok).c1
                                    have fa2 := fun p : Later W0.heap.size W0 => (OpAt.keep HOA.out p.ok).c2
                                    have fb2 := fun p : Later W0.heap.size W0 => (OpAt.keep HOB.out p.ok).c2
                                    have fa3 := fun p : Later W0.heap.size W0 => (OpAt.keep HOA.out p.ok).c3
                                    have fb3 := fun p : Later W0.heap.size W0 => (OpAt.keep HOB.out p.ok).c3
                                    have fa4 := fun p : Later W0.heap.size W0 => (OpAt.keep HOA.out p.ok).c4
                                    have fb4 := fun p : Later W0.heap.size W0 => (OpAt.keep HOB.out p.ok).c4
                                    have fa5 := fun p : Later W0.heap.size W0 => (OpAt.keep HOA.out p.ok).c5
                                    have fb5 := fun p : Later W0.heap.size W0 => (OpAt.keep HOB.out p.ok).c5
                                    have fa6 := fun p : Later W0.heap.size W0 => (OpAt.keep HOA.out p.ok).c6
                                    have fb6 := fun p : Later W0.heap.size W0 => (OpAt.keep HOB.out p.ok).c6
                                    have fa7 := fun p : Later W0.heap.size W0 => (OpAt.keep HOA.out p.ok).c7
                                    have fb7 := fun p : Later W0.heap.size W0 => (OpAt.keep HOB.out p.ok).c7
                                    have fa8 := fun p : Later W0.heap.size W0 => (OpAt.keep HOA.out p.ok).c8
                                    have fb8 := fun p : Later W0.heap.size W0 => (OpAt.keep HOB.out p.ok).c8
                                    have fa9 := fun p : Later W0.heap.size W0 => (OpAt.keep HOA.out p.ok).c9
                                    have fb9 := fun p : Later W0.heap.size W0 => (OpAt.keep HOB.out p.ok).c9
                                    have fa10 := fun p : Later W0.heap.size W0 => (OpAt.keep HOA.out p.ok).c10
                                    have fb10 := fun p : Later W0.heap.size W0 => (OpAt.keep HOB.out p.ok).c10
                                    have fa11 := fun p : Later W0.heap.size W0 => (OpAt.keep HOA.out p.ok).c11
                                    have fb11 := fun p : Later W0.heap.size W0 => (OpAt.keep HOB.out p.ok).c11
                                    have fa12 := fun p : Later W0.heap.size W0 => (OpAt.keep HOA.out p.ok).c12
                                    have fb12 := fun p : Later W0.heap.size W0 => (OpAt.keep HOB.out p.ok).c12
                                    have fa13 := fun p : Later W0.heap.size W0 => (OpAt.keep HOA.out p.ok).c13
                                    have fb13 := fun p : Later W0.heap.size W0 => (OpAt.keep HOB.out p.ok).c13
                                    have fa14 := fun p : Later W0.heap.size W0 => (OpAt.keep HOA.out p.ok).c14
                                    have fb14 := fun p : Later W0.heap.size W0 => (OpAt.keep HOB.out p.ok).c14
                                    have fa15 := fun p : Later W0.heap.size W0 => (OpAt.keep HOA.out p.ok).c15
                                    have fb15 := fun p : Later W0.heap.size W0 => (OpAt.keep HOB.out p.ok).c15
                                    have fa16 := fun p : Later W0.heap.size W0 => (OpAt.keep HOA.out p.ok).c16
                                    have fb16 := fun p : Later W0.heap.size W0 => (OpAt.keep HOB.out p.ok).c16
                                    have fa17 := fun p : Later W0.heap.size W0 => (OpAt.keep HOA.out p.ok).c17
                                    have fb17 := fun p : Later W0.heap.size W0 => (OpAt.keep HOB.out p.ok).c17
                                    have fa18 := fun p : Later W0.heap.size W0 => (OpAt.keep HOA.out p.ok).c18
                                    have fb18 := fun p : Later W0.heap.size W0 => (OpAt.keep HOB.out p.ok).c18
                                    have fa19 := fun p : Later W0.heap.size W0 => (OpAt.keep HOA.out p.ok).c19
                                    have fb19 := fun p : Later W0.heap.size W0 => (OpAt.keep HOB.out p.ok).c19
                                    have fa20 := fun p : Later W0.heap.size W0 => (OpAt.keep HOA.out p.ok).c20
                                    have fb20 := fun p : Later W0.heap.size W0 => (OpAt.keep HOB.out p.ok).c20
                                    have fa21 := fun p : Later W0.heap.size W0 => (OpAt.keep HOA.out p.ok).c21
                                    have fb21 := fun p : Later W0.heap.size W0 => (OpAt.keep HOB.out p.ok).c21
                                    have fa22 := fun p : Later W0.heap.size W0 => (OpAt.keep HOA.out p.ok).c22
                                    have fb22 := fun p : Later W0.heap.size W0 => (OpAt.keep HOB.out p.ok).c22
                                    have fa23 := fun p : Later W0.heap.size W0 => (OpAt.keep HOA.out p.ok).c23
                                    have fb23 := fun p : Later W0.heap.size W0 => (OpAt.keep HOB.out p.ok).c23
                                    have fa24 := fun p : Later W0.heap.size W0 => (OpAt.keep HOA.out p.ok).c24
                                    have fb24 := fun p : Later W0.heap.size W0 => (OpAt.keep HOB.out p.ok).c24
                                    have fa25 := fun p : Later W0.heap.size W0 => (OpAt.keep HOA.out p.ok).c25
                                    have fb25 := fun p : Later W0.heap.size W0 => (OpAt.keep HOB.out p.ok).c25
                                    repeat (go_big_quiet_step (fail))
                                    refine wpQuiet_nil ?_
                                    rintro _ ⟨p, rfl⟩
                                    have HP := hid p.ok
                                    generalize p.val = w2 at HP
                                    clear q0 q1 q2 q3 q4 q5 q6 q7 q8 q9 q10 q11 q12 q13 fa0 fb0 fa1 fb1 fa2 fb2 fa3 fb3 fa4 fb4 fa5 fb5 fa6 fb6 fa7 fb7 fa8 fb8 fa9 fb9 fa10 fb10 fa11 fb11 fa12 fb12 fa13 fb13 fa14 fb14 fa15 fb15 fa16 fb16 fa17 fb17 fa18 fb18 fa19 fb19 fa20 fb20 fa21 fb21 fa22 fb22 fa23 fb23 fa24 fb24 fa25 fb25
                                    go_wp2
                                    go_ret
                                    exact ⟨by rw [← HV2.out]; rfl, below_next HBW.out HP.out⟩
                                  · skip
                                    cases e14
                                    · have q0 := HQ0.out
                                      have q1 := HQ1.out
                                      have q2 := HZ2.out
                                      have q3 := HZ3.out
                                      have q4 := HQ4.out
                                      have q5 := HZ5.out
                                      have q6 := HQ6.out
                                      have q7 := HZ7.out
                                      have q8 := HZ8.out
                                      have q9 := HZ9.out
                                      have q10 := HZ10.out
                                      have q11 := HQ11.out
                                      have q12 := HQ12.out
                                      have q13 := HZ13.out
                                      have q14 := HZ14.out
                                      have fa0 := fun p : Later W0.heap.size W0 => (OpAt.keep HOA.out p.ok).c0
                                      have fb0 := fun p : Later W0.heap.size W0 => (OpAt.keep HOB.out p.ok).c0
                                      have fa1 := fun p : Later W0.heap.size W0 => (OpAt.keep HOA.out p.ok).c1
                                      have fb1 := fun p : Later W0.heap.size W0 => (OpAt.keep HOB.out p.ok).c1
                                      have fa2 := fun p : Later W0.heap.size W0 => (OpAt.keep HOA.out p.ok).c2
                                      have fb2 := fun p : Later W0.heap.size W0 => (OpAt.keep HOB.out p.ok).c2
                                      have fa3 := fun p : Later W0.heap.size W0 => (OpAt.keep HOA.out p.ok).c3
                                      have fb3 := fun p : Later W0.heap.size W0 => (OpAt.keep HOB.out p.ok).c3
                                      have fa4 := fun p : Later W0.heap.size W0 => (OpAt.keep HOA.out p.ok).c4
                                      have fb4 := fun p : Later W0.heap.size W0 => (OpAt.keep HOB.out p.ok).c4
                                      have fa5 := fun p : Later W0.heap.size W0 => (OpAt.keep HOA.out p.ok).c5
                                      have fb5 := fun p : Later W0.heap.size W0 => (OpAt.keep HOB.out p.ok).c5
                                      have fa6 := fun p : Later W0.heap.size W0 => (OpAt.keep HOA.out p.ok).c6
                                      have fb6 := fun p : Later W0.heap.size W0 => (OpAt.keep HOB.out p.ok).c6
                                      have fa7 := fun p : Later W0.heap.size W0 => (OpAt.keep HOA.out p.ok).c7
                                      have fb7 := fun p : Later W0.heap.size W0 => (OpAt.keep HOB.out p.ok).c7
                                      have fa8 := fun p : Later W0.heap.size W0 => (OpAt.keep HOA.out p.ok).c8
                                      have fb8 := fun p : Later W0.heap.size W0 => (OpAt.keep HOB.out p.ok).c8
                                      have fa9 := fun p : Later W0.heap.size W0 => (OpAt.keep HOA.out p.ok).c9
                                      have fb9 := fun p : Later W0.heap.size W0 => (OpAt.keep HOB.out p.ok).c9
                                      have fa10 := fun p : Later W0.heap.size W0 => (OpAt.keep HOA.out p.ok).c10
                                      have fb10 := fun p : Later W0.heap.size W0 => (OpAt.keep HOB.out p.ok).c10
                                      have fa11 := fun p : Later W0.heap.size W0 => (OpAt.keep HOA.out p.ok).c11
                                      have fb11 := fun p : Later W0.heap.size W0 => (OpAt.keep HOB.out p.ok).c11
                                      have fa12 := fun p : Later W0.heap.size W0 => (OpAt.keep HOA.out p.ok).c12
                                      have fb12 := fun p : Later W0.heap.size W0 => (OpAt.keep HOB.out p.ok).c12
                                      have fa13 := fun p : Later W0.heap.size W0 => (OpAt.keep HOA.out p.ok).c13
                                      have fb13 := fun p : Later W0.heap.size W0 => (OpAt.keep HOB.out p.ok).c13
                                      have fa14 := fun p : Later W0.heap.size W0 => (OpAt.keep HOA.out p.ok).c14
                                      have fb14 := fun p : Later W0.heap.size W0 => (OpAt.keep HOB.out p.ok).c14
                                      have fa15 := fun p : Later W0.heap.size W0 => (OpAt.keep HOA.out p.ok).c15
                                      have fb15 := fun p : Later W0.heap.size W0 => (OpAt.keep HOB.out p.ok).c15
                                      have fa16 := fun p : Later W0.heap.size W0 => (OpAt.keep HOA.out p.ok).c16
                                      have fb16 := fun p : Later W0.heap.size W0 => (OpAt.keep HOB.out p.ok).c16
                                      have fa17 := fun p : Later W0.heap.size W0 => (OpAt.keep HOA.out p.ok).c17
                                      have fb17 := fun p : Later W0.heap.size W0 => (OpAt.keep HOB.out p.ok).c17
                                      have fa18 := fun p : Later W0.heap.size W0 => (OpAt.keep HOA.out p.ok).c18
                                      have fb18 := fun p : Later W0.heap.size W0 => (OpAt.keep HOB.out p.ok).c18
                                      have fa19 := fun p : Later W0.heap.size W0 => (OpAt.keep HOA.out p.ok).c19
                                      have fb19 := fun p : Later W0.heap.size W0 => (OpAt.keep HOB.out p.ok).c19
                                      have fa20 := fun p : Later W0.heap.size W0 => (OpAt.keep HOA.out p.ok).c20
                                      have fb20 := fun p : Later W0.heap.size W0 => (OpAt.keep HOB.out p.ok).c20
                                      have fa21 := fun p : Later W0.heap.size W0 => (OpAt.keep HOA.out p.ok).c21
                                      have fb21 := fun p : Later W0.heap.size W0 => (OpAt.keep HOB.out p.ok).c21
                                      have fa22 := fun p : Later W0.heap.size W0 => (OpAt.keep HOA.out p.ok).c22
                                      have fb22 := fun p : Later W0.heap.size W0 => (OpAt.keep HOB.out p.ok).c22
                                      have fa23 := fun p : Later W0.heap.size W0 => (OpAt.keep HOA.out p.ok).c23
                                      have fb23 := fun p : Later W0.heap.size W0 => (OpAt.keep HOB.out p.ok).c23
                                      have fa24 := fun p : Later W0.heap.size W0 => (OpAt.keep HOA.out p.ok).c24
                                      have fb24 := fun p : Later W0.heap.size W0 => (OpAt.keep HOB.out p.ok).c24
                                      have fa25 := fun p : Later W0.heap.size W0 => (OpAt.keep HOA.out p.ok).c25
                                      have fb25 := fun p : Later W0.heap.size W0 => (OpAt.keep HOB.out p.ok).c25
                                      have fa26 := fun p : Later W0.heap.size W0 => (OpAt.keep HOA.out p.ok).c26
                                      have fb26 := fun p : Later W0.heap.size W0 => (OpAt.keep HOB.out p.ok).c26
                                      repeat (go_big_quiet_step (fail))
                                      refine wpQuiet_nil ?_
                                      rintro _ ⟨p, rfl⟩
                                      have HP := hid p.ok
                                      generalize p.val = w2 at HP
                                      clear q0 q1 q2 q3 q4 q5 q6 q7 q8 q9 q10 q11 q12 q13 q14 fa0 fb0 fa1 fb1 fa2 fb2 fa3 fb3 fa4 fb4 fa5 fb5 fa6 fb6 fa7 fb7 fa8 fb8 fa9 fb9 fa10 fb10 fa11 fb11 fa12 fb12 fa13 fb13 fa14 fb14 fa15 fb15 fa16 fb16 fa17 fb17 fa18 fb18 fa19 fb19 fa20 fb20 fa21 fb21 fa22 fb22 fa23 fb23 fa24 fb24 fa25 fb25 fa26 fb26
                                      go_wp2
                                      go_ret
                                      exact ⟨by rw [← HV2.out]; rfl, below_next HBW.out HP.out⟩
                                    · skip
                                      cases e15
                                      · have q0 := HQ0.out
                                        have q1 := HQ1.out
                                        have q2 := HZ2.out
                                        have q3 := HZ3.out
                                        have q4 := HQ4.out
                                        have q5 := HZ5.out
                                        have q6 := HQ6.out
                                        have q7 := HZ7.out
                                        have q8 := HZ8.out
                                        have q9 := HZ9.out
                                        have q10 := HZ10.out
                                        have q11 := HQ11.out
                                        have q12 := HQ12.out
                                        have q13 := HZ13.out
                                        have q14 := HZ14.out
                                        have q15 := HZ15.out
                                        have fa0 := fun p : Later W0.heap.size W0 => (OpAt.keep HOA.out p.ok).c0
                                        have fb0 := fun p : Later W0.heap.size W0 => (OpAt.keep HOB.out p.ok).c0
                                        have fa1 := fun p : Later W0.heap.size W0 => (OpAt.keep HOA.out p.ok).c1
                                        have fb1 := fun p : Later W0.heap.size W0 => (OpAt.keep HOB.out p.ok).c1
                                        have fa2 := fun p : Later W0.heap.size W0 => (OpAt.keep HOA.out p.ok).c2
                                        have fb2 := fun p : Later W0.heap.size W0 => (OpAt.keep HOB.out p.ok).c2
                                        have fa3 := fun p : Later W0.heap.size W0 => (OpAt.keep HOA.out p.ok).c3
                                        have fb3 := fun p : Later W0.heap.size W0 => (OpAt.keep HOB.out p.ok).c3
                                        have fa4 := fun p : Later W0.heap.size W0 => (OpAt.keep HOA.out p.ok).c4
                                        have fb4 := fun p : Later W0.heap.size W0 => (OpAt.keep HOB.out p.ok).c4
                                        have fa5 := fun p : Later W0.heap.size W0 => (OpAt.keep HOA.out p.ok).c5
                                        have fb5 := fun p : Later W0.heap.size W0 => (OpAt.keep HOB.out p.ok).c5
                                        have fa6 := fun p : Later W0.heap.size W0 => (OpAt.keep HOA.out p.ok).c6
                                        have fb6 := fun p : Later W0.heap.size W0 => (OpAt.keep HOB.out p.ok).c6
                                        have fa7 := fun p : Later W0.heap.size W0 => (OpAt.keep HOA.out p.ok).c7
                                        have fb7 := fun p : Later W0.heap.size W0 => (OpAt.keep HOB.out p.ok).c7
                                        have fa8 := fun p : Later W0.heap.size W0 => (OpAt.keep HOA.out p.ok).c8
                                        have fb8 := fun p : Later W0.heap.size W0 => (OpAt.keep HOB.out p.ok).c8
                                        have fa9 := fun p : Later W0.heap.size W0 => (OpAt.keep HOA.out p.ok).c9
                                        have fb9 := fun p : Later W0.heap.size W0 => (OpAt.keep HOB.out p.ok).c9
                                        have fa10 := fun p : Later W0.heap.size W0 => (OpAt.keep HOA.out p.ok).c10
                                        have fb10 := fun p : Later W0.heap.size W0 => (OpAt.keep HOB.out p.ok).c10
                                        have fa11 := fun p : Later W0.heap.size W0 => (OpAt.keep HOA.out p.ok).c11
                                        have fb11 := fun p : Later W0.heap.size W0 => (OpAt.keep HOB.out p.ok).c11
                                        have fa12 := fun p : Later W0.heap.size W0 => (OpAt.keep HOA.out p.ok).c12
                                        have fb12 := fun p : Later W0.heap.size W0 => (OpAt.keep HOB.out p.ok).c12
                                        have fa13 := fun p : Later W0.heap.size W0 => (OpAt.keep HOA.out p.ok).c13
                                        have fb13 := fun p : Later W0.heap.size W0 => (OpAt.keep HOB.out p.ok).c13
                                        have fa14 := fun p : Later W0.heap.size W0 => (OpAt.keep HOA.out p.ok).c14
                                        have fb14 := fun p : Later W0.heap.size W0 => (OpAt.keep HOB.out p.ok).c14
                                        have fa15 := fun p : Later W0.heap.size W0 => (OpAt.keep HOA.out p.ok).c15
                                        have fb15 := fun p : Later W0.heap.size W0 => (OpAt.keep HOB.out p.ok).c15
                                        have fa16 := fun p : Later W0.heap.size W0 => (OpAt.keep HOA.out p.ok).c16
                                        have fb16 := fun p : Later W0.heap.size W0 => (OpAt.keep HOB.out p.ok).c16
                                        have fa17 := fun p : Later W0.heap.size W0 => (OpAt.keep HOA.out p.ok).c17
                                        have fb17 := fun p : Later W0.heap.size W0 => (OpAt.keep HOB.out p.ok).c17
                                        have fa18 := fun p : Later W0.heap.size W0 => (OpAt.keep HOA.out p.ok).c18
                                        have fb18 := fun p : Later W0.heap.size W0 => (OpAt.keep HOB.out p.ok).c18
                                        have fa19 := fun p : Later W0.heap.size W0 => (OpAt.keep HOA.out p.ok).c19
                                        have fb19 := fun p : Later W0.heap.size W0 => (OpAt.keep HOB.out p.ok).c19
                                        have fa20 := fun p : Later W0.heap.size W0 => (OpAt.keep HOA.out p.ok).c20
                                        have fb20 := fun p : Later W0.heap.size W0 => (OpAt.keep HOB.out p.ok).c20
                                        have fa21 := fun p : Later W0.heap.size W0 => (OpAt.keep HOA.out p.ok).c21
                                        have fb21 := fun p : Later W0.heap.size W0 => (OpAt.keep HOB.out p.ok).c21
                                        have fa22 := fun p : Later W0.heap.size W0 => (OpAt.keep HOA.out p.ok).c22
                                        have fb22 := fun p : Later W0.heap.size W0 => (OpAt.keep HOB.out p.ok).c22
                                        have fa23 := fun p : Later W0.heap.size W0 => (OpAt.keep HOA.out p.ok).c23
                                        have fb23 := fun p : Later W0.heap.size W0 => (OpAt.keep HOB.out p.ok).c23
                                        have fa24 := fun p : Later W0.heap.size W0 => (OpAt.keep HOA.out p.ok).c24
                                        have fb24 := fun p : Later W0.heap.size W0 => (OpAt.keep HOB.out p.ok).c24
                                        have fa25 := fun p : Later W0.heap.size W0 => (OpAt.keep HOA.out p.ok).c25
                                        have fb25 := fun p : Later W0.heap.size W0 => (OpAt.keep HOB.out p.ok).c25
                                        have fa26 := fun p : Later W0.heap.size W0 => (OpAt.keep HOA.out p.ok).c26
                                        have fb26 := fun p : Later W0.heap.size W0 => (OpAt.keep HOB.out p.ok).c26
                                        have fa27 := fun p : Later W0.heap.size W0 => (OpAt.keep HOA.out p.ok).c27
                                        have fb27 := fun p : Later W0.heap.size W0 => (OpAt.keep HOB.out p.ok).c27
                                        repeat (go_big_quiet_step (fail))
                                        refine wpQuiet_nil ?_
                                        rintro _ ⟨p, rfl⟩
                                        have HP := hid p.ok
                                        generalize p.val = w2 at HP
                                        clear q0 q1 q2 q3 q4 q5 q6 q7 q8 q9 q10 q11 q12 q13 q14 q15 fa0 fb0 fa1 fb1 fa2 fb2 fa3 fb3 fa4 fb4 fa5 fb5 fa6 fb6 fa7 fb7 fa8 fb8 fa9 fb9 fa10 fb10 fa11 fb11 fa12 fb12 fa13 fb13 fa14 fb14 fa15 fb15 fa16 fb16 fa17 fb17 fa18 fb18 fa19 fb19 fa20 fb20 fa21 fb21 fa22 fb22 fa23 fb23 fa24 fb24 fa25 fb25 fa26 fb26 fa27 fb27
                                        go_wp2
                                        go_ret
                                        exact ⟨by rw [← HV2.out]; rfl, below_next HBW.out HP.out⟩
                                      · have q0 := HQ0.out
                                        have q1 := HQ1.out
                                        have q2 := HZ2.out
                                        have q3 := HZ3.out
                                        have q4 := HQ4.out
                                        have q5 := HZ5.out
                                        have q6 := HQ6.out
                                        have q7 := HZ7.out
                                        have q8 := HZ8.out
                                        have q9 := HZ9.out
                                        have q10 := HZ10.out
                                        have q11 := HQ11.out
                                        have q12 := HQ12.out
                                        have q13 := HZ13.out
                                        have q14 := HZ14.out
                                        have q15 := HZ15.out
                                        have fa0 := fun p : Later W0.heap.size W0 => (OpAt.keep HOA.out p.ok).c0
                                        have fb0 := fun p : Later W0.heap.size W0 => (OpAt.keep HOB.out p.ok).c0
                                        have fa1 := fun p : Later W0.heap.size W0 => (OpAt.keep HOA.out p.ok).c1
                                        have fb1 := fun p : Later W0.heap.size W0 => (OpAt.keep HOB.out p.ok).c1
                                        have fa2 := fun p : Later W0.heap.size W0 => (OpAt.keep HOA.out p.ok).c2
                                        have fb2 := fun p : Later W0.heap.size W0 => (OpAt.keep HOB.out p.ok).c2
                                        have fa3 := fun p : Later W0.heap.size W0 => (OpAt.keep HOA.out p.ok).c3
                                        have fb3 := fun p : Later W0.heap.size W0 => (OpAt.keep HOB.out p.ok).c3
                                        have fa4 := fun p : Later W0.heap.size W0 => (OpAt.keep HOA.out p.ok).c4
                                        have fb4 := fun p : Later W0.heap.size W0 => (OpAt.keep HOB.out p.ok).c4
                                        have fa5 := fun p : Later W0.heap.size W0 => (OpAt.keep HOA.out p.ok).c5
                                        have fb5 := fun p : Later W0.heap.size W0 => (OpAt.keep HOB.out p.ok).c5
                                        have fa6 := fun p : Later W0.heap.size W0 => (OpAt.keep HOA.out p.ok).c6
                                        have fb6 := fun p : Later W0.heap.size W0 => (OpAt.keep HOB.out p.ok).c6
                                        have fa7 := fun p : Later W0.heap.size W0 => (OpAt.keep HOA.out p.ok).c7
                                        have fb7 := fun p : Later W0.heap.size W0 => (OpAt.keep HOB.out p.ok).c7
                                        have fa8 := fun p : Later W0.heap.size W0 => (OpAt.keep HOA.out p.ok).c8
                                        have fb8 := fun p : Later W0.heap.size W0 => (OpAt.keep HOB.out p.ok).c8
                                        have fa9 := fun p : Later W0.heap.size W0 => (OpAt.keep HOA.out p.ok).c9
                                        have fb9 := fun p : Later W0.heap.size W0 => (OpAt.keep HOB.out p.ok).c9
                                        have fa10 := fun p : Later W0.heap.size W0 => (OpAt.keep HOA.out p.ok).c10
                                        have fb10 := fun p : Later W0.heap.size W0 => (OpAt.keep HOB.out p.ok).c10
                                        have fa11 := fun p : Later W0.heap.size W0 => (OpAt.keep HOA.out p.ok).c11
                                        have fb11 := fun p : Later W0.heap.size W0 => (OpAt.keep HOB.out p.ok).c11
                                        have fa12 := fun p : Later W0.heap.size W0 => (OpAt.keep HOA.out p.ok).c12
                                        have fb12 := fun p : Later W0.heap.size W0 => (OpAt.keep HOB.out p.ok).c12
                                        have fa13 := fun p : Later W0.heap.size W0 => (OpAt.keep HOA.out p.ok).c13
                                        have fb13 := fun p : Later W0.heap.size W0 => (OpAt.keep HOB.out p.ok).c13
                                        have fa14 := fun p : Later W0.heap.size W0 => (OpAt.keep HOA.out p.ok).c14
                                        have fb14 := fun p : Later W0.heap.size W0 => (OpAt.keep HOB.out p.ok).c14
                                        have fa15 := fun p : Later W0.heap.size W0 => (OpAt.keep HOA.out p.ok).c15
                                        have fb15 := fun p : Later W0.heap.size W0 => (OpAt.keep HOB.out p.ok).c15
                                        have fa16 := fun p : Later W0.heap.size W0 => (OpAt.keep HOA.out p.ok).c16
                                        have fb16 := fun p : Later W0.heap.size W0 => (OpAt.keep HOB.out p.ok).c16
                                        have fa17 := fun p : Later W0.heap.size W0 => (OpAt.keep HOA.out p.ok).c17
                                        have fb17 := fun p : Later W0.heap.size W0 => (OpAt.keep HOB.out p.ok).c17
                                        have fa18 := fun p : Later W0.heap.size W0 => (OpAt.keep HOA.out p.ok).c18
                                        have fb18 := fun p : Later W0.heap.size W0 => (OpAt.keep HOB.out p.ok).c18
                                        have fa19 := fun p : Later W0.heap.size W0 => (OpAt.keep HOA.out p.ok).c19
                                        have fb19 := fun p : Later W0.heap.size W0 => (OpAt.keep HOB.out p.ok).c19
                                        have fa20 := fun p : Later W0.heap.size W0 => (OpAt.keep HOA.out p.ok).c20
                                        have fb20 := fun p : Later W0.heap.size W0 => (OpAt.keep HOB.out p.ok).c20
                                        have fa21 := fun p : Later W0.heap.size W0 => (OpAt.keep HOA.out p.ok).c21
                                        have fb21 := fun p : Later W0.heap.size W0 => (OpAt.keep HOB.out p.ok).c21
                                        have fa22 := fun p : Later W0.heap.size W0 => (OpAt.keep HOA.out p.ok).c22
                                        have fb22 := fun p : Later W0.heap.size W0 => (OpAt.keep HOB.out p.ok).c22
                                        have fa23 := fun p : Later W0.heap.size W0 => (OpAt.keep HOA.out p.ok).c23
                                        have fb23 := fun p : Later W0.heap.size W0 => (OpAt.keep HOB.out p.ok).c23
                                        have fa24 := fun p : Later W0.heap.size W0 => (OpAt.keep HOA.out p.ok).c24
                                        have fb24 := fun p : Later W0.heap.size W0 => (OpAt.keep HOB.out p.ok).c24
                                        have fa25 := fun p : Later W0.heap.size W0 => (OpAt.keep HOA.out p.ok).c25
                                        have fb25 := fun p : Later W0.heap.size W0 => (OpAt.keep HOB.out p.ok).c25
                                        have fa26 := fun p : Later W0.heap.size W0 => (OpAt.keep HOA.out p.ok).c26
                                        have fb26 := fun p : Later W0.heap.size W0 => (OpAt.keep HOB.out p.ok).c26
                                        have fa27 := fun p : Later W0.heap.size W0 => (OpAt.keep HOA.out p.ok).c27
                                        have fb27 := fun p : Later W0.heap.size W0 => (OpAt.keep HOB.out p.ok).c27
                                        repeat (go_big_quiet_step (fail))
                                        refine wpQuiet_nil ?_
                                        rintro _ ⟨p, rfl⟩
                                        have HP := hid p.ok
                                        generalize p.val = w2 at HP
                                        clear q0 q1 q2 q3 q4 q5 q6 q7 q8 q9 q10 q11 q12 q13 q14 q15 fa0 fb0 fa1 fb1 fa2 fb2 fa3 fb3 fa4 fb4 fa5 fb5 fa6 fb6 fa7 fb7 fa8 fb8 fa9 fb9 fa10 fb10 fa11 fb11 fa12 fb12 fa13 fb13 fa14 fb14 fa15 fb15 fa16 fb16 fa17 fb17 fa18 fb18 fa19 fb19 fa20 fb20 fa21 fb21 fa22 fb22 fa23 fb23 fa24 fb24 fa25 fb25 fa26 fb26 fa27 fb27
                                        go_wp2
                                        go_ret
                                        exact ⟨by rw [← HV2.out]; rfl, below_next HBW.out HP.out⟩
  · have t1 : ((na : Int) != (nb : Int)) = true := by have : ¬ ((na : Int) = (nb : Int)) := by omega
                                                      simpa using this
    have : sameR a b la lb = false := by unfold sameR; rw [decide_eq_false (by intro e; subst e; exact hn (hla.symm.trans hlb))]; rfl
    rw [this]
    clear hla hlb this hn
    go_enter Tryd.func33, Tryd.ntmps33
    have HBw := hid (below_al2 w (.cells (oc a) 50) (.cells (oc b) 50))
    go_wp2
    go_ret
    exact ⟨rfl, HBw.out⟩
theorem ref_Same (a b : OpM) (la lb : List Claim) (w : World) (ha : ClaimsV w a.lv la) (hb : ClaimsV w b.lv lb) :
    Calls Tryd.prog 33 #[.agg (oc a), .agg (oc b)] w
      fun e w' => e = .returned (.bool (sameM a b la lb)) ∧ Below w.heap.size w w' := sameR_eq a b la lb ▸ ref_SameR a b la lb w ha hb
end Go.Proofs.YtfnmekmgjcjglaaDoor.V
