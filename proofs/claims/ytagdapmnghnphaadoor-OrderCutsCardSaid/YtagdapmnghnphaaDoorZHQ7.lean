/-
  The law OrderCuts.
-/
import Derived.Test.YtagdapmnghnphaaDoorZHQ1
import Derived.Test.YtagdapmnghnphaaDoorMM
namespace Go.Proofs.YtagdapmnghnphaaDoor.V
set_option linter.unusedVariables false
set_option linter.unusedSimpArgs false
set_option maxRecDepth 100000
open Go Go.RowKit Go.Maps Wire

/-- What the law holds in memory. -/
structure Cuts (W0 W : World) (q c b8 b9 : Nat) (x y z k1 k2 : Vec) (u : Value) (m : List OC) : Prop where
  h8 : W.heap[b8]? = some (.cells (vc k1) 25 (0, 0))
  h9 : W.heap[b9]? = some (.cells (vc k2) 25 (0, 0))
  two : TwoAt W q x y
  out : W.heap[c]? = some (.cells (vc z) 25 (0, 0))
  row : OpsV W u m
  below : Below W0.heap.size W0 W
theorem Cuts.keep {W0 W W' : World} {q c b8 b9 : Nat} {x y z k1 k2 : Vec} {u : Value} {m : List OC} (h : Cuts W0 W q c b8 b9 x y z k1 k2 u m) (hb : Below W.heap.size W W') : Cuts W0 W' q c b8 b9 x y z k1 k2 u m :=
  ⟨heap_keep h.h8 hb, heap_keep h.h9 hb, heap_keep h.two hb, heap_keep h.out hb, h.row.keep hb, below_next h.below hb⟩
set_option maxHeartbeats 600000 in
theorem law_OrderCuts (v : Value) (l : List OC) (x y : Vec) (W0 : World) (hv : OpsV W0 v l) (hT : Tab W0) (hsz : ∀ x ∈ l, x.2.length ≤ 8796093022208) (okx : okV x) (oky : okV y) :
    Calls Tryd.prog 7 #[v, .agg (two x y)] W0 fun e w' => e = .returned (.bool true) ∧ Below W0.heap.size W0 w' := by
  have hhead := fun W (hb : Below W0.heap.size W0 W) => law_head W (hT.keep hb)
  obtain ⟨a, n, cp, rfl, hI⟩ := hv
  have HN := hid (show n = l.length from hI.1.symm)
  have hm' : n ≤ 9223372036854775807 := Nat.le_trans hI.2.1 hI.2.2.1
  have HI := hid hI
  have HH := hid hhead
  have HZ := hid hsz
  clear hI hhead hT hsz
  go_enter Tryd.func7, Tryd.ntmps7
  go_upto_region 1 with (fail)
  refine gen_code (fun W => TwoAt W W0.heap.size x y ∧ Below W0.heap.size W0 W) ⟨heap_alloc_last' _ _, below_al _ _⟩ ?_
  rintro W1 ⟨h2, hB⟩
  have HW := hid (And.intro h2 hB)
  clear h2 hB
  have hgr := ref_Great (.slice a n cp) l W1 ⟨a, n, cp, rfl, HI.out.keep HW.out.2⟩ HZ.out
  cases hgb : greatM l
  · obtain ⟨h80, h300⟩ := great_not hgb
    rw [hgb] at hgr
    have HL := hid (And.intro h80 h300)
    clear hgb h80 h300
    go_upto_region 4 with (first
      | (go_at_call 8; refine hgr.mono ?_; rintro e w1 ⟨rfl, hw⟩; have hw2 := hw.symm; clear hw; subst hw2)
      | (refine load_vecAt _ rfl rfl ⟨W0.heap.size, 0, none⟩ rfl x (fun k hk => by rw [add8]; exact HW.out.1.c0 hk) ?_)
      | (refine wpList_store_row rfl _ _ _ rfl W1.heap.size (vc x) rfl rfl 25 (vc zeroV) ?_ (sizeV _) rfl (oneVc _) ?_; (focus exact heap_alloc_last' _ _); rw [World.setRow_alloc_new]))
    refine gen_code (fun W => TwoAt W W0.heap.size x y ∧ W.heap[W1.heap.size]? = some (.cells (vc x) 25 (0, 0)) ∧ Below W0.heap.size W0 W) ⟨heap_keep HW.out.1 (below_al _ _), heap_alloc_last' _ _, below_next HW.out.2 (below_al _ _)⟩ ?_
    have hcl := lt_of_heap HW.out.1
    generalize W1.heap.size = c at hcl ⊢
    rintro W2 ⟨h1, h2, h3⟩
    have HV := hid (And.intro h1 (And.intro h2 h3))
    clear h1 h2 h3 HW hgr
    go_wp2
    go_loopw [6] (fun i wr => ∃ r : Nat, r ≤ 8 ∧ i = .int .i64 (r : Nat) ∧ Hid (TwoAt wr W0.heap.size x y ∧ wr.heap[c]? = some (.cells (vc (mixV x y r)) 25 (0, 0)) ∧ Below W0.heap.size W0 wr)) (fun i _ => 8 - (intOf i).toNat)
    case atStart => exact ⟨0, by omega, rfl, hid (by rw [mix0]; exact HV.out)⟩
    case round =>
      obtain ⟨r, hr, rfl, HR⟩ := hrel
      by_cases hlt : r < 8
      · have h1 : (r : Int) < 8 := by omega
        have c0 := HR.out.1.c0 hlt
        have c1 := HR.out.1.c1 hlt
        have c2 := cellV HR.out.2.1 hlt
        have c3 := freeV HR.out.2.1 r
        have hmn : min (x r : Int) (y r : Int) = ((min (x r) (y r) : Nat) : Int) := by omega
        go_wp2
        go_region
        go_wp2
        go_roundw
        case rel =>
          refine ⟨r + 1, by omega, by go_num, hid ⟨heap_n HR.out.1 (by omega), ?_, (Below.setCell (p := ⟨c, r, none⟩) HR.out.2.2 (by show W0.heap.size ≤ c; omega) _).drew⟩⟩
          have h9 := heap_set HR.out.2.1 hlt (min (x r) (y r))
          rw [mix_step] at h9
          exact h9
        case measure => exact meas1 hlt
      · obtain rfl : r = 8 := by omega
        have hR := HR.out
        rw [mix8 okx] at hR
        clear HR HV
        generalize hz : (fun i => min (x i) (y i)) = z at hR
        have HZQ := hid hz
        have HR := hid hR
        clear hz hR
        have hcut := order_Cut (.slice a n cp) l x wr ⟨a, n, cp, rfl, HI.out.keep HR.out.2.2⟩ (fun q hq => Nat.le_trans (HL.out.2 q hq) (by omega)) (by have := HL.out.1; omega)
        go_upto_region 9 with (first
          | (refine load_vecAt _ rfl rfl ⟨W0.heap.size, 0, none⟩ rfl x (fun k hk => by rw [add8]; exact HR.out.1.c0 hk) ?_)
          | (go_at_call 21; refine hcut.mono ?_; rintro e w3 ⟨u, m, rfl, hown, hcore, hb⟩; have HC := hid (And.intro hown.opsV (And.intro hcore hb)); clear hown hcore hb hcut))
        have HS := hid (show TwoAt w3 W0.heap.size x y ∧ w3.heap[c]? = some (.cells (vc z) 25 (0, 0)) ∧ OpsV w3 u m ∧ Below W0.heap.size W0 w3 from ⟨heap_keep HR.out.1 HC.out.2.2, heap_keep HR.out.2.1 HC.out.2.2, HC.out.1, below_next HR.out.2.2 HC.out.2.2⟩)
        have HM := hid HC.out.2.1
        clear HC HR
        have hk1 := fun W (hb : Below w3.heap.size w3 W) => order_Known u m W (HS.out.2.2.1.keep hb)
        have hk2 := fun W (hb : Below w3.heap.size w3 W) => order_Known (.slice a n cp) l W ⟨a, n, cp, rfl, HI.out.keep (below_next HS.out.2.2.2 hb)⟩
        generalize hq1 : knownM m = k1 at hk1
        generalize hq2 : knownM l = k2 at hk2
        have hle : ∀ r, k1 r ≤ k2 r ∧ k1 r ≤ x r := fun r => by
          rw [← hq1, ← hq2, known_core HM.out]
          exact cut_known l x r
        have HKL := hid hle
        clear hle hq1 hq2
        have HK1 := hid hk1
        have HK2 := hid hk2
        clear hk1 hk2
        go_upto_region 10 with (first
          | (go_at_call 23; first
            | (refine (HK1.out _ (Below.refl _ _)).mono ?_; rintro e w4 ⟨rfl, hb⟩; have HB4 := hid hb; clear hb HK1)
            | (refine (HK2.out _ HB4.out).mono ?_; rintro e w5 ⟨rfl, hb⟩; have HB5 := hid (below_next HB4.out hb); clear hb HK2))
          | (refine wpList_store_row rfl _ (.tmp 8) (.tmp 40) rfl w5.heap.size (vc k1) rfl rfl 25 (vc zeroV) ?_ (sizeV _) rfl (oneVc _) ?_; (focus exact heap_al (heap_alloc_last' _ _) _))
          | (refine wpList_store_row rfl _ (.tmp 9) (.tmp 42) rfl (w5.heap.size + 1) (vc k2) rfl rfl 25 (vc zeroV) ?_ (sizeV _) rfl (oneVc _) ?_; (focus exact row_ne (last2 _ _ _) (by omega))))
        have hBW := Below.setRow (Below.setRow (below_al2 w5 (.cells (vc zeroV) 25) (.cells (vc zeroV) 25)) (Nat.le_refl _) (vc k1)) (Nat.le_succ _) (vc k2)
        have h35 := HB5.out
        refine gen_code (fun W => Cuts W0 W W0.heap.size c w5.heap.size (w5.heap.size + 1) x y z k1 k2 u m) ⟨row_ne (heap_row (heap_al (heap_alloc_last' _ _) _)) (Nat.succ_ne_self _), heap_row (row_ne (last2 _ _ _) (Nat.succ_ne_self _).symm), heap_keep (heap_keep HS.out.1 h35) hBW, heap_keep (heap_keep HS.out.2.1 h35) hBW, (HS.out.2.2.1.keep h35).keep hBW, below_next (below_next HS.out.2.2.2 h35) hBW⟩ ?_
        generalize w5.heap.size + 1 = b9
        generalize w5.heap.size = b8
        clear hBW h35 HB5 HB4 HS
        rintro W6 h6
        have HK := hid h6
        clear h6
        go_wp2
        go_loopw [10] (fun i wr => ∃ r : Nat, r ≤ 8 ∧ i = .int .i64 (r : Nat) ∧ Hid (Cuts W0 wr W0.heap.size c b8 b9 x y z k1 k2 u m)) (fun i _ => 8 - (intOf i).toNat)
        case atStart => exact ⟨0, by omega, rfl, HK⟩
        case round =>
          clear HK
          obtain ⟨r, hr, rfl, HK⟩ := hrel
          by_cases hlt : r < 8
          · have h1 : (r : Int) < 8 := by omega
            go_upto_region 13 with (fail)
            refine wp_flow (fun _ => none) (Fa.eq (.int .i64 ((r : Nat))) :: Fa.eq (.pointer (some ⟨b8, 0 + r, none⟩)) :: Fa.eq (.int .u32 (((k1 r : Nat) : Int))) :: Fa.eq (.int .i64 ((r : Nat))) :: Fa.eq (.pointer (some ⟨b9, 0 + r, none⟩)) :: Fa.eq (.int .u32 (((k2 r : Nat) : Int))) :: Fa.eq (.bool (decide ((((k2 r : Nat) : Int)) < (((k1 r : Nat) : Int))))) :: Fa.eq (.bool (decide ((((k2 r : Nat) : Int)) < (((k1 r : Nat) : Int))))) :: Fa.eq (gd (!(decide ((((k2 r : Nat) : Int)) < (((k1 r : Nat) : Int))))) (.int .i64 ((r : Nat)))) :: Fa.eq (gd (!(decide ((((k2 r : Nat) : Int)) < (((k1 r : Nat) : Int))))) (.pointer (some ⟨b8, 0 + r, none⟩))) :: Fa.eq (gd (!(decide ((((k2 r : Nat) : Int)) < (((k1 r : Nat) : Int))))) (.int .u32 (((k1 r : Nat) : Int)))) :: Fa.eq (gd (!(decide ((((k2 r : Nat) : Int)) < (((k1 r : Nat) : Int))))) (.int .i64 ((r : Nat)))) :: Fa.eq (gd (!(decide ((((k2 r : Nat) : Int)) < (((k1 r : Nat) : Int))))) (.pointer (some ⟨W0.heap.size, 0, none⟩))) :: Fa.eq (gd (!(decide ((((k2 r : Nat) : Int)) < (((k1 r : Nat) : Int))))) (.pointer (some ⟨W0.heap.size, 0 + r, none⟩))) :: Fa.eq (gd (!(decide ((((k2 r : Nat) : Int)) < (((k1 r : Nat) : Int))))) (.int .u32 (((x r : Nat) : Int)))) :: Fa.eq (gd (!(decide ((((k2 r : Nat) : Int)) < (((k1 r : Nat) : Int))))) (.bool (decide ((((x r : Nat) : Int)) < (((k1 r : Nat) : Int)))))) :: Fa.eq (.bool ((decide ((((k2 r : Nat) : Int)) < (((k1 r : Nat) : Int)))) || (decide ((((x r : Nat) : Int)) < (((k1 r : Nat) : Int)))))) :: []) 113 (by kernel_rfl) rfl (by kernel_rfl) rfl (by kernel_rfl) ?_ ?_ ?_
            · exact fits_plain _ _ rfl
            · refine ⟨?_, ?_, ?_, ?_, ?_, ?_, ?_, ?_, ?_, ?_, ?_, ?_, ?_, ?_, ?_, ?_, ?_, trivial⟩
              · exact v_move (.inl rfl) rfl (by kernel_rfl) True.intro (Ev.out (by kernel_rfl) rfl)
              · exact v_iaddr (u := .pointer (some ⟨b8, 0, none⟩)) (v := .int .i64 ((r : Nat))) (c := .pointer (some ⟨b8, 0 + r, none⟩)) rfl (fun w => iad_vec b8 0 r hlt w) rfl (by kernel_rfl) True.intro (Ev.out (by kernel_rfl) rfl) (Ev.at (i := 0) (by kernel_rfl) (by kernel_rfl) rfl)
              · exact v_load (u := .pointer (some ⟨b8, 0 + r, none⟩)) (c := .int .u32 (((k1 r : Nat) : Int))) rfl (fun w hB => ldc_32 (by rw [Nat.zero_add]; exact cellV (heap_keep (show (World.drew _).heap[_]? = _ from HK.out.h8) hB) hlt)) rfl (by kernel_rfl) True.intro (Ev.at (i := 1) (by kernel_rfl) (by kernel_rfl) rfl)
              · exact v_move (.inl rfl) rfl (by kernel_rfl) True.intro (Ev.out (by kernel_rfl) rfl)
              · exact v_iaddr (u := .pointer (some ⟨b9, 0, none⟩)) (v := .int .i64 ((r : Nat))) (c := .pointer (some ⟨b9, 0 + r, none⟩)) rfl (fun w => iad_vec b9 0 r hlt w) rfl (by kernel_rfl) True.intro (Ev.out (by kernel_rfl) rfl) (Ev.at (i := 3) (by kernel_rfl) (by kernel_rfl) rfl)
              · exact v_load (u := .pointer (some ⟨b9, 0 + r, none⟩)) (c := .int .u32 (((k2 r : Nat) : Int))) rfl (fun w hB => ldc_32 (by rw [Nat.zero_add]; exact cellV (heap_keep (show (World.drew _).heap[_]? = _ from HK.out.h9) hB) hlt)) rfl (by kernel_rfl) True.intro (Ev.at (i := 4) (by kernel_rfl) (by kernel_rfl) rfl)
              · exact v_bin (u := .int .u32 (((k1 r : Nat) : Int))) (v := .int .u32 (((k2 r : Nat) : Int))) (c := .bool (decide ((((k2 r : Nat) : Int)) < (((k1 r : Nat) : Int))))) rfl (fun w => (by go_simp)) rfl (by kernel_rfl) True.intro (Ev.at (i := 2) (by kernel_rfl) (by kernel_rfl) rfl) (Ev.at (i := 5) (by kernel_rfl) (by kernel_rfl) rfl)
              · exact v_move (.inl rfl) rfl (by kernel_rfl) True.intro (Ev.at (i := 6) (by kernel_rfl) (by kernel_rfl) rfl)
              · exact flow_gd (!(decide ((((k2 r : Nat) : Int)) < (((k1 r : Nat) : Int))))) (.int .i64 ((r : Nat))) 7 false (.bool (decide ((((k2 r : Nat) : Int)) < (((k1 r : Nat) : Int))))) rfl (by kernel_rfl) rfl gu_f rfl (fun hg hF hj => v_move (.inl rfl) hF (by kernel_rfl) (guard_of rfl (by kernel_rfl) (by kernel_rfl) hj) (Ev.out (by kernel_rfl) rfl))
              · exact flow_gd (!(decide ((((k2 r : Nat) : Int)) < (((k1 r : Nat) : Int))))) (.pointer (some ⟨b8, 0 + r, none⟩)) 7 false (.bool (decide ((((k2 r : Nat) : Int)) < (((k1 r : Nat) : Int))))) rfl (by kernel_rfl) rfl gu_f rfl (fun hg hF hj => v_iaddr (u := .pointer (some ⟨b8, 0, none⟩)) (v := .int .i64 ((r : Nat))) (c := .pointer (some ⟨b8, 0 + r, none⟩)) rfl (fun w => iad_vec b8 0 r hlt w) hF (by kernel_rfl) (guard_of rfl (by kernel_rfl) (by kernel_rfl) hj) (Ev.out (by kernel_rfl) rfl) (Ev.at (i := 8) (by kernel_rfl) (by kernel_rfl) (fe rfl (gd_t hg))))
              · exact flow_gd (!(decide ((((k2 r : Nat) : Int)) < (((k1 r : Nat) : Int))))) (.int .u32 (((k1 r : Nat) : Int))) 7 false (.bool (decide ((((k2 r : Nat) : Int)) < (((k1 r : Nat) : Int))))) rfl (by kernel_rfl) rfl gu_f rfl (fun hg hF hj => v_load (u := .pointer (some ⟨b8, 0 + r, none⟩)) (c := .int .u32 (((k1 r : Nat) : Int))) rfl (fun w hB => ldc_32 (by rw [Nat.zero_add]; exact cellV (heap_keep (show (World.drew _).heap[_]? = _ from HK.out.h8) hB) hlt)) hF (by kernel_rfl) (guard_of rfl (by kernel_rfl) (by kernel_rfl) hj) (Ev.at (i := 9) (by kernel_rfl) (by kernel_rfl) (fe rfl (gd_t hg))))
              · exact flow_gd (!(decide ((((k2 r : Nat) : Int)) < (((k1 r : Nat) : Int))))) (.int .i64 ((r : Nat))) 7 false (.bool (decide ((((k2 r : Nat) : Int)) < (((k1 r : Nat) : Int))))) rfl (by kernel_rfl) rfl gu_f rfl (fun hg hF hj => v_move (.inl rfl) hF (by kernel_rfl) (guard_of rfl (by kernel_rfl) (by kernel_rfl) hj) (Ev.out (by kernel_rfl) rfl))
              · exact flow_gd (!(decide ((((k2 r : Nat) : Int)) < (((k1 r : Nat) : Int))))) (.pointer (some ⟨W0.heap.size, 0, none⟩)) 7 false (.bool (decide ((((k2 r : Nat) : Int)) < (((k1 r : Nat) : Int))))) rfl (by kernel_rfl) rfl gu_f rfl (fun hg hF hj => v_iaddr (u := .pointer (some ⟨W0.heap.size, 0, none⟩)) (v := .int .i64 (0)) (c := .pointer (some ⟨W0.heap.size, 0, none⟩)) rfl (fun w => iad_two0 W0.heap.size w) hF (by kernel_rfl) (guard_of rfl (by kernel_rfl) (by kernel_rfl) hj) (Ev.out (by kernel_rfl) rfl) Ev.const)
              · exact flow_gd (!(decide ((((k2 r : Nat) : Int)) < (((k1 r : Nat) : Int))))) (.pointer (some ⟨W0.heap.size, 0 + r, none⟩)) 7 false (.bool (decide ((((k2 r : Nat) : Int)) < (((k1 r : Nat) : Int))))) rfl (by kernel_rfl) rfl gu_f rfl (fun hg hF hj => v_iaddr (u := .pointer (some ⟨W0.heap.size, 0, none⟩)) (v := .int .i64 ((r : Nat))) (c := .pointer (some ⟨W0.heap.size, 0 + r, none⟩)) rfl (fun w => iad_vec W0.heap.size 0 r hlt w) hF (by kernel_rfl) (guard_of rfl (by kernel_rfl) (by kernel_rfl) hj) (Ev.at (i := 12) (by kernel_rfl) (by kernel_rfl) (fe rfl (gd_t hg))) (Ev.at (i := 11) (by kernel_rfl) (by kernel_rfl) (fe rfl (gd_t hg))))
              · exact flow_gd (!(decide ((((k2 r : Nat) : Int)) < (((k1 r : Nat) : Int))))) (.int .u32 (((x r : Nat) : Int))) 7 false (.bool (decide ((((k2 r : Nat) : Int)) < (((k1 r : Nat) : Int))))) rfl (by kernel_rfl) rfl gu_f rfl (fun hg hF hj => v_load (u := .pointer (some ⟨W0.heap.size, 0 + r, none⟩)) (c := .int .u32 (((x r : Nat) : Int))) rfl (fun w hB => ldc_32 (by rw [Nat.zero_add]; exact TwoAt.c0 (heap_keep (show (World.drew _).heap[_]? = _ from HK.out.two) hB) hlt)) hF (by kernel_rfl) (guard_of rfl (by kernel_rfl) (by kernel_rfl) hj) (Ev.at (i := 13) (by kernel_rfl) (by kernel_rfl) (fe rfl (gd_t hg))))
              · exact flow_gd (!(decide ((((k2 r : Nat) : Int)) < (((k1 r : Nat) : Int))))) (.bool (decide ((((x r : Nat) : Int)) < (((k1 r : Nat) : Int))))) 7 false (.bool (decide ((((k2 r : Nat) : Int)) < (((k1 r : Nat) : Int))))) rfl (by kernel_rfl) rfl gu_f rfl (fun hg hF hj => v_bin (u := .int .u32 (((k1 r : Nat) : Int))) (v := .int .u32 (((x r : Nat) : Int))) (c := .bool (decide ((((x r : Nat) : Int)) < (((k1 r : Nat) : Int))))) rfl (fun w => (by go_simp)) hF (by kernel_rfl) (guard_of rfl (by kernel_rfl) (by kernel_rfl) hj) (Ev.at (i := 10) (by kernel_rfl) (by kernel_rfl) (fe rfl (gd_t hg))) (Ev.at (i := 14) (by kernel_rfl) (by kernel_rfl) (fe rfl (gd_t hg))))
              · exact v_or (p := decide ((((k2 r : Nat) : Int)) < (((k1 r : Nat) : Int)))) (q := decide ((((x r : Nat) : Int)) < (((k1 r : Nat) : Int)))) rfl rfl (by kernel_rfl) True.intro (Ev.at (i := 7) (by kernel_rfl) (by kernel_rfl) rfl) (fun hp => (Ev.at (i := 15) (by kernel_rfl) (by kernel_rfl) (fe rfl (gd_t (not_t hp)))))
            intro _ vs wu hBu hf
            have e0 : vs 0 = .int .i64 ((r : Nat)) := hf 0 (by decide)
            have e1 : vs 1 = .pointer (some ⟨b8, 0 + r, none⟩) := hf 1 (by decide)
            have e2 : vs 2 = .int .u32 (((k1 r : Nat) : Int)) := hf 2 (by decide)
            have e3 : vs 3 = .int .i64 ((r : Nat)) := hf 3 (by decide)
            have e4 : vs 4 = .pointer (some ⟨b9, 0 + r, none⟩) := hf 4 (by decide)
            have e5 : vs 5 = .int .u32 (((k2 r : Nat) : Int)) := hf 5 (by decide)
            have e6 : vs 6 = .bool (decide ((((k2 r : Nat) : Int)) < (((k1 r : Nat) : Int)))) := hf 6 (by decide)
            have e7 : vs 7 = .bool (decide ((((k2 r : Nat) : Int)) < (((k1 r : Nat) : Int)))) := hf 7 (by decide)
            have e8 : vs 8 = gd (!(decide ((((k2 r : Nat) : Int)) < (((k1 r : Nat) : Int))))) (.int .i64 ((r : Nat))) := hf 8 (by decide)
            have e9 : vs 9 = gd (!(decide ((((k2 r : Nat) : Int)) < (((k1 r : Nat) : Int))))) (.pointer (some ⟨b8, 0 + r, none⟩)) := hf 9 (by decide)
            have e10 : vs 10 = gd (!(decide ((((k2 r : Nat) : Int)) < (((k1 r : Nat) : Int))))) (.int .u32 (((k1 r : Nat) : Int))) := hf 10 (by decide)
            have e11 : vs 11 = gd (!(decide ((((k2 r : Nat) : Int)) < (((k1 r : Nat) : Int))))) (.int .i64 ((r : Nat))) := hf 11 (by decide)
            have e12 : vs 12 = gd (!(decide ((((k2 r : Nat) : Int)) < (((k1 r : Nat) : Int))))) (.pointer (some ⟨W0.heap.size, 0, none⟩)) := hf 12 (by decide)
            have e13 : vs 13 = gd (!(decide ((((k2 r : Nat) : Int)) < (((k1 r : Nat) : Int))))) (.pointer (some ⟨W0.heap.size, 0 + r, none⟩)) := hf 13 (by decide)
            have e14 : vs 14 = gd (!(decide ((((k2 r : Nat) : Int)) < (((k1 r : Nat) : Int))))) (.int .u32 (((x r : Nat) : Int))) := hf 14 (by decide)
            have e15 : vs 15 = gd (!(decide ((((k2 r : Nat) : Int)) < (((k1 r : Nat) : Int))))) (.bool (decide ((((x r : Nat) : Int)) < (((k1 r : Nat) : Int))))) := hf 15 (by decide)
            have e16 : vs 16 = .bool ((decide ((((k2 r : Nat) : Int)) < (((k1 r : Nat) : Int)))) || (decide ((((x r : Nat) : Int)) < (((k1 r : Nat) : Int))))) := hf 16 (by decide)
            obtain ⟨z1, hz1⟩ : ∃ z : Bool, ((decide ((((k2 r : Nat) : Int)) < (((k1 r : Nat) : Int)))) || (decide ((((x r : Nat) : Int)) < (((k1 r : Nat) : Int))))) = z := ⟨_, rfl⟩
            rw [hz1] at e16
            have HZ1 := hid hz1
            clear hz1
            simp only [fill, List.setIfInBounds_toArray, List.set_cons_zero, List.set_cons_succ, e0, e1, e2, e3, e4, e5, e6, e7, e8, e9, e10, e11, e12, e13, e14, e15, e16]
            clear e0 e1 e2 e3 e4 e5 e6 e7 e8 e9 e10 e11 e12 e13 e14 e15 e16
            clear hf
            have HKK := hid (HK.out.keep hBu)
            clear hBu HK
            have hzf : z1 = false := by
              rw [← HZ1.out, Bool.or_eq_false_iff, decide_eq_false_iff_not, decide_eq_false_iff_not]
              have := HKL.out r
              omega
            subst hzf
            clear HZ1
            go_wp2
            go_roundw
            case rel => exact ⟨r + 1, by omega, by go_num, HKK⟩
            case measure => exact meas1 hlt
          · have hr8 : (r : Int) = 8 := by omega
            simp only [hr8]
            clear HKL hr8 hlt hr r
            go_wp2
            go_loopw [11] (fun i wr => ∃ k : Nat, k ≤ n ∧ i = .int .i64 (k : Nat) ∧ Hid (Cuts W0 wr W0.heap.size c b8 b9 x y z k1 k2 u m)) (fun i _ => n - (intOf i).toNat)
            case atStart => exact ⟨0, by omega, rfl, HK⟩
            case round =>
              clear HK
              obtain ⟨k, hk, rfl, HK⟩ := hrel
              by_cases hlt : k < n
              · cases a with
                | none => have := HI.out.none_len; omega
                | some ad =>
                  obtain ⟨o, hx⟩ : ∃ o, l[k]? = some o := ⟨_, List.getElem?_eq_getElem (by have := HN.out; omega)⟩
                  have HX := hid hx
                  have HXI := hid ((HI.out.keep HK.out.below).opIn hx)
                  clear hx
                  have h1 : (k : Int) < (n : Int) := by omega
                  obtain ⟨d, hd⟩ : ∃ d : Dot, d = dt o := ⟨_, rfl⟩
                  have hfd : (findM m d).isSome = covB x d := by rw [find_core HM.out, hd]; exact find_cut x (List.mem_of_getElem? HX.out)
                  go_upto_region 19 with (first
                    | (refine load_dotIn _ rfl rfl (ad.add (k * 29)) rfl o.1 HXI.out ?_))
                  refine gen_code (fun W => W.heap[wr.heap.size]? = some (.cells (dbox d) 30 (0, 0)) ∧ Cuts W0 W W0.heap.size c b8 b9 x y z k1 k2 u m) ⟨by rw [hd]; exact heap_alloc_last' _ _, HK.out.keep (below_al _ _)⟩ ?_
                  generalize wr.heap.size = g
                  rintro W7 ⟨g1, g2⟩
                  have HG7 := hid (And.intro g1 g2)
                  have hfind := order_Find u m d W7 g2.row (fun q hq => Nat.le_trans (lens_core HM.out (fun q hq => HL.out.2 q (cut_sub l x q hq)) q hq) (by omega))
                  have HFD := hid hfd
                  clear g1 g2 HK HXI HX hd hfd
                  go_upto_region 20 with (first
                    | (refine load_any _ _ rfl rfl (.pointer (some ⟨g, 0, none⟩)) (.agg #[.int .u8 (d.1 : Int), .int .u32 (d.2 : Int)]) rfl (ldd_box HG7.out.1) ?_)
                    | (go_at_call 15; refine hfind.mono ?_; rintro e w7 ⟨oo, oc', rfl, hfo, hb⟩; have HF := hid (And.intro hfo hb); clear hfo hb hfind)
                    | (refine wpList_store_row rfl _ (.tmp 13) (.tmp 79) rfl w7.heap.size (oc oo) rfl rfl 34 (oc zeroO) (heap_alloc_last' _ _) (opSize _) rfl (found_one HF.out.1) ?_))
                  have hBW := Below.setRow (below_al w7 (.cells (oc zeroO) 34)) (Nat.le_refl _) (oc oo)
                  refine gen_code (fun W => W.heap[g]? = some (.cells (dbox d) 30 (0, 0)) ∧ Cuts W0 W W0.heap.size c b8 b9 x y z k1 k2 u m) ⟨heap_keep (heap_keep HG7.out.1 HF.out.2) hBW, (HG7.out.2.keep HF.out.2).keep hBW⟩ ?_
                  clear hBW
                  generalize w7.heap.size = g9
                  clear HF HG7
                  rintro w8 h8
                  have HG := hid h8
                  clear h8
                  obtain ⟨fb, hfb⟩ : ∃ fb, (findM m d).isSome = fb := ⟨_, rfl⟩
                  rw [hfb] at HFD ⊢
                  clear hfb
                  refine wp_flow (fun _ => none) (Fa.eq (.bool (fb)) :: Fa.eq (.pointer (some ⟨g, 0, none⟩)) :: Fa.eq (.int .u8 ((d.1 : Int))) :: Fa.eq (.bool (decide (((d.1 : Int)) < (8)))) :: Fa.eq (.bool (decide (((d.1 : Int)) < (8)))) :: Fa.eq (gd (decide (((d.1 : Int)) < (8))) (.pointer (some ⟨g, 1, none⟩))) :: Fa.eq (gd (decide (((d.1 : Int)) < (8))) (.int .u32 ((d.2 : Int)))) :: Fa.eq (gd (decide (((d.1 : Int)) < (8))) (.bool (decide ((0) < ((d.2 : Int)))))) :: Fa.eq (.bool ((decide (((d.1 : Int)) < (8))) && (decide ((0) < ((d.2 : Int)))))) :: Fa.eq (.bool ((decide (((d.1 : Int)) < (8))) && (decide ((0) < ((d.2 : Int)))))) :: Fa.eq (gd ((decide (((d.1 : Int)) < (8))) && (decide ((0) < ((d.2 : Int))))) (.pointer (some ⟨g, 1, none⟩))) :: Fa.eq (gd ((decide (((d.1 : Int)) < (8))) && (decide ((0) < ((d.2 : Int))))) (.int .u32 ((d.2 : Int)))) :: Fa.eq (gd ((decide (((d.1 : Int)) < (8))) && (decide ((0) < ((d.2 : Int))))) (.pointer (some ⟨g, 0, none⟩))) :: Fa.eq (gd ((decide (((d.1 : Int)) < (8))) && (decide ((0) < ((d.2 : Int))))) (.int .u8 ((d.1 : Int)))) :: Fa.eq (gd ((decide (((d.1 : Int)) < (8))) && (decide ((0) < ((d.2 : Int))))) (.int .u8 ((d.1 : Int)))) :: Fa.eq (gd ((decide (((d.1 : Int)) < (8))) && (decide ((0) < ((d.2 : Int))))) (.pointer (some ⟨W0.heap.size, 0, none⟩))) :: Fa.eq (gd ((decide (((d.1 : Int)) < (8))) && (decide ((0) < ((d.2 : Int))))) (.pointer (some ⟨W0.heap.size, 0 + d.1, none⟩))) :: Fa.eq (gd ((decide (((d.1 : Int)) < (8))) && (decide ((0) < ((d.2 : Int))))) (.int .u32 (((x d.1 : Nat) : Int)))) :: Fa.eq (gd ((decide (((d.1 : Int)) < (8))) && (decide ((0) < ((d.2 : Int))))) (.bool (decide (((d.2 : Int)) ≤ (((x d.1 : Nat) : Int)))))) :: Fa.eq (.bool (((decide (((d.1 : Int)) < (8))) && (decide ((0) < ((d.2 : Int))))) && (decide (((d.2 : Int)) ≤ (((x d.1 : Nat) : Int)))))) :: Fa.eq (.bool ((fb) != (((decide (((d.1 : Int)) < (8))) && (decide ((0) < ((d.2 : Int))))) && (decide (((d.2 : Int)) ≤ (((x d.1 : Nat) : Int))))))) :: []) 113 (by kernel_rfl) rfl (by kernel_rfl) rfl (by kernel_rfl) ?_ ?_ ?_
                  · exact fits_plain _ _ rfl
                  · refine ⟨?_, ?_, ?_, ?_, ?_, ?_, ?_, ?_, ?_, ?_, ?_, ?_, ?_, ?_, ?_, ?_, ?_, ?_, ?_, ?_, ?_, trivial⟩
                    · exact v_move (.inl rfl) rfl (by kernel_rfl) True.intro (Ev.out (by kernel_rfl) rfl)
                    · exact v_faddr (u := .pointer (some ⟨g, 0, none⟩)) (c := .pointer (some ⟨g, 0, none⟩)) rfl (fun w => (fld_dot8 g w).1) rfl (by kernel_rfl) True.intro (Ev.out (by kernel_rfl) rfl)
                    · exact v_load (u := .pointer (some ⟨g, 0, none⟩)) (c := .int .u8 ((d.1 : Int))) rfl (fun w hB => ldd_r (heap_keep (show (World.drew _).heap[_]? = _ from HG.out.1) hB)) rfl (by kernel_rfl) True.intro (Ev.at (i := 1) (by kernel_rfl) (by kernel_rfl) rfl)
                    · exact v_bin (u := .int .u8 ((d.1 : Int))) (v := .int .u8 (8)) (c := .bool (decide (((d.1 : Int)) < (8)))) rfl (fun w => (by go_simp)) rfl (by kernel_rfl) True.intro (Ev.at (i := 2) (by kernel_rfl) (by kernel_rfl) rfl) Ev.const
                    · exact v_move (.inl rfl) rfl (by kernel_rfl) True.intro (Ev.at (i := 3) (by kernel_rfl) (by kernel_rfl) rfl)
                    · exact flow_gd (decide (((d.1 : Int)) < (8))) (.pointer (some ⟨g, 1, none⟩)) 4 true (.bool (decide (((d.1 : Int)) < (8)))) rfl (by kernel_rfl) rfl gu_t rfl (fun hg hF hj => v_faddr (u := .pointer (some ⟨g, 0, none⟩)) (c := .pointer (some ⟨g, 1, none⟩)) rfl (fun w => (fld_dot8 g w).2) hF (by kernel_rfl) (guard_of rfl (by kernel_rfl) (by kernel_rfl) hj) (Ev.out (by kernel_rfl) rfl))
                    · exact flow_gd (decide (((d.1 : Int)) < (8))) (.int .u32 ((d.2 : Int))) 4 true (.bool (decide (((d.1 : Int)) < (8)))) rfl (by kernel_rfl) rfl gu_t rfl (fun hg hF hj => v_load (u := .pointer (some ⟨g, 1, none⟩)) (c := .int .u32 ((d.2 : Int))) rfl (fun w hB => ldd_n (heap_keep (show (World.drew _).heap[_]? = _ from HG.out.1) hB)) hF (by kernel_rfl) (guard_of rfl (by kernel_rfl) (by kernel_rfl) hj) (Ev.at (i := 5) (by kernel_rfl) (by kernel_rfl) (fe rfl (gd_t hg))))
                    · exact flow_gd (decide (((d.1 : Int)) < (8))) (.bool (decide ((0) < ((d.2 : Int))))) 4 true (.bool (decide (((d.1 : Int)) < (8)))) rfl (by kernel_rfl) rfl gu_t rfl (fun hg hF hj => v_bin (u := .int .u32 ((d.2 : Int))) (v := .int .u32 (0)) (c := .bool (decide ((0) < ((d.2 : Int))))) rfl (fun w => (by go_simp)) hF (by kernel_rfl) (guard_of rfl (by kernel_rfl) (by kernel_rfl) hj) (Ev.at (i := 6) (by kernel_rfl) (by kernel_rfl) (fe rfl (gd_t hg))) Ev.const)
                    · exact v_and (p := decide (((d.1 : Int)) < (8))) (q := decide ((0) < ((d.2 : Int)))) rfl rfl (by kernel_rfl) True.intro (Ev.at (i := 4) (by kernel_rfl) (by kernel_rfl) rfl) (fun hp => (Ev.at (i := 7) (by kernel_rfl) (by kernel_rfl) (fe rfl (gd_t hp))))
                    · exact v_move (.inl rfl) rfl (by kernel_rfl) True.intro (Ev.at (i := 8) (by kernel_rfl) (by kernel_rfl) rfl)
                    · exact flow_gd ((decide (((d.1 : Int)) < (8))) && (decide ((0) < ((d.2 : Int))))) (.pointer (some ⟨g, 1, none⟩)) 9 true (.bool ((decide (((d.1 : Int)) < (8))) && (decide ((0) < ((d.2 : Int)))))) rfl (by kernel_rfl) rfl gu_t rfl (fun hg hF hj => v_faddr (u := .pointer (some ⟨g, 0, none⟩)) (c := .pointer (some ⟨g, 1, none⟩)) rfl (fun w => (fld_dot8 g w).2) hF (by kernel_rfl) (guard_of rfl (by kernel_rfl) (by kernel_rfl) hj) (Ev.out (by kernel_rfl) rfl))
                    · exact flow_gd ((decide (((d.1 : Int)) < (8))) && (decide ((0) < ((d.2 : Int))))) (.int .u32 ((d.2 : Int))) 9 true (.bool ((decide (((d.1 : Int)) < (8))) && (decide ((0) < ((d.2 : Int)))))) rfl (by kernel_rfl) rfl gu_t rfl (fun hg hF hj => v_load (u := .pointer (some ⟨g, 1, none⟩)) (c := .int .u32 ((d.2 : Int))) rfl (fun w hB => ldd_n (heap_keep (show (World.drew _).heap[_]? = _ from HG.out.1) hB)) hF (by kernel_rfl) (guard_of rfl (by kernel_rfl) (by kernel_rfl) hj) (Ev.at (i := 10) (by kernel_rfl) (by kernel_rfl) (fe rfl (gd_t hg))))
                    · exact flow_gd ((decide (((d.1 : Int)) < (8))) && (decide ((0) < ((d.2 : Int))))) (.pointer (some ⟨g, 0, none⟩)) 9 true (.bool ((decide (((d.1 : Int)) < (8))) && (decide ((0) < ((d.2 : Int)))))) rfl (by kernel_rfl) rfl gu_t rfl (fun hg hF hj => v_faddr (u := .pointer (some ⟨g, 0, none⟩)) (c := .pointer (some ⟨g, 0, none⟩)) rfl (fun w => (fld_dot8 g w).1) hF (by kernel_rfl) (guard_of rfl (by kernel_rfl) (by kernel_rfl) hj) (Ev.out (by kernel_rfl) rfl))
                    · exact flow_gd ((decide (((d.1 : Int)) < (8))) && (decide ((0) < ((d.2 : Int))))) (.int .u8 ((d.1 : Int))) 9 true (.bool ((decide (((d.1 : Int)) < (8))) && (decide ((0) < ((d.2 : Int)))))) rfl (by kernel_rfl) rfl gu_t rfl (fun hg hF hj => v_load (u := .pointer (some ⟨g, 0, none⟩)) (c := .int .u8 ((d.1 : Int))) rfl (fun w hB => ldd_r (heap_keep (show (World.drew _).heap[_]? = _ from HG.out.1) hB)) hF (by kernel_rfl) (guard_of rfl (by kernel_rfl) (by kernel_rfl) hj) (Ev.at (i := 12) (by kernel_rfl) (by kernel_rfl) (fe rfl (gd_t hg))))
                    · exact flow_gd ((decide (((d.1 : Int)) < (8))) && (decide ((0) < ((d.2 : Int))))) (.int .u8 ((d.1 : Int))) 9 true (.bool ((decide (((d.1 : Int)) < (8))) && (decide ((0) < ((d.2 : Int)))))) rfl (by kernel_rfl) rfl gu_t rfl (fun hg hF hj => v_bin (u := .int .u8 ((d.1 : Int))) (v := .int .u8 (8)) (c := .int .u8 ((d.1 : Int))) rfl (fun w => rem8 d.1 (by have h8 := of_decide_eq_true (and_l hg); omega) _ _ w) hF (by kernel_rfl) (guard_of rfl (by kernel_rfl) (by kernel_rfl) hj) (Ev.at (i := 13) (by kernel_rfl) (by kernel_rfl) (fe rfl (gd_t hg))) Ev.const)
                    · exact flow_gd ((decide (((d.1 : Int)) < (8))) && (decide ((0) < ((d.2 : Int))))) (.pointer (some ⟨W0.heap.size, 0, none⟩)) 9 true (.bool ((decide (((d.1 : Int)) < (8))) && (decide ((0) < ((d.2 : Int)))))) rfl (by kernel_rfl) rfl gu_t rfl (fun hg hF hj => v_iaddr (u := .pointer (some ⟨W0.heap.size, 0, none⟩)) (v := .int .i64 (0)) (c := .pointer (some ⟨W0.heap.size, 0, none⟩)) rfl (fun w => iad_two0 W0.heap.size w) hF (by kernel_rfl) (guard_of rfl (by kernel_rfl) (by kernel_rfl) hj) (Ev.out (by kernel_rfl) rfl) Ev.const)
                    · exact flow_gd ((decide (((d.1 : Int)) < (8))) && (decide ((0) < ((d.2 : Int))))) (.pointer (some ⟨W0.heap.size, 0 + d.1, none⟩)) 9 true (.bool ((decide (((d.1 : Int)) < (8))) && (decide ((0) < ((d.2 : Int)))))) rfl (by kernel_rfl) rfl gu_t rfl (fun hg hF hj => v_iaddr (u := .pointer (some ⟨W0.heap.size, 0, none⟩)) (v := .int .u8 ((d.1 : Int))) (c := .pointer (some ⟨W0.heap.size, 0 + d.1, none⟩)) rfl (fun w => iad_vec8 W0.heap.size 0 d.1 (by have h8 := of_decide_eq_true (and_l hg); omega) w) hF (by kernel_rfl) (guard_of rfl (by kernel_rfl) (by kernel_rfl) hj) (Ev.at (i := 15) (by kernel_rfl) (by kernel_rfl) (fe rfl (gd_t hg))) (Ev.at (i := 14) (by kernel_rfl) (by kernel_rfl) (fe rfl (gd_t hg))))
                    · exact flow_gd ((decide (((d.1 : Int)) < (8))) && (decide ((0) < ((d.2 : Int))))) (.int .u32 (((x d.1 : Nat) : Int))) 9 true (.bool ((decide (((d.1 : Int)) < (8))) && (decide ((0) < ((d.2 : Int)))))) rfl (by kernel_rfl) rfl gu_t rfl (fun hg hF hj => v_load (u := .pointer (some ⟨W0.heap.size, 0 + d.1, none⟩)) (c := .int .u32 (((x d.1 : Nat) : Int))) rfl (fun w hB => ldc_32 (by rw [Nat.zero_add]; exact TwoAt.c0 (heap_keep (show (World.drew _).heap[_]? = _ from HG.out.2.two) hB) (by have h8 := of_decide_eq_true (and_l hg); omega))) hF (by kernel_rfl) (guard_of rfl (by kernel_rfl) (by kernel_rfl) hj) (Ev.at (i := 16) (by kernel_rfl) (by kernel_rfl) (fe rfl (gd_t hg))))
                    · exact flow_gd ((decide (((d.1 : Int)) < (8))) && (decide ((0) < ((d.2 : Int))))) (.bool (decide (((d.2 : Int)) ≤ (((x d.1 : Nat) : Int))))) 9 true (.bool ((decide (((d.1 : Int)) < (8))) && (decide ((0) < ((d.2 : Int)))))) rfl (by kernel_rfl) rfl gu_t rfl (fun hg hF hj => v_bin (u := .int .u32 ((d.2 : Int))) (v := .int .u32 (((x d.1 : Nat) : Int))) (c := .bool (decide (((d.2 : Int)) ≤ (((x d.1 : Nat) : Int))))) rfl (fun w => (by go_simp)) hF (by kernel_rfl) (guard_of rfl (by kernel_rfl) (by kernel_rfl) hj) (Ev.at (i := 11) (by kernel_rfl) (by kernel_rfl) (fe rfl (gd_t hg))) (Ev.at (i := 17) (by kernel_rfl) (by kernel_rfl) (fe rfl (gd_t hg))))
                    · exact v_and (p := (decide (((d.1 : Int)) < (8))) && (decide ((0) < ((d.2 : Int))))) (q := decide (((d.2 : Int)) ≤ (((x d.1 : Nat) : Int)))) rfl rfl (by kernel_rfl) True.intro (Ev.at (i := 9) (by kernel_rfl) (by kernel_rfl) rfl) (fun hp => (Ev.at (i := 18) (by kernel_rfl) (by kernel_rfl) (fe rfl (gd_t hp))))
                    · exact v_bin (u := .bool (fb)) (v := .bool (((decide (((d.1 : Int)) < (8))) && (decide ((0) < ((d.2 : Int))))) && (decide (((d.2 : Int)) ≤ (((x d.1 : Nat) : Int)))))) (c := .bool ((fb) != (((decide (((d.1 : Int)) < (8))) && (decide ((0) < ((d.2 : Int))))) && (decide (((d.2 : Int)) ≤ (((x d.1 : Nat) : Int))))))) rfl (fun w => bin_neqB _ _ _ _ w) rfl (by kernel_rfl) True.intro (Ev.at (i := 0) (by kernel_rfl) (by kernel_rfl) rfl) (Ev.at (i := 19) (by kernel_rfl) (by kernel_rfl) rfl)
                  intro _ vs wv hBv hf
                  have e0 : vs 0 = .bool (fb) := hf 0 (by decide)
                  have e1 : vs 1 = .pointer (some ⟨g, 0, none⟩) := hf 1 (by decide)
                  have e2 : vs 2 = .int .u8 ((d.1 : Int)) := hf 2 (by decide)
                  have e3 : vs 3 = .bool (decide (((d.1 : Int)) < (8))) := hf 3 (by decide)
                  have e4 : vs 4 = .bool (decide (((d.1 : Int)) < (8))) := hf 4 (by decide)
                  have e5 : vs 5 = gd (decide (((d.1 : Int)) < (8))) (.pointer (some ⟨g, 1, none⟩)) := hf 5 (by decide)
                  have e6 : vs 6 = gd (decide (((d.1 : Int)) < (8))) (.int .u32 ((d.2 : Int))) := hf 6 (by decide)
                  have e7 : vs 7 = gd (decide (((d.1 : Int)) < (8))) (.bool (decide ((0) < ((d.2 : Int))))) := hf 7 (by decide)
                  have e8 : vs 8 = .bool ((decide (((d.1 : Int)) < (8))) && (decide ((0) < ((d.2 : Int))))) := hf 8 (by decide)
                  have e9 : vs 9 = .bool ((decide (((d.1 : Int)) < (8))) && (decide ((0) < ((d.2 : Int))))) := hf 9 (by decide)
                  have e10 : vs 10 = gd ((decide (((d.1 : Int)) < (8))) && (decide ((0) < ((d.2 : Int))))) (.pointer (some ⟨g, 1, none⟩)) := hf 10 (by decide)
                  have e11 : vs 11 = gd ((decide (((d.1 : Int)) < (8))) && (decide ((0) < ((d.2 : Int))))) (.int .u32 ((d.2 : Int))) := hf 11 (by decide)
                  have e12 : vs 12 = gd ((decide (((d.1 : Int)) < (8))) && (decide ((0) < ((d.2 : Int))))) (.pointer (some ⟨g, 0, none⟩)) := hf 12 (by decide)
                  have e13 : vs 13 = gd ((decide (((d.1 : Int)) < (8))) && (decide ((0) < ((d.2 : Int))))) (.int .u8 ((d.1 : Int))) := hf 13 (by decide)
                  have e14 : vs 14 = gd ((decide (((d.1 : Int)) < (8))) && (decide ((0) < ((d.2 : Int))))) (.int .u8 ((d.1 : Int))) := hf 14 (by decide)
                  have e15 : vs 15 = gd ((decide (((d.1 : Int)) < (8))) && (decide ((0) < ((d.2 : Int))))) (.pointer (some ⟨W0.heap.size, 0, none⟩)) := hf 15 (by decide)
                  have e16 : vs 16 = gd ((decide (((d.1 : Int)) < (8))) && (decide ((0) < ((d.2 : Int))))) (.pointer (some ⟨W0.heap.size, 0 + d.1, none⟩)) := hf 16 (by decide)
                  have e17 : vs 17 = gd ((decide (((d.1 : Int)) < (8))) && (decide ((0) < ((d.2 : Int))))) (.int .u32 (((x d.1 : Nat) : Int))) := hf 17 (by decide)
                  have e18 : vs 18 = gd ((decide (((d.1 : Int)) < (8))) && (decide ((0) < ((d.2 : Int))))) (.bool (decide (((d.2 : Int)) ≤ (((x d.1 : Nat) : Int))))) := hf 18 (by decide)
                  have e19 : vs 19 = .bool (((decide (((d.1 : Int)) < (8))) && (decide ((0) < ((d.2 : Int))))) && (decide (((d.2 : Int)) ≤ (((x d.1 : Nat) : Int))))) := hf 19 (by decide)
                  have e20 : vs 20 = .bool ((fb) != (((decide (((d.1 : Int)) < (8))) && (decide ((0) < ((d.2 : Int))))) && (decide (((d.2 : Int)) ≤ (((x d.1 : Nat) : Int)))))) := hf 20 (by decide)
                  obtain ⟨z2, hz2⟩ : ∃ z : Bool, ((fb) != (((decide (((d.1 : Int)) < (8))) && (decide ((0) < ((d.2 : Int))))) && (decide (((d.2 : Int)) ≤ (((x d.1 : Nat) : Int)))))) = z := ⟨_, rfl⟩
                  rw [hz2] at e20
                  have HZ2 := hid hz2
                  clear hz2
                  simp only [fill, List.setIfInBounds_toArray, List.set_cons_zero, List.set_cons_succ, e0, e1, e2, e3, e4, e5, e6, e7, e8, e9, e10, e11, e12, e13, e14, e15, e16, e17, e18, e19, e20]
                  clear e0 e1 e2 e3 e4 e5 e6 e7 e8 e9 e10 e11 e12 e13 e14 e15 e16 e17 e18 e19 e20
                  clear hf
                  have HKK := hid (HG.out.2.keep hBv)
                  clear hBv HG
                  have hzf : z2 = false := by
                    rw [← HZ2.out, HFD.out, cov_cond]
                    simp
                  subst hzf
                  clear HZ2
                  go_wp2
                  go_roundw
                  case rel => exact ⟨k + 1, by omega, by go_num, HKK⟩
                  case measure => exact meas1 hlt
              · obtain rfl : k = n := by omega
                have HCW := hid (below_dr wr)
                go_upto_region 22 with (fail)
                refine wp_flow (fun _ => none) (Fa.eq u :: Fa.eq (.pointer (some ⟨W0.heap.size, 8, none⟩)) :: Fa.eq (.agg (vc y)) :: Fa.dep (RowAs (cutM m y)) :: Fa.eq (.slice a k cp) :: Fa.eq (.agg (vc z)) :: Fa.dep (RowAs (cutM l z)) :: Fa.eq (.bool true) :: Fa.eq (.bool true) :: Fa.eq (.bool true) :: Fa.eq (.bool true) :: Fa.eq (.bool true) :: []) 113 (by kernel_rfl) rfl (by kernel_rfl) rfl (by kernel_rfl) ?_ ?_ ?_
                · exact ⟨trivial, trivial, trivial, ⟨fun _ => rfl, fun _ _ _ hb h => RowAs.keep h hb⟩, trivial, trivial, ⟨fun _ => rfl, fun _ _ _ hb h => RowAs.keep h hb⟩, trivial, trivial, trivial, trivial, trivial, trivial⟩
                · refine ⟨?_, ?_, ?_, ?_, ?_, ?_, ?_, ?_, ?_, ?_, ?_, ?_, trivial⟩
                  · exact v_move (.inl rfl) rfl (by kernel_rfl) True.intro (Ev.out (by kernel_rfl) rfl)
                  · exact v_iaddr (u := .pointer (some ⟨W0.heap.size, 0, none⟩)) (v := .int .i64 1) (c := .pointer (some ⟨W0.heap.size, 8, none⟩)) rfl (fun w => iad_two1 _ w) rfl (by kernel_rfl) True.intro (Ev.out (by kernel_rfl) rfl) Ev.const
                  · exact v_load (u := .pointer (some ⟨W0.heap.size, 8, none⟩)) (c := .agg (vc y)) rfl (fun w hB => ldv_two1 (heap_keep (show (World.drew _).heap[_]? = _ from HK.out.two) hB)) rfl (by kernel_rfl) True.intro (Ev.at (i := 1) (by kernel_rfl) (by kernel_rfl) rfl)
                  · exact v_callr2 (u := u) (v := .agg (vc y)) rfl (fun args w => rfl) (fun w hB => cut_as u m y w (HK.out.row.keep (below_next HCW.out hB)) (fun q hq => Nat.le_trans (lens_core HM.out (fun q hq => HL.out.2 q (cut_sub l x q hq)) q hq) (by omega)) (by have h1 := len_core HM.out; have h2 := cut_le l x; have h3 := HL.out.1; omega)) rfl (by kernel_rfl) True.intro (Ev.at (i := 0) (by kernel_rfl) (by kernel_rfl) rfl) (Ev.at (i := 2) (by kernel_rfl) (by kernel_rfl) rfl)
                  · exact v_move (.inl rfl) rfl (by kernel_rfl) True.intro (Ev.out (by kernel_rfl) rfl)
                  · exact v_load (u := .pointer (some ⟨c, 0, none⟩)) (c := .agg (vc z)) rfl (fun w hB => ldp_vbox (heap_keep (show (World.drew _).heap[_]? = _ from HK.out.out) hB)) rfl (by kernel_rfl) True.intro (Ev.out (by kernel_rfl) rfl)
                  · exact v_callr2 (u := .slice a k cp) (v := .agg (vc z)) rfl (fun args w => rfl) (fun w hB => cut_as (.slice a k cp) l z w ⟨a, k, cp, rfl, HI.out.keep (below_next HK.out.below (below_next HCW.out hB))⟩ (fun q hq => Nat.le_trans (HL.out.2 q hq) (by omega)) (by have := HL.out.1; omega)) rfl (by kernel_rfl) True.intro (Ev.at (i := 4) (by kernel_rfl) (by kernel_rfl) rfl) (Ev.at (i := 5) (by kernel_rfl) (by kernel_rfl) rfl)
                  · exact v_calle2 (p := RowAs (cutM m y)) (q := RowAs (cutM l z)) (c := .bool true) rfl (fun args w => rfl) (fun v u w hB hp hq => same_as hp hq (by rw [cut_core HM.out, cut_cut, HZQ.out])) rfl (by kernel_rfl) True.intro (EvD.at (i := 3) (by kernel_rfl) (by kernel_rfl) rfl) (EvD.at (i := 6) (by kernel_rfl) (by kernel_rfl) rfl)
                  · exact v_move (.inl rfl) rfl (by kernel_rfl) True.intro (Ev.at (i := 7) (by kernel_rfl) (by kernel_rfl) rfl)
                  · exact v_call (vs := #[]) (c := .bool true) rfl (fun args w => rfl) (fun w hB => HH.out w (below_next HK.out.below (below_next HCW.out hB))) rfl (by kernel_rfl) ⟨rfl, (by kernel_rfl), (by kernel_rfl)⟩ ev0
                  · exact v_and (p := true) (q := true) rfl rfl (by kernel_rfl) True.intro (Ev.at (i := 8) (by kernel_rfl) (by kernel_rfl) rfl) (fun hp => (Ev.at (i := 9) (by kernel_rfl) (by kernel_rfl) rfl))
                  · exact v_move (.inr rfl) rfl (by kernel_rfl) True.intro (Ev.at (i := 10) (by kernel_rfl) (by kernel_rfl) rfl)
                intro _ vs W2 hB2 hf
                have e11 : vs 11 = .bool true := hf 11 (by decide)
                simp only [fill, List.setIfInBounds_toArray, List.set_cons_zero, List.set_cons_succ, e11]
                have HE := hid (below_next HK.out.below hB2)
                clear hB2 hf
                go_wp2
                go_ret
                exact ⟨rfl, HE.out⟩
  · rw [hgb] at hgr
    have hhd := HH.out _ HW.out.2
    clear hgb
    go_wp2_with (first
      | (go_at_call 8; refine hgr.mono ?_; rintro e w1 ⟨rfl, hw⟩; have hw2 := hw.symm; clear hw; subst hw2)
      | (go_at_call 9; refine hhd.mono ?_; rintro e w3 ⟨rfl, hb⟩; have HE := hid (below_next HW.out.2 hb); clear hb))
    go_ret
    exact ⟨rfl, HE.out⟩
end Go.Proofs.YtagdapmnghnphaaDoor.V
