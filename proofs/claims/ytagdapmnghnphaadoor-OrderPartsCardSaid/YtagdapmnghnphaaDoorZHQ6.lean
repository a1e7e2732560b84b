/-
  The law OrderParts.
-/
import Derived.Test.YtagdapmnghnphaaDoorZHQP
namespace Go.Proofs.YtagdapmnghnphaaDoor.V
set_option linter.unusedVariables false
set_option linter.unusedSimpArgs false
set_option maxRecDepth 100000
open Go Go.RowKit Go.Maps Wire

/-- What both have, up to here. -/
def bothT (a b : List OC) (k : Nat) : List OC := bothM (a.take k) b
theorem bothT_step {a b : List OC} {k : Nat} {x : OC} (hx : a[k]? = some x) : bothT a b (k + 1) = if (findM b (dt x)).isSome = true then bothT a b k ++ [x] else bothT a b k := by
  unfold bothT bothM
  rw [take_snocO hx, List.filter_append]
  by_cases h : (findM b (dt x)).isSome = true
  · rw [if_pos h]
    congr 1
    rw [List.filter_cons, if_pos (by exact h)]
    rfl
  · rw [if_neg h, List.filter_cons, if_neg (by exact h)]
    simp
theorem bothT_all (a b : List OC) {k : Nat} (h : a.length ≤ k) : bothT a b k = bothM a b := by unfold bothT; rw [List.take_of_length_le h]
theorem bothT_le (a b : List OC) (k : Nat) : (bothT a b k).length ≤ a.length := by
  unfold bothT bothM
  exact Nat.le_trans (List.length_filter_le ..) (by rw [List.length_take]; omega)
theorem heap_lt_al (w : World) (o : Obj) : w.heap.size < (w.alloc o).heap.size := by rw [World.size_alloc]; omega
set_option maxHeartbeats 600000 in
theorem law_OrderParts (v : Value) (l : List OC) (nr : Int) (x y : Vec) (W0 : World) (hv : OpsV W0 v l) (hT : Tab W0) (hsz : ∀ x ∈ l, x.2.length ≤ 8796093022208) :
    Calls Tryd.prog 6 #[v, .int .i64 nr, .agg (two x y)] W0 fun e w' => e = .returned (.bool true) ∧ Below W0.heap.size W0 w' := by
  have hhead := fun W (hb : Below W0.heap.size W0 W) => law_head W (hT.keep hb)
  obtain ⟨a, n, cp, rfl, hI⟩ := hv
  have HN := hid (show n = l.length from hI.1.symm)
  have hm' : n ≤ 9223372036854775807 := Nat.le_trans hI.2.1 hI.2.2.1
  have HI := hid hI
  have HH := hid hhead
  have HZ := hid hsz
  have HT := hid hT
  clear hI hhead hT hsz
  go_enter Tryd.func6, Tryd.ntmps6
  go_upto_region 1 with (fail)
  refine gen_code (fun W => TwoAt W W0.heap.size x y ∧ Below W0.heap.size W0 W) ⟨heap_alloc_last' _ _, below_al _ _⟩ ?_
  rintro W1 ⟨h2, hB⟩
  have HW := hid (And.intro h2 hB)
  clear h2 hB
  have hgr := ref_Great (.slice a n cp) l W1 ⟨a, n, cp, rfl, HI.out.keep HW.out.2⟩ HZ.out
  clear HZ
  cases hgb : greatM l
  · obtain ⟨h80, h300⟩ := great_not hgb
    have hhi := order_History (.slice a n cp) l nr W1 ⟨a, n, cp, rfl, HI.out.keep HW.out.2⟩ (HT.out.keep HW.out.2) (by omega)
    rw [hgb] at hgr
    by_cases hm : histM nr l = 0
    · have HP := hid (histM_zero.1 hm)
      have HL := hid (And.intro h80 h300)
      rw [hm] at hhi
      clear hgb h80 h300 hm
      go_upto_region 3 with (first
        | (go_at_call 8; refine hgr.mono ?_; rintro e w1 ⟨rfl, hw⟩; have hw2 := hw.symm; clear hw; subst hw2)
        | (go_at_call 25; refine hhi.mono ?_; rintro e w2 ⟨rfl, hb⟩; have HB0 := hid hb; clear hb))
      clear hgr hhi
      have HTW := hid (heap_keep HW.out.1 HB0.out)
      have HBW := hid (below_next HW.out.2 HB0.out)
      clear HW HB0
      have HCW := hid (below_dr w2)
      refine wp_flow (fun _ => none) (Fa.eq (.slice a n cp) :: Fa.eq (.pointer (some ⟨W0.heap.size, 0, none⟩)) :: Fa.eq (.agg (vc x)) :: Fa.dep (RowAs (cutM l x)) :: Fa.eq (.slice a n cp) :: Fa.eq (.pointer (some ⟨W0.heap.size, 8, none⟩)) :: Fa.eq (.agg (vc y)) :: Fa.dep (RowAs (cutM l y)) :: Fa.dep (RowAs (cutM l x)) :: Fa.dep (RowAs (cutM l y)) :: []) 98 (by kernel_rfl) rfl (by kernel_rfl) rfl (by kernel_rfl) ?_ ?_ ?_
      · exact ⟨trivial, trivial, trivial, ⟨fun _ => rfl, fun _ _ _ hb h => RowAs.keep h hb⟩, trivial, trivial, trivial, ⟨fun _ => rfl, fun _ _ _ hb h => RowAs.keep h hb⟩, ⟨fun _ => rfl, fun _ _ _ hb h => RowAs.keep h hb⟩, ⟨fun _ => rfl, fun _ _ _ hb h => RowAs.keep h hb⟩, trivial⟩
      · refine ⟨?_, ?_, ?_, ?_, ?_, ?_, ?_, ?_, ?_, ?_, trivial⟩
        · exact v_move (.inl rfl) rfl (by kernel_rfl) True.intro (Ev.out (by kernel_rfl) rfl)
        · exact v_iaddr (u := .pointer (some ⟨W0.heap.size, 0, none⟩)) (v := .int .i64 0) (c := .pointer (some ⟨W0.heap.size, 0, none⟩)) rfl (fun w => iad_two0 _ w) rfl (by kernel_rfl) True.intro (Ev.out (by kernel_rfl) rfl) Ev.const
        · exact v_load (u := .pointer (some ⟨W0.heap.size, 0, none⟩)) (c := .agg (vc x)) rfl (fun w hB => ldv_two0 (heap_keep (show (World.drew _).heap[_]? = _ from HTW.out) hB)) rfl (by kernel_rfl) True.intro (Ev.at (i := 1) (by kernel_rfl) (by kernel_rfl) rfl)
        · exact v_callr2 (u := .slice a n cp) (v := .agg (vc x)) rfl (fun args w => rfl) (fun w hB => cut_as (.slice a n cp) l x w ⟨a, n, cp, rfl, HI.out.keep (below_next HBW.out (below_next HCW.out hB))⟩ (fun q hq => Nat.le_trans (HL.out.2 q hq) (by omega)) (by have := HL.out.1; omega)) rfl (by kernel_rfl) True.intro (Ev.at (i := 0) (by kernel_rfl) (by kernel_rfl) rfl) (Ev.at (i := 2) (by kernel_rfl) (by kernel_rfl) rfl)
        · exact v_move (.inl rfl) rfl (by kernel_rfl) True.intro (Ev.out (by kernel_rfl) rfl)
        · exact v_iaddr (u := .pointer (some ⟨W0.heap.size, 0, none⟩)) (v := .int .i64 1) (c := .pointer (some ⟨W0.heap.size, 8, none⟩)) rfl (fun w => iad_two1 _ w) rfl (by kernel_rfl) True.intro (Ev.out (by kernel_rfl) rfl) Ev.const
        · exact v_load (u := .pointer (some ⟨W0.heap.size, 8, none⟩)) (c := .agg (vc y)) rfl (fun w hB => ldv_two1 (heap_keep (show (World.drew _).heap[_]? = _ from HTW.out) hB)) rfl (by kernel_rfl) True.intro (Ev.at (i := 5) (by kernel_rfl) (by kernel_rfl) rfl)
        · exact v_callr2 (u := .slice a n cp) (v := .agg (vc y)) rfl (fun args w => rfl) (fun w hB => cut_as (.slice a n cp) l y w ⟨a, n, cp, rfl, HI.out.keep (below_next HBW.out (below_next HCW.out hB))⟩ (fun q hq => Nat.le_trans (HL.out.2 q hq) (by omega)) (by have := HL.out.1; omega)) rfl (by kernel_rfl) True.intro (Ev.at (i := 4) (by kernel_rfl) (by kernel_rfl) rfl) (Ev.at (i := 6) (by kernel_rfl) (by kernel_rfl) rfl)
        · exact v_movd (.inr rfl) rfl (by kernel_rfl) True.intro (EvD.at (i := 3) (by kernel_rfl) (by kernel_rfl) rfl)
        · exact v_movd (.inr rfl) rfl (by kernel_rfl) True.intro (EvD.at (i := 7) (by kernel_rfl) (by kernel_rfl) rfl)
      intro _ vs W3 hB3 hf
      have q8 : RowAs (cutM l x) (vs 8) W3 := hf 8 (by decide)
      have q9 : RowAs (cutM l y) (vs 9) W3 := hf 9 (by decide)
      simp only [fill, List.setIfInBounds_toArray, List.set_cons_zero, List.set_cons_succ]
      generalize vs 8 = ua at q8 ⊢
      generalize vs 9 = ub at q9 ⊢
      clear hf
      obtain ⟨la, hla, hca⟩ := q8
      obtain ⟨lb, hlb, hcb⟩ := q9
      have HWB := hid (below_next HBW.out hB3)
      clear hB3 HBW HTW HCW
      have hlea : la.length ≤ 80 := by have h1 := len_core hca; have h2 := cut_le l x; have h3 := HL.out.1; omega
      have hleb : lb.length ≤ 80 := by have h1 := len_core hcb; have h2 := cut_le l y; have h3 := HL.out.1; omega
      have hsa : ∀ z ∈ la, z.2.length ≤ 1000 := fun q hq => Nat.le_trans (lens_core hca (fun q hq => HL.out.2 q (cut_sub l x q hq)) q hq) (by omega)
      have hsb : ∀ z ∈ lb, z.2.length ≤ 1000 := fun q hq => Nat.le_trans (lens_core hcb (fun q hq => HL.out.2 q (cut_sub l y q hq)) q hq) (by omega)
      have HCC := hid (And.intro hca hcb)
      have HLL := hid (And.intro hlea (And.intro hleb (And.intro hsa hsb)))
      obtain ⟨aa, na, ca, rfl, hIa⟩ := hla
      obtain ⟨ab, nb, cb, rfl, hIb⟩ := hlb
      have HIa := hid hIa
      have HIb := hid hIb
      have hha := fun W (hb : Below W3.heap.size W3 W) => order_History (.slice aa na ca) la nr W ⟨aa, na, ca, rfl, hIa.keep hb⟩ (HT.out.keep (below_next HWB.out hb)) (by omega)
      have hhb := fun W (hb : Below W3.heap.size W3 W) => order_History (.slice ab nb cb) lb nr W ⟨ab, nb, cb, rfl, hIb.keep hb⟩ (HT.out.keep (below_next HWB.out hb)) (by omega)
      clear hca hcb hlea hleb hsa hsb hIa hIb HI
      obtain ⟨m1, hm1⟩ : ∃ m, m = histM nr la := ⟨_, rfl⟩
      obtain ⟨m2, hm2⟩ : ∃ m, m = histM nr lb := ⟨_, rfl⟩
      rw [← hm1] at hha
      rw [← hm2] at hhb
      have HM1 := hid hm1
      have HM2 := hid hm2
      have HHA := hid hha
      have HHB := hid hhb
      clear hm1 hm2 hha hhb
      by_cases z1 : m1 = 0
      · by_cases z2 : m2 = 0
        · subst z1 z2
          go_upto_region 7 with (first
            | (go_at_call 25; first
              | (refine (HHA.out _ (Below.refl _ _)).mono ?_; rintro e w4 ⟨rfl, hb⟩; have HB4 := hid hb; clear hb HHA)
              | (refine (HHB.out _ HB4.out).mono ?_; rintro e w5 ⟨rfl, hb⟩; have HB5 := hid (below_next HB4.out hb); clear hb HHB)))
          have HIa5 := hid (HIa.out.keep HB5.out)
          have HIb5 := hid (HIb.out.keep HB5.out)
          have HW5 := hid (below_next HWB.out HB5.out)
          clear HIa HIb HB4 HB5 HWB
          have HNa := hid (show na = la.length from HIa5.out.1.symm)
          have hma : na ≤ 9223372036854775807 := Nat.le_trans HIa5.out.2.1 HIa5.out.2.2.1
          go_wp2
          go_loopw [9, 10] (fun u i wr => ∃ k : Nat, k ≤ na ∧ i = .int .i64 (k : Nat) ∧ Hid (OwnO w5.heap.size wr u (bothT la lb k)) ∧ Hid (Below w5.heap.size w5 wr)) (fun _ i _ => na - (intOf i).toNat)
          case atStart => exact ⟨0, by omega, rfl, hid (OwnO.nil _ _), hid (Below.refl _ _)⟩
          case round =>
            obtain ⟨k, hk, rfl, HO, HBR⟩ := hrel
            obtain ⟨pu, cu, hform⟩ := HO.out.form
            subst hform
            by_cases hlt : k < na
            · cases aa with
              | none => have := HIa5.out.none_len; omega
              | some ad =>
                obtain ⟨o, cl', hx, hok, hcl, hin⟩ := (HIa5.out.keep HBR.out).at k hlt
                have HX := hid hx
                have HXI := hid hin
                have HOK := hid (And.intro hok (hcl.below (Nat.le_refl _)))
                have HCL5 := hid ((HIa5.out.2.2.2.1 _ (List.mem_of_getElem? hx)).2.below (Nat.le_refl _))
                have HST := hid (bothT_step (b := lb) hx)
                have hone := hcl.oneCell
                have h1 : (k : Int) < (na : Int) := by omega
                have hfind := order_Find (.slice ab nb cb) lb (dt (o, cl')) wr ⟨ab, nb, cb, rfl, HIb5.out.keep HBR.out⟩ HLL.out.2.2.2
                have hle := bothT_le la lb k
                have HLE := hid (show (bothT la lb k).length ≤ 1000 by have := HLL.out.1; omega)
                clear hx hok hcl hin hle
                go_upto_region 11 with (first
                  | (refine load_dotIn _ rfl rfl (ad.add (k * 29)) rfl o HXI.out ?_)
                  | (go_at_call 15; refine hfind.mono ?_; rintro e w7 ⟨oo, oc', rfl, hfo, hb⟩; have HF := hid (And.intro hfo hb); clear hfo hb hfind)
                  | (refine wpList_store_row rfl _ (.tmp 11) (.tmp 56) rfl w7.heap.size (oc oo) rfl rfl 34 (oc zeroO) (heap_alloc_last' _ _) (opSize _) rfl (found_one HF.out.1) ?_))
                have hBW := below_next HF.out.2 (Below.setRow (below_al w7 (.cells (oc zeroO) 34)) (Nat.le_refl _) (oc oo))
                refine gen_code (fun W => Below wr.heap.size wr W) hBW ?_
                clear hBW
                generalize w7.heap.size = g7
                clear HF
                rintro w8 h8
                have HB8 := hid h8
                clear h8
                have hwr : w5.heap.size ≤ wr.heap.size := HBR.out.size
                cases hfb : (findM lb (dt (o, cl'))).isSome
                · have hst := HST.out
                  rw [hfb, if_neg (by simp)] at hst
                  have HST2 := hid hst
                  clear hst hfb HST
                  go_wp2
                  go_roundw
                  case rel => exact ⟨k + 1, by omega, by go_num, hid (by rw [HST2.out]; exact HO.out.keep hwr HB8.out), hid (below_next HBR.out HB8.out)⟩
                  case measure => exact meas1 hlt
                · have hst := HST.out
                  rw [hfb, if_pos rfl] at hst
                  have HST2 := hid hst
                  have HXI8 := hid (HXI.out.keep HB8.out)
                  clear hst hfb HST
                  go_wp2_with (first
                    | (refine load_opIn _ rfl rfl (ad.add (k * 29)) rfl o HXI8.out ?_)
                    | (refine build_op rfl _ rfl o rfl ?_)
                    | (refine wpList_push rfl _ _ rfl w5.heap.size wr _ (bothT la lb k) rfl HO.out hwr (below_next HB8.out (below_al _ _)) w8.heap.size (o, cl') rfl (heap_alloc_last' _ _) HOK.out.1 (HCL5.out.keep (Nat.le_refl _) (below_next HBR.out (below_next HB8.out (below_al _ _)))) (Nat.le_trans HLE.out (by omega)) ?_; intro p3 c3 w3 hP; have HP3 := hid hP; clear hP))
                  go_roundw
                  case rel => exact ⟨k + 1, by omega, by go_num, hid (by rw [HST2.out]; exact HP3.out.own), hid (HP3.out.below _ (below_next HBR.out (below_next HB8.out (below_al _ _))))⟩
                  case measure => exact meas1 hlt
            · obtain rfl : k = na := by omega
              have hba := bothT_all la lb (k := k) (by have := HNa.out; omega)
              have ho := HO.out
              rw [hba] at ho
              simp only [hba]
              clear HO hba
              obtain ⟨r, hr⟩ : ∃ r, r = bothM la lb := ⟨_, rfl⟩
              rw [← hr] at ho ⊢
              have HOB := hid ho
              have HR := hid hr
              have hrl : r.length ≤ 80 := by rw [hr]; have h1 := HLL.out.1; have h2 := bothT_le la lb k; rw [bothT_all la lb (by have := HNa.out; omega)] at h2; omega
              have HRL := hid hrl
              clear ho hr hrl
              have hnb : nb = lb.length := HIb5.out.1.symm
              have HNb := hid hnb
              clear hnb
              have hB : w5.heap.size ≤ wr.heap.size := HBR.out.size
              have hIa9 := HIa5.out.keep HBR.out
              have hIb9 := HIb5.out.keep HBR.out
              have hcla : ∀ z ∈ la, ClaimsB wr.heap.size wr z.1.lv z.2 := fun z hz => (hIa9.2.2.2.1 z hz).2.below (Nat.le_refl _)
              have hclb : ∀ z ∈ lb, ClaimsB wr.heap.size wr z.1.lv z.2 := fun z hz => (hIb9.2.2.2.1 z hz).2.below (Nat.le_refl _)
              have HA9 := hid (And.intro hIa9 hcla)
              have HB9 := hid (And.intro hIb9 hclb)
              clear hIa9 hIb9 hcla hclb HIa5 HIb5
              go_upto_region 14 with (first
                | (refine wpList_pushAll rfl _ _ rfl wr.heap.size (wr.alloc (.cells #[] 34)) (.slice (some ⟨wr.heap.size, 0, none⟩) 0 0) [] rfl (OwnO.fresh wr _ (Nat.le_refl _)) (Nat.le_of_lt (heap_lt_al _ _)) (Below.refl _ _) (.slice aa k ca) la rfl ⟨aa, k, ca, rfl, HA9.out.1.keep (below_al _ _)⟩ (fun z hz => (HA9.out.2 z hz).keep (Nat.le_refl _) (below_al _ _)) (by have := HLL.out.1; show 0 + _ ≤ _; omega) ?_; intro v9 w9 hP; have HP9 := hid hP; clear hP)
                | (refine wpList_pushAll rfl _ _ rfl wr.heap.size w9 v9 ([] ++ la) rfl HP9.out.own (HP9.out.below _ (below_al _ _)).size (Below.refl _ _) (.slice ab nb cb) lb rfl ⟨ab, nb, cb, rfl, HB9.out.1.keep (HP9.out.below _ (below_al _ _))⟩ (fun z hz => (HB9.out.2 z hz).keep (Nat.le_refl _) (HP9.out.below _ (below_al _ _))) (by have := HLL.out.1; have := HLL.out.2.1; show (la.length) + _ ≤ _; omega) ?_; intro v10 w10 hP; have HP10 := hid hP; clear hP; have hsort := order_Sort v10 (la ++ lb) w10 HP10.out.own.opsV (by rw [List.length_append]; have := HLL.out.1; have := HLL.out.2.1; omega) (fun z hz => (List.mem_append.1 hz).elim (HLL.out.2.2.1 z) (HLL.out.2.2.2 z)))
                | (go_at_call 19; refine hsort.mono ?_; rintro e w11 ⟨us, s, s', rfl, hos, hso, hsc, hb⟩; have HS := hid (And.intro hos (And.intro hso (And.intro hsc hb))); clear hos hso hsc hb hsort))
              obtain ⟨ps, cs, hform⟩ := HS.out.1.form
              subst hform
              have HBZ := hid (below_next (HP10.out.below _ (HP9.out.below _ (below_al wr (.cells #[] 34)))) HS.out.2.2.2)
              obtain ⟨M1, M2, M3⟩ := parts_math HP.out HCC.out.1 HCC.out.2 HM1.out.symm HM2.out.symm HS.out.2.1 HS.out.2.2.1
              rw [← HR.out] at M2 M3
              have HW11 := hid (below_next HW5.out (below_next HBR.out HBZ.out))
              have hq1 := fun W (hb : Below w11.heap.size w11 W) => order_History (.slice ps s'.length cs) s' nr W (HS.out.1.opsV.keep hb) (HT.out.keep (below_next HW11.out hb)) (by have := HRL.out; have := HLL.out.1; have := HLL.out.2.1; omega)
              have hq2 := fun W (hb : Below w11.heap.size w11 W) => order_History (.slice pu r.length cu) r nr W (HOB.out.opsV.keep (below_next HBZ.out hb)) (HT.out.keep (below_next HW11.out hb)) (by have := HRL.out; omega)
              rw [M1] at hq1
              rw [M2] at hq2
              have hsl : s'.length ≤ 200 := by have := HRL.out; have := HLL.out.1; have := HLL.out.2.1; omega
              have hrl := HRL.out
              have e1 : wrap64 ((s'.length : Int) + (r.length : Int)) = (k : Int) + (nb : Int) := by rw [w64 (by omega) (by omega), HNb.out, HNa.out]; omega
              have e2 : wrap64 ((k : Int) + (nb : Int)) = (k : Int) + (nb : Int) := by have h1 := HLL.out.1; have h2 := HLL.out.2.1; rw [HNb.out, HNa.out]; exact w64 (by omega) (by omega)
              have e3 : IntKind.i64.wrap ((s'.length : Int) + (r.length : Int)) = (k : Int) + (nb : Int) := by rw [i64w (by omega) (by omega), HNb.out, HNa.out]; omega
              have e4 : IntKind.i64.wrap ((k : Int) + (nb : Int)) = (k : Int) + (nb : Int) := by have h1 := HLL.out.1; have h2 := HLL.out.2.1; rw [HNb.out, HNa.out]; exact i64w (by omega) (by omega)
              have HQ1 := hid hq1
              have HQ2 := hid hq2
              generalize s'.length = sn at e1 e3 HQ1 ⊢
              generalize r.length = rn at e1 e3 HQ2 ⊢
              clear hq1 hq2 M1 M2 M3 hsl hrl HS HR HRL HOB HP9 HP10
              go_wp2_with (first
                | (go_at_call 25; first
                  | (refine (HQ1.out _ (Below.refl _ _)).mono ?_; rintro e w12 ⟨rfl, hb⟩; have HB12 := hid hb; clear hb HQ1)
                  | (refine (HQ2.out _ HB12.out).mono ?_; rintro e w13 ⟨rfl, hb⟩; have HB13 := hid (below_next HW11.out (below_next HB12.out hb)); have hhd := HH.out _ HB13.out; clear hb HQ2))
                | (go_at_call 9; refine hhd.mono ?_; rintro e w14 ⟨rfl, hb⟩; have HE := hid (below_next HB13.out hb); clear hb))
              go_ret
              exact ⟨rfl, HE.out⟩
        · have k1 : (m2 == 0) = false := by simpa using z2
          have k2 : (m2 != 0) = true := by simpa using z2
          subst z1
          go_wp2_with (first
            | (go_at_call 25; first
              | (refine (HHA.out _ (Below.refl _ _)).mono ?_; rintro e w4 ⟨rfl, hb⟩; have HB4 := hid hb; clear hb HHA)
              | (refine (HHB.out _ HB4.out).mono ?_; rintro e w5 ⟨rfl, hb⟩; have HB5 := hid (below_next HB4.out hb); have hhd := HH.out _ (below_next HWB.out HB5.out); clear hb HHB))
            | (go_at_call 9; refine hhd.mono ?_; rintro e w6 ⟨rfl, hb⟩; have HE := hid (below_next HWB.out (below_next HB5.out hb)); clear hb))
          go_ret
          exact ⟨rfl, HE.out⟩
      · have k1 : (m1 == 0) = false := by simpa using z1
        have k2 : (m1 != 0) = true := by simpa using z1
        go_wp2_with (first
          | (go_at_call 25; refine (HHA.out _ (Below.refl _ _)).mono ?_; rintro e w4 ⟨rfl, hb⟩; have HB4 := hid hb; have hhd := HH.out _ (below_next HWB.out hb); clear hb HHA)
          | (go_at_call 9; refine hhd.mono ?_; rintro e w6 ⟨rfl, hb⟩; have HE := hid (below_next HWB.out (below_next HB4.out hb)); clear hb))
        go_ret
        exact ⟨rfl, HE.out⟩
    · obtain ⟨m, hmE⟩ : ∃ m, m = histM nr l := ⟨_, rfl⟩
      rw [← hmE] at hhi hm
      have k1 : (m == 0) = false := by simpa using hm
      have k2 : (m != 0) = true := by simpa using hm
      have HMM := hid hmE
      clear hmE hgb h80 h300
      go_wp2_with (first
        | (go_at_call 8; refine hgr.mono ?_; rintro e w1 ⟨rfl, hw⟩; have hw2 := hw.symm; clear hw; subst hw2)
        | (go_at_call 25; refine hhi.mono ?_; rintro e w2 ⟨rfl, hb⟩; have HB0 := hid (below_next HW.out.2 hb); have hhd := HH.out _ HB0.out; clear hb)
        | (go_at_call 9; refine hhd.mono ?_; rintro e w3 ⟨rfl, hb⟩; have HE := hid (below_next HB0.out hb); clear hb))
      go_ret
      exact ⟨rfl, HE.out⟩
  · rw [hgb] at hgr
    have hhd := HH.out _ HW.out.2
    clear hgb
    go_wp2_with (first
      | (go_at_call 8; refine hgr.mono ?_; rintro e w1 ⟨rfl, hw⟩; have hw2 := hw.symm; clear hw; subst hw2)
      | (go_at_call 9; refine hhd.mono ?_; rintro e w3 ⟨rfl, hb⟩; have HE := hid (below_next HW.out.2 hb); clear hb))
    go_ret
    exact ⟨rfl, HE.out⟩
end Go.Proofs.YtagdapmnghnphaaDoor.V
