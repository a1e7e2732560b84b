/-
  The document's History: what one operation of a row asks for; the mathematics of both.
-/
import Derived.Test.YtagdapmnghnphaaDoorZHT4
namespace Go.Proofs.YtagdapmnghnphaaDoor.V
set_option linter.unusedVariables false
set_option linter.unusedSimpArgs false
set_option maxRecDepth 100000
open Go Go.RowKit Go.Maps Wire

def OneP (l : List OC) (o : OC) : Prop := thereM l (dt o) = 1 ∧ (1 < o.1.n → thereM l (o.1.r, o.1.n - 1) = 1) ∧ (∀ r, r < 8 → 0 < o.1.dep r → thereM l (r, o.1.dep r) = 1) ∧ ∀ x ∈ l, befB x o = true → x.1.tm < o.1.tm ∧ aboveB o.1.dep x.1.dep = true
instance (l : List OC) (o : OC) : Decidable (OneP l o) := by unfold OneP; infer_instance
theorem there_count (l : List OC) (d : Dot) : thereM l d = (l.map dt).count d := by
  unfold thereM
  rw [List.count_eq_countP, List.countP_map, List.countP_eq_length_filter]
  rfl
theorem there_mem {l : List OC} {d : Dot} (h : thereM l d = 1) : ∃ y ∈ l, dt y = d := by
  rw [there_count] at h
  have : d ∈ l.map dt := List.count_pos_iff.1 (by omega)
  obtain ⟨y, hy, e⟩ := List.mem_map.1 this
  exact ⟨y, hy, e⟩
theorem there_one {l : List OC} (hn : (l.map dt).Nodup) {y : OC} (hy : y ∈ l) {d : Dot} (hd : dt y = d) : thereM l d = 1 := by
  rw [there_count]
  have h1 : d ∈ l.map dt := List.mem_map.2 ⟨y, hy, hd⟩
  have h2 := List.nodup_iff_count.1 hn d
  have h3 := List.count_pos_iff.2 h1
  omega
theorem hist_one {n : Int} {l : List OC} (h1 : 1 ≤ n) (h8 : n ≤ 8) (hok : okAll n l) : IsHist l ↔ ∀ o ∈ l, OneP l o := by
  constructor
  · intro h o ho
    have hP : HistP n l := ⟨h1, h8, hok, h⟩
    obtain ⟨nr, n0, nd⟩ := hP.name ho
    refine ⟨there_one h.1 ho rfl, fun hn => ?_, fun r hr h0 => ?_, fun x hx hb => ?_⟩
    · obtain ⟨y, hy, hd, _⟩ := h.2 o ho o.1.r nr (by omega)
      exact there_one h.1 hy (by rw [hd, nd])
    · obtain ⟨y, hy, hd, _⟩ := h.2 o ho r hr (by omega)
      exact there_one h.1 hy hd
    · obtain ⟨h2, h3⟩ := hP.bef ho hx hb
      exact ⟨h3, h2⟩
  · intro h
    refine ⟨List.nodup_iff_count.2 fun d => ?_, fun o ho r hr h0 => ?_⟩
    · by_cases hd : d ∈ l.map dt
      · obtain ⟨y, hy, rfl⟩ := List.mem_map.1 hd
        rw [← there_count, (h y hy).1]
        exact Nat.le_refl _
      · rw [List.count_eq_zero.2 hd]; omega
    · obtain ⟨_, _, h3, h4⟩ := h o ho
      obtain ⟨y, hy, hd⟩ := there_mem (h3 r hr (by omega))
      have hb : befB y o = true := by
        unfold befB
        rw [hd]
        exact covB_iff.2 ⟨hr, h0, Nat.le_refl _⟩
      obtain ⟨ht, ha⟩ := h4 y hy hb
      exact ⟨y, hy, hd, ha, ht⟩
theorem dep_cell {w : World} {b : Nat} {o : OpM} (h : OpAt w b o) {k : Nat} (hk : k < 8) : w.cell? ⟨b, 2 + k, none⟩ = some (.int .u32 (o.dep k : Int)) := h.dep hk
set_option maxHeartbeats 600000 in
theorem ref_one (v : Value) (l : List OC) (x : OC) (W0 : World) (hv : OpsV W0 v l) (hxo : okO x.1) :
    Calls Tryd.prog 45 #[v, .agg (oc x.1)] W0 fun e w' => e = .returned (.bool (decide (OneP l x))) ∧ Below W0.heap.size W0 w' := by
  obtain ⟨a, n, cp, rfl, hI⟩ := hv
  have HN := hid (show n = l.length from hI.1.symm)
  have hm : n ≤ 9223372036854775807 := Nat.le_trans hI.2.1 hI.2.2.1
  have HI := hid hI
  have HO := hid hxo
  clear hI hxo
  go_enter Tryd.func45, Tryd.ntmps45
  go_upto_region 1 with (fail)
  refine gen_code (fun W => OpAt W W0.heap.size x.1 ∧ Below W0.heap.size W0 W) ⟨opAt_new W0 x.1, below_al W0 _⟩ ?_
  rintro W ⟨g1, hB⟩
  have HW := hid (And.intro g1 hB)
  have c0 := g1.c0
  have c1 := g1.c1
  clear g1 hB
  have ht1 := ref_there (.slice a n cp) l (dt x) W ⟨a, n, cp, rfl, HI.out.keep HW.out.2⟩
  obtain ⟨q1, hq1⟩ : ∃ q, thereM l (dt x) = q := ⟨_, rfl⟩
  obtain ⟨p, hp⟩ : ∃ p, x.1.n - 1 = p := ⟨_, rfl⟩
  obtain ⟨q2, hq2⟩ : ∃ q, thereM l (x.1.r, p) = q := ⟨_, rfl⟩
  rw [hq1] at ht1
  have HQ := hid (And.intro hq1 (And.intro hp hq2))
  clear hq1 hp hq2
  have ht2 := fun W' (hb : Below W0.heap.size W0 W') => ref_there (.slice a n cp) l (x.1.r, p) W' ⟨a, n, cp, rfl, HI.out.keep hb⟩
  rw [HQ.out.2.2] at ht2
  have HT2 := hid ht2
  clear ht2
  by_cases z1 : q1 = 1
  · by_cases zz : 1 < x.1.n ∧ q2 ≠ 1
    · obtain ⟨z2, z3⟩ := zz
      have e1 : (1 : Int) < (x.1.n : Int) := by omega
      have e2 : IntKind.u32.wrap ((x.1.n : Int) - 1) = (p : Int) := by rw [wrap_u32]; have := HO.out.n; have := HQ.out.2.1; omega
      have e3 : ((q2 : Int) == 1) = false := by simp; omega
      have e4 : ((q2 : Int) != 1) = true := by simp; omega
      subst z1
      have HF := hid (show decide (OneP l x) = false from decide_eq_false fun h => z3 (by rw [← HQ.out.2.2, ← HQ.out.2.1]; exact h.2.1 z2))
      clear z2 z3
      go_wp2_with (first
        | (go_at_call 67; first
          | (refine ht1.mono ?_; rintro e w1 ⟨rfl, hb⟩; have HB1 := hid hb; have d0 := (HW.out.1.keep hb).c0; have d1 := (HW.out.1.keep hb).c1; clear hb ht1)
          | (refine (HT2.out _ (below_next HW.out.2 HB1.out)).mono ?_; rintro e w2 ⟨rfl, hb⟩; have HB2 := hid (below_next HW.out.2 (below_next HB1.out hb)); clear hb HT2)))
      go_ret
      exact ⟨by rw [HF.out]; rfl, HB2.out⟩
    · have HP1 := hid (show thereM l (dt x) = 1 ∧ (1 < x.1.n → thereM l (x.1.r, x.1.n - 1) = 1) from ⟨HQ.out.1.trans z1, fun h => by
        rw [HQ.out.2.1, HQ.out.2.2]
        by_cases e : q2 = 1
        · exact e
        · exact absurd ⟨h, e⟩ zz⟩)
      go_cut [30] from 7 to 29 (fun v wx => v = .bool false ∧ Hid (OpAt wx W0.heap.size x.1 ∧ Below W0.heap.size W0 wx))
      case first =>
        by_cases z2 : 1 < x.1.n
        · have e1 : (1 : Int) < (x.1.n : Int) := by omega
          have e2 : IntKind.u32.wrap ((x.1.n : Int) - 1) = (p : Int) := by rw [wrap_u32]; have := HO.out.n; have := HQ.out.2.1; omega
          obtain rfl : q2 = 1 := by
            by_cases e : q2 = 1
            · exact e
            · exact absurd ⟨z2, e⟩ zz
          subst z1
          clear z2 zz
          go_wp2_with (first
            | (go_at_call 67; first
              | (refine ht1.mono ?_; rintro e w1 ⟨rfl, hb⟩; have HB1 := hid hb; have d0 := (HW.out.1.keep hb).c0; have d1 := (HW.out.1.keep hb).c1; clear hb ht1)
              | (refine (HT2.out _ (below_next HW.out.2 HB1.out)).mono ?_; rintro e w2 ⟨rfl, hb⟩; have HB2 := hid (below_next HB1.out hb); clear hb HT2)))
          all_goals go_meet
          all_goals exact ⟨rfl, hid ⟨HW.out.1.keep HB2.out, below_next HW.out.2 HB2.out⟩⟩
        · have e1 : ¬ (1 : Int) < (x.1.n : Int) := by omega
          have e1' : decide ((1 : Int) < (x.1.n : Int)) = false := decide_eq_false e1
          subst z1
          clear z2 zz
          go_wp2_with (first
            | (go_at_call 67; refine ht1.mono ?_; rintro e w1 ⟨rfl, hb⟩; have HB1 := hid hb; have d0 := (HW.out.1.keep hb).c0; have d1 := (HW.out.1.keep hb).c1; clear hb ht1))
          all_goals go_meet
          all_goals exact ⟨rfl, hid ⟨HW.out.1.keep HB1.out, below_next HW.out.2 HB1.out⟩⟩
      case rest =>
      obtain ⟨rfl, HC⟩ := hcut
      clear zz z1 ht1 c0 c1 HW HT2
      go_wp2
      go_loopw [5] (fun i wr => ∃ r : Nat, r ≤ 8 ∧ i = .int .i64 (r : Nat) ∧ Hid (∀ k, k < r → 0 < x.1.dep k → thereM l (k, x.1.dep k) = 1) ∧ Hid (OpAt wr W0.heap.size x.1 ∧ Below W0.heap.size W0 wr)) (fun i _ => 8 - (intOf i).toNat)
      case atStart => exact ⟨0, by omega, rfl, hid (fun k hk => absurd hk (Nat.not_lt_zero k)), HC⟩
      case round =>
        clear HC
        obtain ⟨r, hr, rfl, HA, HC⟩ := hrel
        by_cases hlt : r < 8
        · have h1 : (r : Int) < 8 := by omega
          have cd := HC.out.1.dep hlt
          have hu8 : IntKind.u8.wrap (r : Int) = (r : Int) := by rw [wrap_u8]; omega
          by_cases h0 : 0 < x.1.dep r
          · have h0' : (0 : Int) < (x.1.dep r : Int) := by omega
            obtain ⟨q, hq⟩ : ∃ q, thereM l (r, x.1.dep r) = q := ⟨_, rfl⟩
            have hth := ref_there (.slice a n cp) l (r, x.1.dep r) wr ⟨a, n, cp, rfl, HI.out.keep HC.out.2⟩
            rw [hq] at hth
            have HQ3 := hid hq
            clear hq
            by_cases z : q = 1
            · subst z
              clear h0
              go_wp2_with (go_at_call 67; refine hth.mono ?_; rintro e w1 ⟨rfl, hb⟩; have HB1 := hid (And.intro (HC.out.1.keep hb) (below_next HC.out.2 hb)); clear hb hth)
              go_roundw
              case rel => exact ⟨r + 1, by omega, by go_num, hid (fun k hk hp => by
                by_cases e : k = r
                · subst e; exact HQ3.out
                · exact HA.out k (by omega) hp), HB1⟩
              case measure => exact meas1 hlt
            · have e3 : ((q : Int) == 1) = false := by simp; omega
              have e4 : ((q : Int) != 1) = true := by simp; omega
              have HF := hid (show decide (OneP l x) = false from decide_eq_false fun h => z (by rw [← HQ3.out]; exact h.2.2.1 r hlt h0))
              clear z h0
              go_wp2_with (go_at_call 67; refine hth.mono ?_; rintro e w1 ⟨rfl, hb⟩; have HB1 := hid (below_next HC.out.2 hb); clear hb hth)
              go_ret
              exact ⟨by rw [HF.out]; rfl, HB1.out⟩
          · have h0' : ¬ (0 : Int) < (x.1.dep r : Int) := by omega
            have h0'' : decide ((0 : Int) < (x.1.dep r : Int)) = false := decide_eq_false h0'
            have HZ := hid h0
            clear h0
            go_wp2
            go_roundw
            case rel => exact ⟨r + 1, by omega, by go_num, hid (fun k hk hp => by
              by_cases e : k = r
              · subst e; exact absurd hp HZ.out
              · exact HA.out k (by omega) hp), HC⟩
            case measure => exact meas1 hlt
        · have hr8 : (r : Int) = 8 := by omega
          have HA8 := hid (show ∀ k, k < 8 → 0 < x.1.dep k → thereM l (k, x.1.dep k) = 1 from fun k hk => HA.out k (by omega))
          simp only [hr8]
          clear hr8 hlt hr HA r
          have HCI := hid (show OpIn wr ⟨W0.heap.size, 0, none⟩ x.1 ∧ Below W0.heap.size W0 wr from ⟨HC.out.1.in, HC.out.2⟩)
          clear HC
          generalize (⟨W0.heap.size, 0, none⟩ : Addr) = bx at HCI ⊢
          go_wp2
          go_loopw [6] (fun i wr => ∃ k : Nat, k ≤ n ∧ i = .int .i64 (k : Nat) ∧ Hid (∀ y ∈ l.take k, befB y x = true → y.1.tm < x.1.tm ∧ aboveB x.1.dep y.1.dep = true) ∧ Hid (OpIn wr bx x.1 ∧ Below W0.heap.size W0 wr)) (fun i _ => n - (intOf i).toNat)
          case atStart => exact ⟨0, by omega, rfl, hid (by rw [List.take_zero]; exact fun y hy => by cases hy), HCI⟩
          case round =>
            clear HCI
            obtain ⟨k, hk, rfl, HA, HCI⟩ := hrel
            by_cases hlt : k < n
            · cases a with
              | none => have := HI.out.none_len; omega
              | some ad =>
                obtain ⟨y, hy⟩ : ∃ y, l[k]? = some y := ⟨_, List.getElem?_eq_getElem (by have := HN.out; omega)⟩
                have HY := hid hy
                have HYI := hid ((HI.out.keep HCI.out.2).opIn hy)
                clear hy
                have h1 : (k : Int) < (n : Int) := by omega
                go_upto_region 11 with (fail)
                refine wp_flow (fun _ => none) (Fa.eq (.slice (some ad) n cp) :: Fa.eq (.int .i64 ((k : Nat))) :: Fa.eq (.pointer (some (ad.add (k * 29)))) :: Fa.eq (.agg (oc y.1)) :: Fa.eq (.agg (oc x.1)) :: Fa.eq (.bool (befB y x)) :: Fa.eq (.bool (befB y x)) :: Fa.eq (gd (befB y x) (.slice (some ad) n cp)) :: Fa.eq (gd (befB y x) (.int .i64 ((k : Nat)))) :: Fa.eq (gd (befB y x) (.pointer (some (ad.add (k * 29))))) :: Fa.eq (gd (befB y x) (.pointer (some (((ad.add (k * 29)) : Addr).add 10)))) :: Fa.eq (gd (befB y x) (.int .u64 (y.1.tm : Int))) :: Fa.eq (gd (befB y x) (.pointer (some ((bx : Addr).add 10)))) :: Fa.eq (gd (befB y x) (.int .u64 (x.1.tm : Int))) :: Fa.eq (gd (befB y x) (.bool (decide ((x.1.tm : Int) ≤ (y.1.tm : Int))))) :: Fa.eq (gd (befB y x) (.bool (decide ((x.1.tm : Int) ≤ (y.1.tm : Int))))) :: Fa.eq (gd ((befB y x) && (!(decide ((x.1.tm : Int) ≤ (y.1.tm : Int))))) (.pointer (some ((bx : Addr).add 2)))) :: Fa.eq (gd ((befB y x) && (!(decide ((x.1.tm : Int) ≤ (y.1.tm : Int))))) (.agg (vc x.1.dep))) :: Fa.eq (gd ((befB y x) && (!(decide ((x.1.tm : Int) ≤ (y.1.tm : Int))))) (.slice (some ad) n cp)) :: Fa.eq (gd ((befB y x) && (!(decide ((x.1.tm : Int) ≤ (y.1.tm : Int))))) (.int .i64 ((k : Nat)))) :: Fa.eq (gd ((befB y x) && (!(decide ((x.1.tm : Int) ≤ (y.1.tm : Int))))) (.pointer (some (ad.add (k * 29))))) :: Fa.eq (gd ((befB y x) && (!(decide ((x.1.tm : Int) ≤ (y.1.tm : Int))))) (.pointer (some (((ad.add (k * 29)) : Addr).add 2)))) :: Fa.eq (gd ((befB y x) && (!(decide ((x.1.tm : Int) ≤ (y.1.tm : Int))))) (.agg (vc y.1.dep))) :: Fa.eq (gd ((befB y x) && (!(decide ((x.1.tm : Int) ≤ (y.1.tm : Int))))) (.bool (aboveB x.1.dep y.1.dep))) :: Fa.eq (gd ((befB y x) && (!(decide ((x.1.tm : Int) ≤ (y.1.tm : Int))))) (.bool (!(aboveB x.1.dep y.1.dep)))) :: Fa.eq (gd (befB y x) (.bool ((decide ((x.1.tm : Int) ≤ (y.1.tm : Int))) || (!(aboveB x.1.dep y.1.dep))))) :: Fa.eq (.bool ((befB y x) && ((decide ((x.1.tm : Int) ≤ (y.1.tm : Int))) || (!(aboveB x.1.dep y.1.dep))))) :: []) 85 (by kernel_rfl) rfl (by kernel_rfl) rfl (by kernel_rfl) ?_ ?_ ?_
                · exact fits_plain _ _ rfl
                · refine ⟨?_, ?_, ?_, ?_, ?_, ?_, ?_, ?_, ?_, ?_, ?_, ?_, ?_, ?_, ?_, ?_, ?_, ?_, ?_, ?_, ?_, ?_, ?_, ?_, ?_, ?_, ?_, trivial⟩
                  · exact v_move (.inl rfl) rfl (by kernel_rfl) True.intro (Ev.out (by kernel_rfl) rfl)
                  · exact v_move (.inl rfl) rfl (by kernel_rfl) True.intro (Ev.out (by kernel_rfl) rfl)
                  · exact v_iaddr (u := .slice (some ad) n cp) (v := .int .i64 ((k : Nat))) (c := .pointer (some (ad.add (k * 29)))) rfl (fun w => idx_op ad n cp k hlt w) rfl (by kernel_rfl) True.intro (Ev.at (i := 0) (by kernel_rfl) (by kernel_rfl) rfl) (Ev.at (i := 1) (by kernel_rfl) (by kernel_rfl) rfl)
                  · exact v_load (u := .pointer (some (ad.add (k * 29)))) (c := .agg (oc y.1)) rfl (fun w hB => ldp_op (OpIn.keep (OpIn.dr HYI.out) hB)) rfl (by kernel_rfl) True.intro (Ev.at (i := 2) (by kernel_rfl) (by kernel_rfl) rfl)
                  · exact v_load (u := .pointer (some bx)) (c := .agg (oc x.1)) rfl (fun w hB => ldp_op (OpIn.keep (OpIn.dr HCI.out.1) hB)) rfl (by kernel_rfl) True.intro (Ev.out (by kernel_rfl) rfl)
                  · exact v_call (vs := #[.agg (oc y.1), .agg (oc x.1)]) (c := .bool (befB y x)) rfl (fun args w => rfl) (fun w hB => ref_Before y x w) rfl (by kernel_rfl) True.intro (ev2 (Ev.at (i := 3) (by kernel_rfl) (by kernel_rfl) rfl) (Ev.at (i := 4) (by kernel_rfl) (by kernel_rfl) rfl))
                  · exact v_move (.inl rfl) rfl (by kernel_rfl) True.intro (Ev.at (i := 5) (by kernel_rfl) (by kernel_rfl) rfl)
                  · exact flow_gd (befB y x) (.slice (some ad) n cp) 6 true (.bool (befB y x)) rfl (by kernel_rfl) rfl gu_t rfl (fun hg hF hj => v_move (.inl rfl) hF (by kernel_rfl) (guard_of rfl (by kernel_rfl) (by kernel_rfl) hj) (Ev.out (by kernel_rfl) rfl))
                  · exact flow_gd (befB y x) (.int .i64 ((k : Nat))) 6 true (.bool (befB y x)) rfl (by kernel_rfl) rfl gu_t rfl (fun hg hF hj => v_move (.inl rfl) hF (by kernel_rfl) (guard_of rfl (by kernel_rfl) (by kernel_rfl) hj) (Ev.out (by kernel_rfl) rfl))
                  · exact flow_gd (befB y x) (.pointer (some (ad.add (k * 29)))) 6 true (.bool (befB y x)) rfl (by kernel_rfl) rfl gu_t rfl (fun hg hF hj => v_iaddr (u := .slice (some ad) n cp) (v := .int .i64 ((k : Nat))) (c := .pointer (some (ad.add (k * 29)))) rfl (fun w => idx_op ad n cp k hlt w) hF (by kernel_rfl) (guard_of rfl (by kernel_rfl) (by kernel_rfl) hj) (Ev.at (i := 7) (by kernel_rfl) (by kernel_rfl) (fe rfl (gd_t hg))) (Ev.at (i := 8) (by kernel_rfl) (by kernel_rfl) (fe rfl (gd_t hg))))
                  · exact flow_gd (befB y x) (.pointer (some (((ad.add (k * 29)) : Addr).add 10))) 6 true (.bool (befB y x)) rfl (by kernel_rfl) rfl gu_t rfl (fun hg hF hj => v_faddr (u := .pointer (some (ad.add (k * 29)))) (c := .pointer (some (((ad.add (k * 29)) : Addr).add 10))) rfl (fun w => (fld_op (ad.add (k * 29)) w).2.2.1) hF (by kernel_rfl) (guard_of rfl (by kernel_rfl) (by kernel_rfl) hj) (Ev.at (i := 9) (by kernel_rfl) (by kernel_rfl) (fe rfl (gd_t hg))))
                  · exact flow_gd (befB y x) (.int .u64 (y.1.tm : Int)) 6 true (.bool (befB y x)) rfl (by kernel_rfl) rfl gu_t rfl (fun hg hF hj => v_load (u := .pointer (some (((ad.add (k * 29)) : Addr).add 10))) (c := .int .u64 (y.1.tm : Int)) rfl (fun w hB => ldp_tm (OpIn.keep (OpIn.dr HYI.out) hB)) hF (by kernel_rfl) (guard_of rfl (by kernel_rfl) (by kernel_rfl) hj) (Ev.at (i := 10) (by kernel_rfl) (by kernel_rfl) (fe rfl (gd_t hg))))
                  · exact flow_gd (befB y x) (.pointer (some ((bx : Addr).add 10))) 6 true (.bool (befB y x)) rfl (by kernel_rfl) rfl gu_t rfl (fun hg hF hj => v_faddr (u := .pointer (some bx)) (c := .pointer (some ((bx : Addr).add 10))) rfl (fun w => (fld_op bx w).2.2.1) hF (by kernel_rfl) (guard_of rfl (by kernel_rfl) (by kernel_rfl) hj) (Ev.out (by kernel_rfl) rfl))
                  · exact flow_gd (befB y x) (.int .u64 (x.1.tm : Int)) 6 true (.bool (befB y x)) rfl (by kernel_rfl) rfl gu_t rfl (fun hg hF hj => v_load (u := .pointer (some ((bx : Addr).add 10))) (c := .int .u64 (x.1.tm : Int)) rfl (fun w hB => ldp_tm (OpIn.keep (OpIn.dr HCI.out.1) hB)) hF (by kernel_rfl) (guard_of rfl (by kernel_rfl) (by kernel_rfl) hj) (Ev.at (i := 12) (by kernel_rfl) (by kernel_rfl) (fe rfl (gd_t hg))))
                  · exact flow_gd (befB y x) (.bool (decide ((x.1.tm : Int) ≤ (y.1.tm : Int)))) 6 true (.bool (befB y x)) rfl (by kernel_rfl) rfl gu_t rfl (fun hg hF hj => v_bin (u := .int .u64 (y.1.tm : Int)) (v := .int .u64 (x.1.tm : Int)) (c := .bool (decide ((x.1.tm : Int) ≤ (y.1.tm : Int)))) rfl (fun w => (by go_simp)) hF (by kernel_rfl) (guard_of rfl (by kernel_rfl) (by kernel_rfl) hj) (Ev.at (i := 11) (by kernel_rfl) (by kernel_rfl) (fe rfl (gd_t hg))) (Ev.at (i := 13) (by kernel_rfl) (by kernel_rfl) (fe rfl (gd_t hg))))
                  · exact flow_gd (befB y x) (.bool (decide ((x.1.tm : Int) ≤ (y.1.tm : Int)))) 6 true (.bool (befB y x)) rfl (by kernel_rfl) rfl gu_t rfl (fun hg hF hj => v_move (.inl rfl) hF (by kernel_rfl) (guard_of rfl (by kernel_rfl) (by kernel_rfl) hj) (Ev.at (i := 14) (by kernel_rfl) (by kernel_rfl) (fe rfl (gd_t hg))))
                  · exact flow_gd ((befB y x) && (!(decide ((x.1.tm : Int) ≤ (y.1.tm : Int))))) (.pointer (some ((bx : Addr).add 2))) 15 false (gd (befB y x) (.bool (decide ((x.1.tm : Int) ≤ (y.1.tm : Int))))) rfl (by kernel_rfl) rfl gu_gf rfl (fun hg hF hj => v_faddr (u := .pointer (some bx)) (c := .pointer (some ((bx : Addr).add 2))) rfl (fun w => (fld_op bx w).2.1) hF (by kernel_rfl) (guard_of rfl (by kernel_rfl) (by kernel_rfl) hj) (Ev.out (by kernel_rfl) rfl))
                  · exact flow_gd ((befB y x) && (!(decide ((x.1.tm : Int) ≤ (y.1.tm : Int))))) (.agg (vc x.1.dep)) 15 false (gd (befB y x) (.bool (decide ((x.1.tm : Int) ≤ (y.1.tm : Int))))) rfl (by kernel_rfl) rfl gu_gf rfl (fun hg hF hj => v_load (u := .pointer (some ((bx : Addr).add 2))) (c := .agg (vc x.1.dep)) rfl (fun w hB => ldp_vec (OpIn.keep (OpIn.dr HCI.out.1) hB)) hF (by kernel_rfl) (guard_of rfl (by kernel_rfl) (by kernel_rfl) hj) (Ev.at (i := 16) (by kernel_rfl) (by kernel_rfl) (fe rfl (gd_t hg))))
                  · exact flow_gd ((befB y x) && (!(decide ((x.1.tm : Int) ≤ (y.1.tm : Int))))) (.slice (some ad) n cp) 15 false (gd (befB y x) (.bool (decide ((x.1.tm : Int) ≤ (y.1.tm : Int))))) rfl (by kernel_rfl) rfl gu_gf rfl (fun hg hF hj => v_move (.inl rfl) hF (by kernel_rfl) (guard_of rfl (by kernel_rfl) (by kernel_rfl) hj) (Ev.out (by kernel_rfl) rfl))
                  · exact flow_gd ((befB y x) && (!(decide ((x.1.tm : Int) ≤ (y.1.tm : Int))))) (.int .i64 ((k : Nat))) 15 false (gd (befB y x) (.bool (decide ((x.1.tm : Int) ≤ (y.1.tm : Int))))) rfl (by kernel_rfl) rfl gu_gf rfl (fun hg hF hj => v_move (.inl rfl) hF (by kernel_rfl) (guard_of rfl (by kernel_rfl) (by kernel_rfl) hj) (Ev.out (by kernel_rfl) rfl))
                  · exact flow_gd ((befB y x) && (!(decide ((x.1.tm : Int) ≤ (y.1.tm : Int))))) (.pointer (some (ad.add (k * 29)))) 15 false (gd (befB y x) (.bool (decide ((x.1.tm : Int) ≤ (y.1.tm : Int))))) rfl (by kernel_rfl) rfl gu_gf rfl (fun hg hF hj => v_iaddr (u := .slice (some ad) n cp) (v := .int .i64 ((k : Nat))) (c := .pointer (some (ad.add (k * 29)))) rfl (fun w => idx_op ad n cp k hlt w) hF (by kernel_rfl) (guard_of rfl (by kernel_rfl) (by kernel_rfl) hj) (Ev.at (i := 18) (by kernel_rfl) (by kernel_rfl) (fe rfl (gd_t hg))) (Ev.at (i := 19) (by kernel_rfl) (by kernel_rfl) (fe rfl (gd_t hg))))
                  · exact flow_gd ((befB y x) && (!(decide ((x.1.tm : Int) ≤ (y.1.tm : Int))))) (.pointer (some (((ad.add (k * 29)) : Addr).add 2))) 15 false (gd (befB y x) (.bool (decide ((x.1.tm : Int) ≤ (y.1.tm : Int))))) rfl (by kernel_rfl) rfl gu_gf rfl (fun hg hF hj => v_faddr (u := .pointer (some (ad.add (k * 29)))) (c := .pointer (some (((ad.add (k * 29)) : Addr).add 2))) rfl (fun w => (fld_op (ad.add (k * 29)) w).2.1) hF (by kernel_rfl) (guard_of rfl (by kernel_rfl) (by kernel_rfl) hj) (Ev.at (i := 20) (by kernel_rfl) (by kernel_rfl) (fe rfl (gd_t hg))))
                  · exact flow_gd ((befB y x) && (!(decide ((x.1.tm : Int) ≤ (y.1.tm : Int))))) (.agg (vc y.1.dep)) 15 false (gd (befB y x) (.bool (decide ((x.1.tm : Int) ≤ (y.1.tm : Int))))) rfl (by kernel_rfl) rfl gu_gf rfl (fun hg hF hj => v_load (u := .pointer (some (((ad.add (k * 29)) : Addr).add 2))) (c := .agg (vc y.1.dep)) rfl (fun w hB => ldp_vec (OpIn.keep (OpIn.dr HYI.out) hB)) hF (by kernel_rfl) (guard_of rfl (by kernel_rfl) (by kernel_rfl) hj) (Ev.at (i := 21) (by kernel_rfl) (by kernel_rfl) (fe rfl (gd_t hg))))
                  · exact flow_gd ((befB y x) && (!(decide ((x.1.tm : Int) ≤ (y.1.tm : Int))))) (.bool (aboveB x.1.dep y.1.dep)) 15 false (gd (befB y x) (.bool (decide ((x.1.tm : Int) ≤ (y.1.tm : Int))))) rfl (by kernel_rfl) rfl gu_gf rfl (fun hg hF hj => v_call (vs := #[.agg (vc x.1.dep), .agg (vc y.1.dep)]) (c := .bool (aboveB x.1.dep y.1.dep)) rfl (fun args w => rfl) (fun w hB => ref_Above x.1.dep y.1.dep w) hF (by kernel_rfl) (guard_of rfl (by kernel_rfl) (by kernel_rfl) hj) (ev2 (Ev.at (i := 17) (by kernel_rfl) (by kernel_rfl) (fe rfl (gd_t hg))) (Ev.at (i := 22) (by kernel_rfl) (by kernel_rfl) (fe rfl (gd_t hg)))))
                  · exact flow_gd ((befB y x) && (!(decide ((x.1.tm : Int) ≤ (y.1.tm : Int))))) (.bool (!(aboveB x.1.dep y.1.dep))) 15 false (gd (befB y x) (.bool (decide ((x.1.tm : Int) ≤ (y.1.tm : Int))))) rfl (by kernel_rfl) rfl gu_gf rfl (fun hg hF hj => v_not rfl hF (by kernel_rfl) (guard_of rfl (by kernel_rfl) (by kernel_rfl) hj) (Ev.at (i := 23) (by kernel_rfl) (by kernel_rfl) (fe rfl (gd_t hg))))
                  · exact flow_gd (befB y x) (.bool ((decide ((x.1.tm : Int) ≤ (y.1.tm : Int))) || (!(aboveB x.1.dep y.1.dep)))) 6 true (.bool (befB y x)) rfl (by kernel_rfl) rfl gu_t rfl (fun hg hF hj => v_or (p := decide ((x.1.tm : Int) ≤ (y.1.tm : Int))) (q := !(aboveB x.1.dep y.1.dep)) rfl hF (by kernel_rfl) (guard_of rfl (by kernel_rfl) (by kernel_rfl) hj) (Ev.at (i := 15) (by kernel_rfl) (by kernel_rfl) (fe rfl (gd_t hg))) (fun hp => (Ev.at (i := 24) (by kernel_rfl) (by kernel_rfl) (fe rfl (gd_t (and_tt hg (not_t hp)))))))
                  · exact v_and (p := befB y x) (q := (decide ((x.1.tm : Int) ≤ (y.1.tm : Int))) || (!(aboveB x.1.dep y.1.dep))) rfl rfl (by kernel_rfl) True.intro (Ev.at (i := 6) (by kernel_rfl) (by kernel_rfl) rfl) (fun hp => (Ev.at (i := 25) (by kernel_rfl) (by kernel_rfl) (fe rfl (gd_t hp))))
                intro _ vs w5 hB5 hf
                have e0 : vs 0 = .slice (some ad) n cp := hf 0 (by decide)
                have e1 : vs 1 = .int .i64 ((k : Nat)) := hf 1 (by decide)
                have e2 : vs 2 = .pointer (some (ad.add (k * 29))) := hf 2 (by decide)
                have e3 : vs 3 = .agg (oc y.1) := hf 3 (by decide)
                have e4 : vs 4 = .agg (oc x.1) := hf 4 (by decide)
                have e5 : vs 5 = .bool (befB y x) := hf 5 (by decide)
                have e6 : vs 6 = .bool (befB y x) := hf 6 (by decide)
                have e7 : vs 7 = gd (befB y x) (.slice (some ad) n cp) := hf 7 (by decide)
                have e8 : vs 8 = gd (befB y x) (.int .i64 ((k : Nat))) := hf 8 (by decide)
                have e9 : vs 9 = gd (befB y x) (.pointer (some (ad.add (k * 29)))) := hf 9 (by decide)
                have e10 : vs 10 = gd (befB y x) (.pointer (some (((ad.add (k * 29)) : Addr).add 10))) := hf 10 (by decide)
                have e11 : vs 11 = gd (befB y x) (.int .u64 (y.1.tm : Int)) := hf 11 (by decide)
                have e12 : vs 12 = gd (befB y x) (.pointer (some ((bx : Addr).add 10))) := hf 12 (by decide)
                have e13 : vs 13 = gd (befB y x) (.int .u64 (x.1.tm : Int)) := hf 13 (by decide)
                have e14 : vs 14 = gd (befB y x) (.bool (decide ((x.1.tm : Int) ≤ (y.1.tm : Int)))) := hf 14 (by decide)
                have e15 : vs 15 = gd (befB y x) (.bool (decide ((x.1.tm : Int) ≤ (y.1.tm : Int)))) := hf 15 (by decide)
                have e16 : vs 16 = gd ((befB y x) && (!(decide ((x.1.tm : Int) ≤ (y.1.tm : Int))))) (.pointer (some ((bx : Addr).add 2))) := hf 16 (by decide)
                have e17 : vs 17 = gd ((befB y x) && (!(decide ((x.1.tm : Int) ≤ (y.1.tm : Int))))) (.agg (vc x.1.dep)) := hf 17 (by decide)
                have e18 : vs 18 = gd ((befB y x) && (!(decide ((x.1.tm : Int) ≤ (y.1.tm : Int))))) (.slice (some ad) n cp) := hf 18 (by decide)
                have e19 : vs 19 = gd ((befB y x) && (!(decide ((x.1.tm : Int) ≤ (y.1.tm : Int))))) (.int .i64 ((k : Nat))) := hf 19 (by decide)
                have e20 : vs 20 = gd ((befB y x) && (!(decide ((x.1.tm : Int) ≤ (y.1.tm : Int))))) (.pointer (some (ad.add (k * 29)))) := hf 20 (by decide)
                have e21 : vs 21 = gd ((befB y x) && (!(decide ((x.1.tm : Int) ≤ (y.1.tm : Int))))) (.pointer (some (((ad.add (k * 29)) : Addr).add 2))) := hf 21 (by decide)
                have e22 : vs 22 = gd ((befB y x) && (!(decide ((x.1.tm : Int) ≤ (y.1.tm : Int))))) (.agg (vc y.1.dep)) := hf 22 (by decide)
                have e23 : vs 23 = gd ((befB y x) && (!(decide ((x.1.tm : Int) ≤ (y.1.tm : Int))))) (.bool (aboveB x.1.dep y.1.dep)) := hf 23 (by decide)
                have e24 : vs 24 = gd ((befB y x) && (!(decide ((x.1.tm : Int) ≤ (y.1.tm : Int))))) (.bool (!(aboveB x.1.dep y.1.dep))) := hf 24 (by decide)
                have e25 : vs 25 = gd (befB y x) (.bool ((decide ((x.1.tm : Int) ≤ (y.1.tm : Int))) || (!(aboveB x.1.dep y.1.dep)))) := hf 25 (by decide)
                have e26 : vs 26 = .bool ((befB y x) && ((decide ((x.1.tm : Int) ≤ (y.1.tm : Int))) || (!(aboveB x.1.dep y.1.dep)))) := hf 26 (by decide)
                obtain ⟨z, hz⟩ : ∃ z : Bool, ((befB y x) && ((decide ((x.1.tm : Int) ≤ (y.1.tm : Int))) || (!(aboveB x.1.dep y.1.dep)))) = z := ⟨_, rfl⟩
                rw [hz] at e26
                have HZ := hid hz
                clear hz
                simp only [fill, List.setIfInBounds_toArray, List.set_cons_zero, List.set_cons_succ, e0, e1, e2, e3, e4, e5, e6, e7, e8, e9, e10, e11, e12, e13, e14, e15, e16, e17, e18, e19, e20, e21, e22, e23, e24, e25, e26]
                clear e0 e1 e2 e3 e4 e5 e6 e7 e8 e9 e10 e11 e12 e13 e14 e15 e16 e17 e18 e19 e20 e21 e22 e23 e24 e25 e26
                clear hf
                have HCN := hid (show OpIn w5 bx x.1 ∧ Below W0.heap.size W0 w5 from ⟨HCI.out.1.keep hB5, below_next HCI.out.2 hB5⟩)
                clear hB5 HYI HCI
                cases z
                · have HZ2 := hid (show befB y x = true → y.1.tm < x.1.tm ∧ aboveB x.1.dep y.1.dep = true from fun hb => by
                    have h2 := HZ.out
                    rw [hb, Bool.true_and, Bool.or_eq_false_iff] at h2
                    obtain ⟨h3, h4⟩ := h2
                    exact ⟨by have := of_decide_eq_false h3; omega, by simpa using h4⟩)
                  clear HZ
                  go_wp2
                  go_roundw
                  case rel => exact ⟨k + 1, by omega, by go_num, hid (by
                    rw [take_snocO HY.out]
                    intro q hq
                    rcases List.mem_append.1 hq with hq | hq
                    · exact HA.out q hq
                    · rw [List.mem_singleton] at hq; subst hq; exact HZ2.out), HCN⟩
                  case measure => exact meas1 hlt
                · have HF := hid (show decide (OneP l x) = false from decide_eq_false fun h => by
                    have h2 := HZ.out
                    rw [Bool.and_eq_true, Bool.or_eq_true] at h2
                    obtain ⟨h3, h4⟩ := h.2.2.2 y (List.mem_of_getElem? HY.out) h2.1
                    rcases h2.2 with h5 | h5
                    · have := of_decide_eq_true h5; omega
                    · rw [h4] at h5; cases h5)
                  clear HZ
                  go_wp2
                  go_ret
                  exact ⟨by rw [HF.out]; rfl, HCN.out.2⟩
            · obtain rfl : k = n := by omega
              have ha := HA.out
              rw [List.take_of_length_le (by have := HN.out; omega)] at ha
              have HF := hid (show decide (OneP l x) = true from decide_eq_true ⟨HP1.out.1, HP1.out.2, HA8.out, ha⟩)
              clear ha
              go_wp2
              go_ret
              exact ⟨by rw [HF.out]; rfl, HCI.out.2⟩
  · have e3 : ((q1 : Int) == 1) = false := by simp; omega
    have e4 : ((q1 : Int) != 1) = true := by simp; omega
    have HF := hid (show decide (OneP l x) = false from decide_eq_false fun h => z1 (by rw [← HQ.out.1]; exact h.1))
    clear z1
    go_wp2_with (go_at_call 67; refine ht1.mono ?_; rintro e w1 ⟨rfl, hb⟩; have HB1 := hid (below_next HW.out.2 hb); clear hb ht1)
    go_ret
    exact ⟨by rw [HF.out]; rfl, HB1.out⟩
end Go.Proofs.YtagdapmnghnphaaDoor.V
