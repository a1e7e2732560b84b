/-
  The law on frames and bursts.
-/
import Derived.Test.YtagjgknkkbkjgaaFV
import Derived.Test.YtagjgknkkbkjgaaJS
namespace Go.Proofs.Ytagjgknkkbkjgaa.V
set_option linter.unusedVariables false
set_option linter.unusedSimpArgs false
set_option maxRecDepth 100000
open Go Go.RowKit Go.Maps Wire

theorem str_eql (s t : ByteArray) {x y : Operand} (w : World) : (do eqGuard .eql 9 x y (.string s) (.string t); binOp .eql 9 (.string s) (.string t) : Sem Value).run Try.prog w = .ok (.bool (s.toList == t.toList)) w := by go_simp
theorem puts_tell {f g : FrM} {l m : List OC} {w : World} (hof : okF f) (hog : okF g) (hl : OpsV w f.ops l) (hm : OpsV w g.ops m) {ps qs : List UInt8} {e1 e2 : Int} (h1 : putF f l = (ps, e1)) (h2 : putF g m = (qs, e2)) (z1 : e1 = 0) (z2 : e2 = 0) :
    ((ba ps).toList == (ba qs).toList) = sameFr f g l m := by
  unfold putF at h1 h2
  cases m1 : mayF f l with
  | false => rw [m1, if_neg (by decide)] at h1; have := congrArg Prod.snd h1; simp at this; omega
  | true =>
    cases m2 : mayF g m with
    | false => rw [m2, if_neg (by decide)] at h2; have := congrArg Prod.snd h2; simp at this; omega
    | true =>
      rw [m1, if_pos rfl] at h1
      rw [m2, if_pos rfl] at h2
      have a1 := congrArg Prod.fst h1
      have a2 := congrArg Prod.fst h2
      dsimp only at a1 a2
      rw [beq_lists, ba_list, ba_list, ← a1, ← a2, same_frame hof hog (fine_of hl m1) (fine_of hm m2) m1 m2]
      by_cases e : encF f l = encF g m
      · rw [decide_eq_true e, decide_eq_true (congrArg _ e)]
      · rw [decide_eq_false e, decide_eq_false (fun h => e (sealed_inj h))]
theorem gets_none {bs : List UInt8} {f : FrM} {l : List OC} {e : Int} (h : GetR bs f l e) (hs : Crc.isSealed bs = false) : e = 5 := by
  rcases h with ⟨rfl, b1, _, _⟩ | ⟨rfl, _, _, _⟩
  · rw [b1, Crc.isSealed_sealed] at hs; cases hs
  · rfl
theorem bits_next {n i : Nat} (q : Nat) (hq : q = n % 2 ^ i) (hb : n / 2 ^ i % 2 = 1) : q + 2 ^ i = n % 2 ^ (i + 1) := by
  rw [hq, Nat.mod_pow_succ, hb, Nat.mul_one]
theorem bits_stay {n i : Nat} (q : Nat) (hq : q = n % 2 ^ i) (hb : ¬ n / 2 ^ i % 2 = 1) : q = n % 2 ^ (i + 1) := by
  have : n / 2 ^ i % 2 = 0 := by omega
  rw [hq, Nat.mod_pow_succ, this, Nat.mul_zero, Nat.add_zero]
/-- Behind the rounds: the bytes read as no sealed ones. -/
theorem burst_gone {W wr : World} {g : Nat} {X : ByteArray} {N k q : Nat} (h : S.BurstAt W wr g X N k 32 q) (hX : Crc.isSealed X.data.toList = true) (hXs : X.size = N) (hk : k < 8 * N) (hN : 4 ≤ N) (hN' : N ≤ 1000000) (hq : q ≠ 0) (cap : Nat) :
    ∃ Y : ByteArray, (convert 42 9 (.slice (some ⟨g, 0, none⟩) N cap)).run Try.prog wr = .ok (.string Y) wr ∧ Y.size ≤ 1000000 ∧ Crc.isSealed Y.data.toList = false ∧ Below W.heap.size W wr := by
  obtain ⟨l, h1, h2, h3, h4, h5, h6⟩ := h
  have hlen : X.data.toList.length = X.size := by simp
  refine ⟨⟨l.toArray⟩, by rw [← h1]; exact h3.string cap, by show l.toArray.size ≤ _; simp; omega, ?_, h4⟩
  have hb := Crc.burst X.data.toList l k q (by omega) (by omega) (by omega) (by omega) hX h2
  have hl : (⟨l.toArray⟩ : ByteArray).data.toList = l := by simp
  rw [hl, hb]
  exact decide_eq_false hq

/-- How many lines there are, in the machine's numbers; are there too many? -/
def linesOf (l : List OC) : Int := l.foldl (fun z x => wrap64 (z + (x.2.length : Int))) 0
def greatB (l : List OC) : Bool := decide ((100 : Int) < (l.length : Int)) || decide ((300 : Int) < linesOf l)
theorem linesOf_next {l : List OC} {k : Nat} {x : OC} (hx : l[k]? = some x) : linesOf (l.take (k + 1)) = wrap64 (linesOf (l.take k) + (x.2.length : Int)) := by
  rw [← take_snocC hx]
  unfold linesOf
  rw [List.foldl_append]
  rfl
set_option maxHeartbeats 1000000 in
theorem law_greatB (f : FrM) (l : List OC) (w : World) (hv : OpsV w f.ops l) :
    Calls Try.prog 6 #[.agg (fc f)] w fun e w' => e = .returned (.bool (greatB l)) ∧ Below w.heap.size w w' := by
  have HE := hid (below_al w (.cells (fc f) 27))
  have HFR := hid (frAt_new w f)
  have HV := hid (hv.keep HE.out)
  obtain ⟨gr, hgr⟩ : ∃ b, greatB l = b := ⟨_, rfl⟩
  rw [hgr]
  have HGR := hid hgr
  obtain ⟨ad, n, cap, hlv, hI⟩ := HV.out
  have HI := hid hI
  have HLV := hid hlv
  have HNL := hid hI.1
  have hnm : n ≤ maxLen := Nat.le_trans hI.2.1 hI.2.2.1
  have hnM : n ≤ 9223372036854775807 := by unfold maxLen at hnm; omega
  clear hv hlv hI hnm hgr
  go_enter Try.func6, Try.ntmps6
  go_upto_region 3 with (fail)
  generalize w.alloc (.cells (fc f) 27) = W at HE HFR HV HI ⊢
  have c11 := HFR.out.c11.trans (congrArg some HLV.out)
  go_loopw [3, 4] (fun s i wr => ∃ (k : Nat) (z : Int), k ≤ n ∧ i = .int .i64 k ∧ s = .int .i64 z ∧ z = linesOf (l.take k) ∧ wr = W) (fun _ i _ => n - (intOf i).toNat)
  case atStart => exact ⟨0, 0, by omega, rfl, rfl, rfl, rfl⟩
  case round =>
    obtain ⟨k, z, hk, rfl, rfl, hz, rfl⟩ := hrel
    have HZ := hid hz
    clear hz
    by_cases hlt : k < n
    · cases ad with
      | none => have := HI.out.none_len; omega
      | some ad =>
        obtain ⟨o, lc, hx, hoo, hc, hin⟩ := HI.out.at k hlt
        obtain ⟨ca, cn, cc, hcv, hci⟩ := hc
        have HCN := hid hci.1
        have HXX := hid hx
        have hln := hin.lines
        rw [hcv] at hln
        have hln2 : wr.cell? ⟨(ad.add (k * 29)).block, (ad.add (k * 29)).off + 28, none⟩ = some (.slice ca cn cc) := hln
        clear hln
        clear hci hin hx
        go_wp2_with (fail)
        refine ⟨⟨k + 1, _, by omega, by go_num, rfl, ?_, trivial⟩, ?_⟩
        · rw [linesOf_next HXX.out, ← HZ.out, HCN.out]
        · simp [intOf]
          omega
    · obtain rfl : k = n := by omega
      have hfin : gr = (decide ((100 : Int) < (k : Int)) || decide ((300 : Int) < z)) := by
        rw [← HGR.out, HZ.out, List.take_of_length_le (by rw [HNL.out]; exact Nat.le_refl _)]
        unfold greatB
        rw [HNL.out]
      have HFIN := hid hfin
      clear hfin
      cases hd : decide ((100 : Int) < (k : Int)) with
      | false =>
        go_wp2_with (fail)
        go_ret
        exact ⟨by rw [HFIN.out, hd]; rfl, HE.out⟩
      | true =>
        go_wp2_with (fail)
        go_ret
        exact ⟨by rw [HFIN.out, hd]; rfl, HE.out⟩

set_option maxHeartbeats 1000000 in
theorem law_FrameBursts (f : FrM) (hof : okF f) (l : List OC) (g : FrM) (hog : okF g) (m : List OC) (a n : Nat) (ha : a < 4294967296) (hn : n < 4294967296) (w : World) (hvf : OpsV w f.ops l) (hvg : OpsV w g.ops m) :
    Calls Try.prog 5 #[.agg (fc f), .agg (fc g), .agg #[.int .u32 (a : Int), .int .u32 (n : Int)]] w fun e w' => e = .returned (.bool true) ∧ Below w.heap.size w w' := by
  have HE := hid (below_al3 w (.cells (fc f) 27) (.cells (fc g) 27) (.cells #[.int .u32 (a : Int), .int .u32 (n : Int)] 41))
  have HF0 := hid (((frAt_new w f).al (.cells (fc g) 27)).al (.cells #[.int .u32 (a : Int), .int .u32 (n : Int)] 41))
  have HG0 := hid (FrAt.al (show FrAt ((w.alloc (.cells (fc f) 27)).alloc (.cells (fc g) 27)) (w.heap.size + 1) g from last2 _ _ _) (.cells #[.int .u32 (a : Int), .int .u32 (n : Int)] 41))
  have HX0 := hid (last_three w (.cells (fc f) 27) (.cells (fc g) 27) (.cells #[.int .u32 (a : Int), .int .u32 (n : Int)] 41))
  have HV0 := hid (hvf.keep HE.out)
  have HW0 := hid (hvg.keep HE.out)
  have HOF := hid hof
  have HOG := hid hog
  clear hvf hvg hof hog
  go_enter Try.func5, Try.ntmps5
  go_upto_region 1 with (fail)
  generalize ((w.alloc (.cells (fc f) 27)).alloc (.cells (fc g) 27)).alloc (.cells #[.int .u32 (a : Int), .int .u32 (n : Int)] 41) = W0 at HE HF0 HG0 HX0 HV0 HW0 ⊢
  have HRG := hid (law_greatB f l _ HV0.out)
  have HRH := hid (fun W (hB : Below W0.heap.size W0 W) => law_greatB g m W (HW0.out.keep hB))
  cases hg1 : greatB l with
  | true =>
    have h1 := HRG.out
    rw [hg1] at h1
    go_wp2_with (first
      | (refine load_fr _ rfl (by kernel_rfl) w.heap.size rfl _ HF0.out ?_)
      | (go_at_call 6; (with_reducible refine h1.mono ?_); rintro e w1 ⟨rfl, hB1⟩; have HB1 := hid hB1; clear hB1 h1)
      | (go_at_call 7; (with_reducible refine (law_head _).mono ?_); rintro e w3 ⟨rfl, hB3⟩; have HB3 := hid hB3; clear hB3))
    go_ret
    exact ⟨rfl, below_next HE.out (below_next HB1.out HB3.out)⟩
  | false =>
  cases hg2 : greatB m with
  | true =>
    have h1 := HRG.out
    have h2 := HRH.out
    rw [hg1] at h1
    simp only [hg2] at h2
    go_wp2_with (first
      | (refine load_fr _ rfl (by kernel_rfl) w.heap.size rfl _ HF0.out ?_)
      | (refine load_fr _ rfl (by kernel_rfl) (w.heap.size + 1) rfl _ HG1.out ?_)
      | (go_at_call 6; (with_reducible refine h1.mono ?_); rintro e w1 ⟨rfl, hB1⟩; have HB1 := hid hB1; have HG1 := hid (HG0.out.keep hB1); clear hB1 h1)
      | (go_at_call 6; (with_reducible refine (h2 _ HB1.out).mono ?_); rintro e w2 ⟨rfl, hB2⟩; have HB2 := hid (below_next HB1.out hB2); clear hB2 h2)
      | (go_at_call 7; (with_reducible refine (law_head _).mono ?_); rintro e w3 ⟨rfl, hB3⟩; have HB3 := hid hB3; clear hB3))
    go_ret
    exact ⟨rfl, below_next HE.out (below_next HB2.out HB3.out)⟩
  | false =>
    have h1 := HRG.out
    have h2 := HRH.out
    rw [hg1] at h1
    simp only [hg2] at h2
    clear hg1 hg2 HRG HRH
    go_upto_region 3 with (first
      | (refine load_fr _ rfl (by kernel_rfl) w.heap.size rfl _ HF0.out ?_)
      | (refine load_fr _ rfl (by kernel_rfl) (w.heap.size + 1) rfl _ HG1.out ?_)
      | (go_at_call 6; (with_reducible refine h1.mono ?_); rintro e w1 ⟨rfl, hB1⟩; have HB1 := hid hB1; have HG1 := hid (HG0.out.keep hB1); clear hB1 h1)
      | (go_at_call 6; (with_reducible refine (h2 _ HB1.out).mono ?_); rintro e w2 ⟨rfl, hB2⟩; have HB2 := hid (below_next HB1.out hB2); clear hB2 h2))
    have HE2 := hid (below_next HE.out HB2.out)
    have HF2 := hid (HF0.out.keep HB2.out)
    have HG2 := hid (HG0.out.keep HB2.out)
    have HX2 := hid (heap_keep HX0.out HB2.out)
    have HV2 := hid (HV0.out.keep HB2.out)
    have HW2 := hid (HW0.out.keep HB2.out)
    clear HE HF0 HG0 HX0 HV0 HW0 HB1 HB2 HG1
    obtain ⟨ps, r1, hpf⟩ : ∃ a b, putF f l = (a, b) := ⟨_, _, rfl⟩
    obtain ⟨qs, r2, hpg⟩ : ∃ a b, putF g m = (a, b) := ⟨_, _, rfl⟩
    have HPF := hid hpf
    have HPG := hid hpg
    have HTELL := hid (fun z1 z2 => puts_tell HOF.out HOG.out HV2.out HW2.out hpf hpg z1 z2)
    have hp1 := frame_Put f HOF.out l _ HV2.out
    rw [hpf] at hp1
    have hp2 : ∀ W, Below w2.heap.size w2 W → Calls Try.prog 8 #[.agg (fc g)] W fun e w' => e = .returned (.tuple #[.string (ba qs), .int .i64 r2]) ∧ Below W.heap.size W w' := fun W hB => by
      have := frame_Put g HOG.out m W (HW2.out.keep hB)
      rw [hpg] at this
      exact this
    clear hpf hpg
    obtain ⟨p1, hq1⟩ : ∃ s, ba ps = s := ⟨_, rfl⟩
    obtain ⟨p2, hq2⟩ : ∃ s, ba qs = s := ⟨_, rfl⟩
    have HQ1 := hid hq1
    dsimp only at hp1
    rw [hq1] at hp1
    rw [hq2] at hp2
    rw [hq1, hq2] at HTELL
    clear hq1 hq2
    go_upto_region 5 with (first
      | (refine load_fr _ rfl (by kernel_rfl) w.heap.size rfl _ HF2.out ?_)
      | (refine load_fr _ rfl (by kernel_rfl) (w.heap.size + 1) rfl _ HG3.out ?_)
      | (go_at_call 8; (with_reducible refine hp1.mono ?_); rintro e w3 ⟨rfl, hB3⟩; have HB3 := hid hB3; have HG3 := hid (HG2.out.keep hB3); clear hB3 hp1)
      | (go_at_call 8; (with_reducible refine (hp2 _ HB3.out).mono ?_); rintro e w4 ⟨rfl, hB4⟩; have HB4 := hid (below_next HB3.out hB4); clear hB4 hp2))
    have HF4 := hid (HF2.out.keep HB4.out)
    have HG4 := hid (HG2.out.keep HB4.out)
    have HX4 := hid (heap_keep HX2.out HB4.out)
    have HV4 := hid (HV2.out.keep HB4.out)
    have HW4 := hid (HW2.out.keep HB4.out)
    have HE4 := hid (below_next HE2.out HB4.out)
    clear HF2 HG2 HX2 HV2 HW2 HE2 HB3 HB4 HG3
    try dsimp only
    refine wp_flow (fun _ => none) (Fa.eq (.agg (fc f)) :: Fa.eq (.agg (fc g)) :: Fa.eq (.bool (sameFr f g l m)) :: Fa.eq (.agg (fc f)) :: Fa.eq (.agg (fc g)) :: Fa.eq (.bool (sameFr f g l m)) :: Fa.eq (.bool ((sameFr f g l m) != (sameFr f g l m))) :: Fa.eq (.bool ((sameFr f g l m) != (sameFr f g l m))) :: Fa.eq (gd (!((sameFr f g l m) != (sameFr f g l m))) (.int .i64 (r1))) :: Fa.eq (gd (!((sameFr f g l m) != (sameFr f g l m))) (.bool (r1 == 0))) :: Fa.eq (gd (!((sameFr f g l m) != (sameFr f g l m))) (.bool (r1 == 0))) :: Fa.eq (gd ((!((sameFr f g l m) != (sameFr f g l m))) && (r1 == 0)) (.int .i64 (r2))) :: Fa.eq (gd ((!((sameFr f g l m) != (sameFr f g l m))) && (r1 == 0)) (.bool (r2 == 0))) :: Fa.eq (gd (!((sameFr f g l m) != (sameFr f g l m))) (.bool ((r1 == 0) && (r2 == 0)))) :: Fa.eq (gd (!((sameFr f g l m) != (sameFr f g l m))) (.bool ((r1 == 0) && (r2 == 0)))) :: Fa.eq (gd ((!((sameFr f g l m) != (sameFr f g l m))) && ((r1 == 0) && (r2 == 0))) (.string (p1))) :: Fa.eq (gd ((!((sameFr f g l m) != (sameFr f g l m))) && ((r1 == 0) && (r2 == 0))) (.string (p2))) :: Fa.eq (gd ((!((sameFr f g l m) != (sameFr f g l m))) && ((r1 == 0) && (r2 == 0))) (.bool (((p1).toList == (p2).toList)))) :: Fa.eq (gd ((!((sameFr f g l m) != (sameFr f g l m))) && ((r1 == 0) && (r2 == 0))) (.agg (fc f))) :: Fa.eq (gd ((!((sameFr f g l m) != (sameFr f g l m))) && ((r1 == 0) && (r2 == 0))) (.agg (fc g))) :: Fa.eq (gd ((!((sameFr f g l m) != (sameFr f g l m))) && ((r1 == 0) && (r2 == 0))) (.bool (sameFr f g l m))) :: Fa.eq (gd ((!((sameFr f g l m) != (sameFr f g l m))) && ((r1 == 0) && (r2 == 0))) (.bool ((((p1).toList == (p2).toList)) != (sameFr f g l m)))) :: Fa.eq (gd (!((sameFr f g l m) != (sameFr f g l m))) (.bool (((r1 == 0) && (r2 == 0)) && ((((p1).toList == (p2).toList)) != (sameFr f g l m))))) :: Fa.eq (.bool (((sameFr f g l m) != (sameFr f g l m)) || (((r1 == 0) && (r2 == 0)) && ((((p1).toList == (p2).toList)) != (sameFr f g l m))))) :: []) 131 (by kernel_rfl) rfl (by kernel_rfl) rfl (by kernel_rfl) ?_ ?_ ?_
    · exact fits_plain _ _ rfl
    · refine ⟨?_, ?_, ?_, ?_, ?_, ?_, ?_, ?_, ?_, ?_, ?_, ?_, ?_, ?_, ?_, ?_, ?_, ?_, ?_, ?_, ?_, ?_, ?_, ?_, trivial⟩
      · exact v_load (u := .pointer (some ⟨w.heap.size, 0, none⟩)) (c := .agg (fc f)) rfl (fun w hB => ld_fr (HF4.out.dr.keep hB)) rfl (by kernel_rfl) True.intro (Ev.out (by kernel_rfl) rfl)
      · exact v_load (u := .pointer (some ⟨(w.heap.size + 1), 0, none⟩)) (c := .agg (fc g)) rfl (fun w hB => ld_fr (HG4.out.dr.keep hB)) rfl (by kernel_rfl) True.intro (Ev.out (by kernel_rfl) rfl)
      · exact v_call (vs := #[.agg (fc f), .agg (fc g)]) (c := .bool (sameFr f g l m)) rfl (fun args w => rfl) (fun w hB => frame_Same f g l m w (HV4.out.dr.keep hB) (HW4.out.dr.keep hB)) rfl (by kernel_rfl) True.intro (ev2 (Ev.at (i := 0) (by kernel_rfl) (by kernel_rfl) rfl) (Ev.at (i := 1) (by kernel_rfl) (by kernel_rfl) rfl))
      · exact v_load (u := .pointer (some ⟨w.heap.size, 0, none⟩)) (c := .agg (fc f)) rfl (fun w hB => ld_fr (HF4.out.dr.keep hB)) rfl (by kernel_rfl) True.intro (Ev.out (by kernel_rfl) rfl)
      · exact v_load (u := .pointer (some ⟨(w.heap.size + 1), 0, none⟩)) (c := .agg (fc g)) rfl (fun w hB => ld_fr (HG4.out.dr.keep hB)) rfl (by kernel_rfl) True.intro (Ev.out (by kernel_rfl) rfl)
      · exact v_call (vs := #[.agg (fc f), .agg (fc g)]) (c := .bool (sameFr f g l m)) rfl (fun args w => rfl) (fun w hB => ref_SameF f g l m w (HV4.out.dr.keep hB) (HW4.out.dr.keep hB)) rfl (by kernel_rfl) True.intro (ev2 (Ev.at (i := 3) (by kernel_rfl) (by kernel_rfl) rfl) (Ev.at (i := 4) (by kernel_rfl) (by kernel_rfl) rfl))
      · exact v_bin (u := .bool (sameFr f g l m)) (v := .bool (sameFr f g l m)) (c := .bool ((sameFr f g l m) != (sameFr f g l m))) rfl (fun w => bin_bool_neq _ _ w) rfl (by kernel_rfl) True.intro (Ev.at (i := 2) (by kernel_rfl) (by kernel_rfl) rfl) (Ev.at (i := 5) (by kernel_rfl) (by kernel_rfl) rfl)
      · exact v_move (.inl rfl) rfl (by kernel_rfl) True.intro (Ev.at (i := 6) (by kernel_rfl) (by kernel_rfl) rfl)
      · exact flow_gd (!((sameFr f g l m) != (sameFr f g l m))) (.int .i64 (r1)) 7 false (.bool ((sameFr f g l m) != (sameFr f g l m))) rfl (by kernel_rfl) rfl gu_f rfl (fun hg hF hj => v_move (.inl rfl) hF (by kernel_rfl) (guard_of rfl (by kernel_rfl) (by kernel_rfl) hj) (Ev.out (by kernel_rfl) rfl))
      · exact flow_gd (!((sameFr f g l m) != (sameFr f g l m))) (.bool (r1 == 0)) 7 false (.bool ((sameFr f g l m) != (sameFr f g l m))) rfl (by kernel_rfl) rfl gu_f rfl (fun hg hF hj => v_bin (u := .int .i64 (r1)) (v := .int .i64 (0)) (c := .bool (r1 == 0)) rfl (fun w => (by go_simp)) hF (by kernel_rfl) (guard_of rfl (by kernel_rfl) (by kernel_rfl) hj) (Ev.at (i := 8) (by kernel_rfl) (by kernel_rfl) (fe rfl (gd_t hg))) Ev.const)
      · exact flow_gd (!((sameFr f g l m) != (sameFr f g l m))) (.bool (r1 == 0)) 7 false (.bool ((sameFr f g l m) != (sameFr f g l m))) rfl (by kernel_rfl) rfl gu_f rfl (fun hg hF hj => v_move (.inl rfl) hF (by kernel_rfl) (guard_of rfl (by kernel_rfl) (by kernel_rfl) hj) (Ev.at (i := 9) (by kernel_rfl) (by kernel_rfl) (fe rfl (gd_t hg))))
      · exact flow_gd ((!((sameFr f g l m) != (sameFr f g l m))) && (r1 == 0)) (.int .i64 (r2)) 10 true (gd (!((sameFr f g l m) != (sameFr f g l m))) (.bool (r1 == 0))) rfl (by kernel_rfl) rfl gu_gt rfl (fun hg hF hj => v_move (.inl rfl) hF (by kernel_rfl) (guard_of rfl (by kernel_rfl) (by kernel_rfl) hj) (Ev.out (by kernel_rfl) rfl))
      · exact flow_gd ((!((sameFr f g l m) != (sameFr f g l m))) && (r1 == 0)) (.bool (r2 == 0)) 10 true (gd (!((sameFr f g l m) != (sameFr f g l m))) (.bool (r1 == 0))) rfl (by kernel_rfl) rfl gu_gt rfl (fun hg hF hj => v_bin (u := .int .i64 (r2)) (v := .int .i64 (0)) (c := .bool (r2 == 0)) rfl (fun w => (by go_simp)) hF (by kernel_rfl) (guard_of rfl (by kernel_rfl) (by kernel_rfl) hj) (Ev.at (i := 11) (by kernel_rfl) (by kernel_rfl) (fe rfl (gd_t hg))) Ev.const)
      · exact flow_gd (!((sameFr f g l m) != (sameFr f g l m))) (.bool ((r1 == 0) && (r2 == 0))) 7 false (.bool ((sameFr f g l m) != (sameFr f g l m))) rfl (by kernel_rfl) rfl gu_f rfl (fun hg hF hj => v_and (p := r1 == 0) (q := r2 == 0) rfl hF (by kernel_rfl) (guard_of rfl (by kernel_rfl) (by kernel_rfl) hj) (Ev.at (i := 10) (by kernel_rfl) (by kernel_rfl) (fe rfl (gd_t hg))) (fun hp => (Ev.at (i := 12) (by kernel_rfl) (by kernel_rfl) (fe rfl (gd_t (and_tt hg hp))))))
      · exact flow_gd (!((sameFr f g l m) != (sameFr f g l m))) (.bool ((r1 == 0) && (r2 == 0))) 7 false (.bool ((sameFr f g l m) != (sameFr f g l m))) rfl (by kernel_rfl) rfl gu_f rfl (fun hg hF hj => v_move (.inl rfl) hF (by kernel_rfl) (guard_of rfl (by kernel_rfl) (by kernel_rfl) hj) (Ev.at (i := 13) (by kernel_rfl) (by kernel_rfl) (fe rfl (gd_t hg))))
      · exact flow_gd ((!((sameFr f g l m) != (sameFr f g l m))) && ((r1 == 0) && (r2 == 0))) (.string (p1)) 14 true (gd (!((sameFr f g l m) != (sameFr f g l m))) (.bool ((r1 == 0) && (r2 == 0)))) rfl (by kernel_rfl) rfl gu_gt rfl (fun hg hF hj => v_move (.inl rfl) hF (by kernel_rfl) (guard_of rfl (by kernel_rfl) (by kernel_rfl) hj) (Ev.out (by kernel_rfl) rfl))
      · exact flow_gd ((!((sameFr f g l m) != (sameFr f g l m))) && ((r1 == 0) && (r2 == 0))) (.string (p2)) 14 true (gd (!((sameFr f g l m) != (sameFr f g l m))) (.bool ((r1 == 0) && (r2 == 0)))) rfl (by kernel_rfl) rfl gu_gt rfl (fun hg hF hj => v_move (.inl rfl) hF (by kernel_rfl) (guard_of rfl (by kernel_rfl) (by kernel_rfl) hj) (Ev.out (by kernel_rfl) rfl))
      · exact flow_gd ((!((sameFr f g l m) != (sameFr f g l m))) && ((r1 == 0) && (r2 == 0))) (.bool (((p1).toList == (p2).toList))) 14 true (gd (!((sameFr f g l m) != (sameFr f g l m))) (.bool ((r1 == 0) && (r2 == 0)))) rfl (by kernel_rfl) rfl gu_gt rfl (fun hg hF hj => v_bin (u := .string (p1)) (v := .string (p2)) (c := .bool (((p1).toList == (p2).toList))) rfl (fun w => (str_eql _ _ w)) hF (by kernel_rfl) (guard_of rfl (by kernel_rfl) (by kernel_rfl) hj) (Ev.at (i := 15) (by kernel_rfl) (by kernel_rfl) (fe rfl (gd_t hg))) (Ev.at (i := 16) (by kernel_rfl) (by kernel_rfl) (fe rfl (gd_t hg))))
      · exact flow_gd ((!((sameFr f g l m) != (sameFr f g l m))) && ((r1 == 0) && (r2 == 0))) (.agg (fc f)) 14 true (gd (!((sameFr f g l m) != (sameFr f g l m))) (.bool ((r1 == 0) && (r2 == 0)))) rfl (by kernel_rfl) rfl gu_gt rfl (fun hg hF hj => v_load (u := .pointer (some ⟨w.heap.size, 0, none⟩)) (c := .agg (fc f)) rfl (fun w hB => ld_fr (HF4.out.dr.keep hB)) hF (by kernel_rfl) (guard_of rfl (by kernel_rfl) (by kernel_rfl) hj) (Ev.out (by kernel_rfl) rfl))
      · exact flow_gd ((!((sameFr f g l m) != (sameFr f g l m))) && ((r1 == 0) && (r2 == 0))) (.agg (fc g)) 14 true (gd (!((sameFr f g l m) != (sameFr f g l m))) (.bool ((r1 == 0) && (r2 == 0)))) rfl (by kernel_rfl) rfl gu_gt rfl (fun hg hF hj => v_load (u := .pointer (some ⟨(w.heap.size + 1), 0, none⟩)) (c := .agg (fc g)) rfl (fun w hB => ld_fr (HG4.out.dr.keep hB)) hF (by kernel_rfl) (guard_of rfl (by kernel_rfl) (by kernel_rfl) hj) (Ev.out (by kernel_rfl) rfl))
      · exact flow_gd ((!((sameFr f g l m) != (sameFr f g l m))) && ((r1 == 0) && (r2 == 0))) (.bool (sameFr f g l m)) 14 true (gd (!((sameFr f g l m) != (sameFr f g l m))) (.bool ((r1 == 0) && (r2 == 0)))) rfl (by kernel_rfl) rfl gu_gt rfl (fun hg hF hj => v_call (vs := #[.agg (fc f), .agg (fc g)]) (c := .bool (sameFr f g l m)) rfl (fun args w => rfl) (fun w hB => frame_Same f g l m w (HV4.out.dr.keep hB) (HW4.out.dr.keep hB)) hF (by kernel_rfl) (guard_of rfl (by kernel_rfl) (by kernel_rfl) hj) (ev2 (Ev.at (i := 18) (by kernel_rfl) (by kernel_rfl) (fe rfl (gd_t hg))) (Ev.at (i := 19) (by kernel_rfl) (by kernel_rfl) (fe rfl (gd_t hg)))))
      · exact flow_gd ((!((sameFr f g l m) != (sameFr f g l m))) && ((r1 == 0) && (r2 == 0))) (.bool ((((p1).toList == (p2).toList)) != (sameFr f g l m))) 14 true (gd (!((sameFr f g l m) != (sameFr f g l m))) (.bool ((r1 == 0) && (r2 == 0)))) rfl (by kernel_rfl) rfl gu_gt rfl (fun hg hF hj => v_bin (u := .bool (((p1).toList == (p2).toList))) (v := .bool (sameFr f g l m)) (c := .bool ((((p1).toList == (p2).toList)) != (sameFr f g l m))) rfl (fun w => bin_bool_neq _ _ w) hF (by kernel_rfl) (guard_of rfl (by kernel_rfl) (by kernel_rfl) hj) (Ev.at (i := 17) (by kernel_rfl) (by kernel_rfl) (fe rfl (gd_t hg))) (Ev.at (i := 20) (by kernel_rfl) (by kernel_rfl) (fe rfl (gd_t hg))))
      · exact flow_gd (!((sameFr f g l m) != (sameFr f g l m))) (.bool (((r1 == 0) && (r2 == 0)) && ((((p1).toList == (p2).toList)) != (sameFr f g l m)))) 7 false (.bool ((sameFr f g l m) != (sameFr f g l m))) rfl (by kernel_rfl) rfl gu_f rfl (fun hg hF hj => v_and (p := (r1 == 0) && (r2 == 0)) (q := (((p1).toList == (p2).toList)) != (sameFr f g l m)) rfl hF (by kernel_rfl) (guard_of rfl (by kernel_rfl) (by kernel_rfl) hj) (Ev.at (i := 14) (by kernel_rfl) (by kernel_rfl) (fe rfl (gd_t hg))) (fun hp => (Ev.at (i := 21) (by kernel_rfl) (by kernel_rfl) (fe rfl (gd_t (and_tt hg hp))))))
      · exact v_or (p := (sameFr f g l m) != (sameFr f g l m)) (q := ((r1 == 0) && (r2 == 0)) && ((((p1).toList == (p2).toList)) != (sameFr f g l m))) rfl rfl (by kernel_rfl) True.intro (Ev.at (i := 7) (by kernel_rfl) (by kernel_rfl) rfl) (fun hp => (Ev.at (i := 22) (by kernel_rfl) (by kernel_rfl) (fe rfl (gd_t (not_t hp)))))
    intro o vs w5 hB hf
    have e0 : vs 0 = .agg (fc f) := hf 0 (by decide)
    have e1 : vs 1 = .agg (fc g) := hf 1 (by decide)
    have e2 : vs 2 = .bool (sameFr f g l m) := hf 2 (by decide)
    have e3 : vs 3 = .agg (fc f) := hf 3 (by decide)
    have e4 : vs 4 = .agg (fc g) := hf 4 (by decide)
    have e5 : vs 5 = .bool (sameFr f g l m) := hf 5 (by decide)
    have e6 : vs 6 = .bool ((sameFr f g l m) != (sameFr f g l m)) := hf 6 (by decide)
    have e7 : vs 7 = .bool ((sameFr f g l m) != (sameFr f g l m)) := hf 7 (by decide)
    have e8 : vs 8 = gd (!((sameFr f g l m) != (sameFr f g l m))) (.int .i64 (r1)) := hf 8 (by decide)
    have e9 : vs 9 = gd (!((sameFr f g l m) != (sameFr f g l m))) (.bool (r1 == 0)) := hf 9 (by decide)
    have e10 : vs 10 = gd (!((sameFr f g l m) != (sameFr f g l m))) (.bool (r1 == 0)) := hf 10 (by decide)
    have e11 : vs 11 = gd ((!((sameFr f g l m) != (sameFr f g l m))) && (r1 == 0)) (.int .i64 (r2)) := hf 11 (by decide)
    have e12 : vs 12 = gd ((!((sameFr f g l m) != (sameFr f g l m))) && (r1 == 0)) (.bool (r2 == 0)) := hf 12 (by decide)
    have e13 : vs 13 = gd (!((sameFr f g l m) != (sameFr f g l m))) (.bool ((r1 == 0) && (r2 == 0))) := hf 13 (by decide)
    have e14 : vs 14 = gd (!((sameFr f g l m) != (sameFr f g l m))) (.bool ((r1 == 0) && (r2 == 0))) := hf 14 (by decide)
    have e15 : vs 15 = gd ((!((sameFr f g l m) != (sameFr f g l m))) && ((r1 == 0) && (r2 == 0))) (.string (p1)) := hf 15 (by decide)
    have e16 : vs 16 = gd ((!((sameFr f g l m) != (sameFr f g l m))) && ((r1 == 0) && (r2 == 0))) (.string (p2)) := hf 16 (by decide)
    have e17 : vs 17 = gd ((!((sameFr f g l m) != (sameFr f g l m))) && ((r1 == 0) && (r2 == 0))) (.bool (((p1).toList == (p2).toList))) := hf 17 (by decide)
    have e18 : vs 18 = gd ((!((sameFr f g l m) != (sameFr f g l m))) && ((r1 == 0) && (r2 == 0))) (.agg (fc f)) := hf 18 (by decide)
    have e19 : vs 19 = gd ((!((sameFr f g l m) != (sameFr f g l m))) && ((r1 == 0) && (r2 == 0))) (.agg (fc g)) := hf 19 (by decide)
    have e20 : vs 20 = gd ((!((sameFr f g l m) != (sameFr f g l m))) && ((r1 == 0) && (r2 == 0))) (.bool (sameFr f g l m)) := hf 20 (by decide)
    have e21 : vs 21 = gd ((!((sameFr f g l m) != (sameFr f g l m))) && ((r1 == 0) && (r2 == 0))) (.bool ((((p1).toList == (p2).toList)) != (sameFr f g l m))) := hf 21 (by decide)
    have e22 : vs 22 = gd (!((sameFr f g l m) != (sameFr f g l m))) (.bool (((r1 == 0) && (r2 == 0)) && ((((p1).toList == (p2).toList)) != (sameFr f g l m)))) := hf 22 (by decide)
    have e23 : vs 23 = .bool (((sameFr f g l m) != (sameFr f g l m)) || (((r1 == 0) && (r2 == 0)) && ((((p1).toList == (p2).toList)) != (sameFr f g l m)))) := hf 23 (by decide)
    obtain ⟨z, hz⟩ : ∃ z, (((sameFr f g l m) != (sameFr f g l m)) || (((r1 == 0) && (r2 == 0)) && ((((p1).toList == (p2).toList)) != (sameFr f g l m)))) = z := ⟨_, rfl⟩
    rw [hz] at e23
    simp only [fill, List.setIfInBounds_toArray, List.set_cons_zero, List.set_cons_succ, e0, e1, e2, e3, e4, e5, e6, e7, e8, e9, e10, e11, e12, e13, e14, e15, e16, e17, e18, e19, e20, e21, e22, e23]
    have hz0 : z = false := by
      rw [← hz]
      by_cases z1 : r1 = 0
      · by_cases z2 : r2 = 0
        · rw [HTELL.out z1 z2]; simp
        · simp [z2]
      · simp [z1]
    subst hz0
    have HV5 := hid (HV4.out.keep hB)
    have HX5 := hid (heap_keep HX4.out hB)
    have HE5 := hid (below_next HE4.out hB)
    clear HF4 HG4 HX4 HV4 HW4 HE4 hB hf hz e0 e1 e2 e3 e4 e5 e6 e7 e8 e9 e10 e11 e12 e13 e14 e15 e16 e17 e18 e19 e20 e21 e22 e23
    clear HTELL HPG
    cases hm : mayF f l with
    | false =>
      have hp := HPF.out
      unfold putF at hp
      rw [hm, if_neg (by decide)] at hp
      have z2 : r1 = 2 := (congrArg Prod.snd hp).symm
      subst z2
      clear hp hm
      go_wp2_with (first
        | (go_at_call 7; (with_reducible refine (law_head _).mono ?_); rintro e w6 ⟨rfl, hB6⟩; have HB6 := hid hB6; clear hB6))
      go_ret
      exact ⟨rfl, below_next HE5.out HB6.out⟩
    | true =>
      have hp := HPF.out
      unfold putF at hp
      rw [hm, if_pos rfl] at hp
      have z1 : Crc.sealed (encF f l) = ps := congrArg Prod.fst hp
      have z2 : r1 = 0 := (congrArg Prod.snd hp).symm
      subst z2
      obtain ⟨N, hXs⟩ : ∃ N, p1.size = N := ⟨_, rfl⟩
      have hXl : p1.data.toList = Crc.sealed (encF f l) := by rw [← HQ1.out, ba_list, z1]
      have hseal : Crc.isSealed p1.data.toList = true := by rw [hXl, Crc.isSealed_sealed]
      have hNN : N = (encF f l).length + 4 := by
        rw [← hXs, ← Crc.sealed_length, ← hXl]; simp
      have hlF := encF_len HOF.out HV5.out.all hm
      have hNl : 4 ≤ N ∧ N ≤ 1000000 := by omega
      have s1 : ((p1.size : Int) == 0) = false := by rw [hXs]; simp; omega
      have s2 : decide (0 < p1.size) = true := decide_eq_true (by omega)
      have s3 : decide ((0 : Int) < (p1.size : Int)) = true := decide_eq_true (by omega)
      have c0 : w5.cell? ⟨w.heap.size + 1 + 1, 0, none⟩ = some (.int .u32 (a : Int)) := (cells2 HX5.out).1
      have c1 : w5.cell? ⟨w.heap.size + 1 + 1, 1, none⟩ = some (.int .u32 (n : Int)) := (cells2 HX5.out).2
      have HC0 := hid c0
      have HC1 := hid c1
      have HXs := hid hXs
      have HSEAL := hid hseal
      clear hp hm z1 hXl hNN hlF HQ1 hXs hseal HPF
      by_cases hz : n = 0
      · have c1z : w5.cell? ⟨w.heap.size + 1 + 1, 1, none⟩ = some (.int .u32 0) := by rw [c1, hz]; rfl
        clear c1 hz
        go_wp2_with (first
          | (go_at_call 7; (with_reducible refine (law_head _).mono ?_); rintro e w6 ⟨rfl, hB6⟩; have HB6 := hid hB6; clear hB6))
        go_ret
        exact ⟨rfl, below_next HE5.out HB6.out⟩
      · have hz' : ((n : Int) == 0) = false := by simp; omega
        have HNZ := hid hz
        obtain ⟨k, hk⟩ : ∃ k : Nat, (k : Int) = (a : Int) % (8 * (N : Int) - 31) := ⟨((a : Int) % (8 * (N : Int) - 31)).toNat, Int.toNat_of_nonneg (Int.emod_nonneg _ (by omega))⟩
        have hkl : k + 31 < 8 * N := by have := Int.emod_lt_of_pos (a : Int) (show (0 : Int) < 8 * (N : Int) - 31 by omega); omega
        have hconv : ∀ w : World, (convert 9 42 (.string p1)).run Try.prog w = .ok (.slice (some ⟨w.heap.size, 0, none⟩) N (grownCap w N 0 5))
            (w.drew.alloc (.cells (bytesRow p1 (grownCap w N 0 5)) 5 ((bytesRow p1 (grownCap w N 0 5)).size, (bytesRow p1 (grownCap w N 0 5)).size + 1))) := fun w => by
          have e := HXs.out
          rw [← e]; exact run_bytes_of_string w 9 42 5 p1 Try.underlying9 Try.underlying42 Try.underlying5
        have hk2 : (a : Int).tmod (8 * (N : Int) - 31) = (k : Int) := by rw [Int.tmod_eq_emod_of_nonneg (by omega)]; exact hk.symm
        have uw : IntKind.i64.wrap (a : Int) = (a : Int) := by simp [IntKind.wrap, IntKind.bits, IntKind.signed]; omega
        have hdz : (8 * (N : Int) - 31 == 0) = false := by simp; omega

        clear hk hz
        go_upto_region 10 with (fail)
        have hb6 := below_next (below_al w5 (.cells (bytesRow p1 (grownCap w5 N 0 5)) 5 ((bytesRow p1 (grownCap w5 N 0 5)).size, (bytesRow p1 (grownCap w5 N 0 5)).size + 1))) (below_dr _)
        have HB6 := hid (show Below w5.heap.size w5 (w5.alloc (.cells (bytesRow p1 (grownCap w5 N 0 5)) 5 ((bytesRow p1 (grownCap w5 N 0 5)).size, (bytesRow p1 (grownCap w5 N 0 5)).size + 1))).drew from hb6)
        have HBY := hid (show S.BytesAt (w5.alloc (.cells (bytesRow p1 (grownCap w5 N 0 5)) 5 ((bytesRow p1 (grownCap w5 N 0 5)).size, (bytesRow p1 (grownCap w5 N 0 5)).size + 1))).drew w5.heap.size p1.data.toList from S.BytesAt.made w5 p1 _)
        generalize (w5.alloc (.cells (bytesRow p1 (grownCap w5 N 0 5)) 5 ((bytesRow p1 (grownCap w5 N 0 5)).size, (bytesRow p1 (grownCap w5 N 0 5)).size + 1))).drew = w6 at HB6 HBY ⊢
        have d0 := cell_keep HB6.out HC0.out
        clear hb6 c0 c1 hconv
        go_upto_region 12 with (fail)
        clear d0 hz' hk2 uw hdz HC0 s1 s2 s3
        go_loopw [13] (fun i wr => ∃ j q : Nat, j ≤ 32 ∧ i = .int .i64 j ∧ q = n % 2 ^ j ∧ S.BurstAt w5 wr w5.heap.size p1 N k j q) (fun i _ => 32 - (intOf i).toNat)
        case atStart => exact ⟨0, 0, by omega, rfl, by simp; omega, p1.data.toList, by rw [← HXs.out]; simp, by simp, HBY.out, HB6.out, Nat.le_refl _, by omega⟩
        case round =>
          obtain ⟨i, q, hi, rfl, hqn, hB⟩ := hrel
          have HQN := hid hqn
          clear hqn
          have d1 : wr.cell? ⟨w.heap.size + 1 + 1, 1, none⟩ = some (.int .u32 (n : Int)) := by
            obtain ⟨_, _, _, _, hbb, _⟩ := hB
            exact cell_keep hbb HC1.out
          by_cases hlt : i < 32
          · by_cases hbit : n / 2 ^ i % 2 = 1
            · have ht : ((n : Int) / 2 ^ i).tmod 2 = 1 := S.bit_one n i hbit
              have hin : k + i < 8 * N := by omega
              have HNEXT := hid (bits_next q HQN.out hbit)
              obtain ⟨bl, hll, hnum, hby, hbe, hg, hq⟩ := hB
              have hj : (k + i) / 8 < bl.length := by omega
              have hcell := hby.cell _ hj
              have hfree := hby.free _ hj
              have hnext := S.burst_turn hll hnum hby hbe hg hq hin hj
              have HNx := hid hnext
              clear hnum hll hnext
              go_wp2_with fail
              go_roundw
              case rel => exact ⟨i + 1, q + 2 ^ i, by omega, by go_num, HNEXT.out, HNx.out⟩
              case measure => simp [intOf]; omega
            · have ht : ((n : Int) / 2 ^ i).tmod 2 = 0 := S.bit_zero n i hbit
              have HNEXT := hid (bits_stay q HQN.out hbit)
              go_wp2_with fail
              go_roundw
              case rel => exact ⟨i + 1, q, by omega, by go_num, HNEXT.out, S.burst_stay hB⟩
              case measure => simp [intOf]; omega
          · have : i = 32 := by omega
            subst this
            have hq0 : q ≠ 0 := by
              have := HQN.out
              rw [Nat.mod_eq_of_lt (by omega)] at this
              have := HNZ.out
              omega
            obtain ⟨Y, hcv, hYs, hYn, hbe⟩ := burst_gone hB HSEAL.out HXs.out (by omega) hNl.1 hNl.2 hq0 (grownCap w5 N 0 5)
            have hget := fun W => frame_Get Y hYs W
            have HYN := hid hYn
            have HBE := hid (below_next HE5.out hbe)
            clear hB hYn hYs hbe hq0
            go_wp2_with (first
              | (go_at_call 12; (with_reducible refine (hget _).mono ?_); rintro e w7 ⟨f', l', ee, rfl, hg, hv', hB7⟩; obtain rfl := gets_none hg HYN.out; have HONE := hid (oneF f' hv'.one); have HB7 := hid hB7; clear hg hv' hB7 hget)
              | (refine wpList_store_row rfl _ _ _ rfl w7.heap.size (fc f') rfl rfl 27 (fc zeroF) ?_ (frSize _) rfl HONE.out ?_; (focus exact heap_alloc_last' _ _))
              | (go_at_call 7; (with_reducible refine (law_head _).mono ?_); rintro e w8 ⟨rfl, hB8⟩; have HB8 := hid hB8; clear hB8))
            go_ret
            exact ⟨rfl, below_next HBE.out (below_next HB7.out (below_next (below_new w7 _ _ _) HB8.out))⟩
end Go.Proofs.Ytagjgknkkbkjgaa.V
