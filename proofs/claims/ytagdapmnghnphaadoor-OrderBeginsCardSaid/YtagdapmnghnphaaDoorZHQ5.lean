/-
  The law OrderBegins.
-/
import Derived.Test.YtagdapmnghnphaaDoorZHQB
namespace Go.Proofs.YtagdapmnghnphaaDoor.V
set_option linter.unusedVariables false
set_option linter.unusedSimpArgs false
set_option maxRecDepth 100000
open Go Go.RowKit Go.Maps Wire

theorem conv_u64 (n : Nat) (h : n ≤ 100000) (w : World) : (convert 3 31 (.int .i64 (n : Int))).run Tryd.prog w = .ok (.int .u64 (n : Int)) w := by
  have e : IntKind.u64.wrap (n : Int) = (n : Int) := by rw [wrap_u64]; omega
  go_simp
theorem hist0 {w : World} {p : Option Addr} {n cp : Nat} {l : List OC} (h : IsOps w p n cp l) {k : Nat} (hk : k ≤ n) (hT : Tab w) {nr : Int} (hm : histM nr (l.take k) = 0) (hn : n ≤ 100000) :
    Calls Tryd.prog 25 #[.slice p k cp, .int .i64 nr] w fun e w' => e = .returned (.int .i64 0) ∧ Below w.heap.size w w' := by
  have h1 := order_History (.slice p k cp) (l.take k) nr w (h.begin hk) hT (by rw [List.length_take]; omega)
  rw [hm] at h1
  exact h1
set_option maxHeartbeats 600000 in
theorem law_OrderBegins (v : Value) (l : List OC) (nr : Int) (at8 : Int) (W0 : World) (hv : OpsV W0 v l) (hT : Tab W0) (hsz : ∀ x ∈ l, x.2.length ≤ 8796093022208) (hat : (Lit.int .u8 at8).wf = true) :
    Calls Tryd.prog 5 #[v, .int .i64 nr, .int .u8 at8] W0 fun e w' => e = .returned (.bool true) ∧ Below W0.heap.size W0 w' := by
  have hgr := ref_Great v l W0 hv hsz
  have hhead := fun W (hb : Below W0.heap.size W0 W) => law_head W (hT.keep hb)
  obtain ⟨a, n, cp, rfl, hI⟩ := hv
  have HN := hid (show n = l.length from hI.1.symm)
  have hm' : n ≤ 9223372036854775807 := Nat.le_trans hI.2.1 hI.2.2.1
  have HI := hid hI
  have HH := hid hhead
  have HT := hid hT
  have hat2 : 0 ≤ at8 ∧ at8 ≤ 255 := by simpa [Lit.wf, IntKind.min, IntKind.max, IntKind.signed, IntKind.bits] using hat
  obtain ⟨m, rfl⟩ : ∃ m : Nat, at8 = m := ⟨at8.toNat, by omega⟩
  have hm8 : m ≤ 255 := by omega
  clear hI hhead hT hsz hat hat2
  cases hgb : greatM l
  · obtain ⟨h80, h300⟩ := great_not hgb
    have hhi := order_History (.slice a n cp) l nr W0 ⟨a, n, cp, rfl, HI.out⟩ HT.out (by omega)
    rw [hgb] at hgr
    by_cases hm : histM nr l = 0
    · have HP := hid (histM_zero.1 hm)
      have HL := hid (And.intro h80 h300)
      rw [hm] at hhi
      clear hgb h80 h300 hm
      go_enter Tryd.func5, Tryd.ntmps5
      go_upto_region 3 with (first
        | (go_at_call 8; refine hgr.mono ?_; rintro e w1 ⟨rfl, hw⟩; have hw2 := hw.symm; clear hw; subst hw2)
        | (go_at_call 25; refine hhi.mono ?_; rintro e w2 ⟨rfl, hb⟩; have HB0 := hid hb; clear hb))
      clear hgr hhi
      have hsort := order_Sort (.slice a n cp) l w2 ⟨a, n, cp, rfl, HI.out.keep HB0.out⟩ (by have := HL.out.1; omega) (fun z hz => Nat.le_trans (HL.out.2 z hz) (by omega))
      have hn80 : n ≤ 80 := by rw [HN.out]; exact HL.out.1
      have w1 : wrap64 ((n : Int) - 1) = (n : Int) - 1 := w64 (by omega) (by omega)
      have w1' : IntKind.i64.wrap ((n : Int) - 1) = (n : Int) - 1 := i64w (by omega) (by omega)
      go_upto_region 5 with (first
        | (go_at_call 19; refine hsort.mono ?_; rintro e w3 ⟨us, s, s', rfl, hos, hso, hsc, hb⟩; have HS := hid (And.intro hos.opsV (And.intro hso (And.intro hsc (below_next HB0.out hb)))); clear hos hso hsc hb hsort))
      have HI3 := hid (HI.out.keep HS.out.2.2.2)
      clear HB0
      go_wp2
      clear w1 w1'
      go_loopw [8, 9] (fun u i wr => ∃ (k : Nat) (z : Int), k ≤ n ∧ z = (k : Int) - 1 ∧ i = .int .i64 z ∧ Hid (OwnO w3.heap.size wr u (l.drop k).reverse) ∧ Hid (Below w3.heap.size w3 wr)) (fun _ i _ => (intOf i + 1).toNat)
      case atStart => exact ⟨n, (n : Int) - 1, Nat.le_refl _, rfl, rfl, hid (by rw [List.drop_eq_nil_of_le (by rw [HN.out]; exact Nat.le_refl _)]; exact OwnO.nil _ _), hid (Below.refl _ _)⟩
      case round =>
        obtain ⟨k, z, hk, hz, rfl, HO, HBR⟩ := hrel
        obtain ⟨pu, cu, hform⟩ := HO.out.form
        subst hform
        cases k with
        | succ j =>
          obtain rfl : z = (j : Int) := by omega
          have hlt : j < n := by omega
          cases a with
          | none => have := HI.out.none_len; omega
          | some ad =>
            obtain ⟨o, cl', hx, hok, hcl, hin⟩ := (HI3.out.keep HBR.out).at j hlt
            have HCL3 := hid ((HI3.out.2.2.2.1 _ (List.mem_of_getElem? hx)).2.below (Nat.le_refl _))
            have HX := hid (And.intro hin hok)
            have HST := hid (turn_step hx)
            have hone := hcl.oneCell
            have h0 : (0 : Int) ≤ (j : Int) := by omega
            have h1 : (j : Int) < (n : Int) := by omega
            have w1 : wrap64 ((j : Int) - 1) = (j : Int) - 1 := w64 (by omega) (by omega)
            have w1' : IntKind.i64.wrap ((j : Int) - 1) = (j : Int) - 1 := i64w (by omega) (by omega)
            have HLE := hid (show ((l.drop (j + 1)).reverse).length ≤ 1000 by rw [List.length_reverse, List.length_drop]; have := HL.out.1; omega)
            have hwr : w3.heap.size ≤ wr.heap.size := HBR.out.size
            clear hx hcl hin hok hz
            generalize (l.drop (j + 1)).reverse = r0 at HO HLE HST ⊢
            go_wp2_with (first
              | (refine load_opIn _ rfl rfl (ad.add (j * 29)) rfl o HX.out.1 ?_)
              | (refine build_op rfl _ rfl o rfl ?_)
              | (refine wpList_push rfl _ _ rfl w3.heap.size wr _ r0 rfl HO.out hwr (below_al _ _) wr.heap.size (o, cl') rfl (heap_alloc_last' _ _) HX.out.2 (HCL3.out.keep (Nat.le_refl _) (below_next HBR.out (below_al _ _))) (Nat.le_trans HLE.out (by omega)) ?_; intro p3 c3 w4 hP; have HP3 := hid hP; clear hP))
            go_roundw
            case rel => exact ⟨j, (j : Int) - 1, by omega, rfl, rfl, hid (by rw [HST.out]; exact HP3.out.own), hid (HP3.out.below _ (below_next HBR.out (below_al _ _)))⟩
            case measure => show ((j : Int) - 1 + 1).toNat < ((j : Int) + 1).toNat; omega
        | zero =>
          obtain rfl : z = -1 := by omega
          rw [List.drop_zero] at HO ⊢
          have HTn := hid HO.out.opsV
          have hsortT := order_Sort (.slice pu l.reverse.length cu) l.reverse wr HTn.out (by rw [List.length_reverse]; have := HL.out.1; omega) (fun z hz => Nat.le_trans (HL.out.2 z (List.mem_reverse.1 hz)) (by omega))
          obtain ⟨ps, ns, cs, hus, hIs⟩ := HS.out.1
          subst hus
          have HIS := hid hIs
          have HSo := hid (And.intro HS.out.2.1 HS.out.2.2.1)
          have HW3 := hid HS.out.2.2.2
          clear HS hIs hz hk
          have hlr : l.reverse.length = n := by rw [List.length_reverse, HN.out]
          simp only [hlr] at hsortT ⊢
          have HTN := hid (show OpsV wr (.slice pu n cu) l.reverse from hlr ▸ HTn.out)
          clear HTn HO hlr
          obtain ⟨l', hl'⟩ : ∃ l', l' = l.reverse := ⟨_, rfl⟩
          rw [← hl'] at hsortT HTN
          have HLR := hid hl'
          clear hl'
          have HWR := hid (below_next HW3.out HBR.out)
          have hns : ns = n := by
            rw [← HIS.out.1, len_core HSo.out.2, HSo.out.1.length HP.out.is.1, HN.out]
          subst hns
          go_upto_region 11 with (first
            | (go_at_call 19; refine hsortT.mono ?_; rintro e w4 ⟨ut, t, t', rfl, hot, hto, htc, hb⟩; have HTS := hid (And.intro hot.opsV (And.intro hto (And.intro htc hb))); have hsame := law_same ut (.slice ps ns cs) t' s' w4 hot.opsV ⟨ps, ns, cs, rfl, HIS.out.keep (below_next HBR.out hb)⟩ (begins_math HP.out HSo.out.1 HSo.out.2 (HLR.out ▸ hto) htc).2.1; clear hot hto htc hb hsortT)
            | (go_at_call 18; refine hsame.mono ?_; rintro e w5 ⟨rfl, hb⟩; have HB5 := hid (below_next HTS.out.2.2.2 hb); have hht := order_History (.slice pu ns cu) l' nr w5 (HTN.out.keep HB5.out) (HT.out.keep (below_next HWR.out HB5.out)) (by rw [HLR.out, List.length_reverse]; have := HL.out.1; omega); rw [show histM nr l' = 0 by rw [HLR.out]; exact (begins_math HP.out HSo.out.1 HSo.out.2 (HLR.out ▸ HTS.out.2.1) HTS.out.2.2.1).2.2.1] at hht; clear hb hsame)
            | (go_at_call 25; refine hht.mono ?_; rintro e w6 ⟨rfl, hb⟩; have HB6 := hid (below_next HB5.out hb); have hkn := order_Known (.slice pu ns cu) l' w6 (HTN.out.keep HB6.out); rw [show knownM l' = knownM l by rw [HLR.out]; exact known_of_mem fun x => List.mem_reverse] at hkn; clear hb hht)
            | (go_at_call 23; first
              | (refine hkn.mono ?_; rintro e w7 ⟨rfl, hb⟩; have HB7 := hid (below_next HB6.out hb); have hkl := order_Known (.slice a ns cp) l w7 ⟨a, ns, cp, rfl, HI3.out.keep (below_next HBR.out HB7.out)⟩; clear hb hkn)
              | (refine hkl.mono ?_; rintro e w8 ⟨rfl, hb⟩; have HB8 := hid (below_next HBR.out (below_next HB7.out hb)); clear hb hkl))
            | (refine bin_any _ _ _ _ _ rfl rfl (.agg (vc (knownM l))) (.agg (vc (knownM l))) _ rfl rfl (neq_same _ _ _ _) ?_))
          have HSL0 := hid (show ∀ z ∈ s', z.2.length ≤ 1000 from lens_core HSo.out.2 (fun q hq => Nat.le_trans (HL.out.2 q ((HSo.out.1.of_nodup HP.out.is.1 q).1 hq)) (by omega)))
          have HF := hid (show (∀ k, histM nr (s'.take k) = 0) ∧ ∀ k, (cutM s' (knownM (s'.take k))).map core = (s'.take k).map core from (begins_math HP.out HSo.out.1 HSo.out.2 (HLR.out ▸ HTS.out.2.1) HTS.out.2.2.1).2.2.2.2)
          have HCT := hid HP.out.count
          clear HTS HB5 HB6 HB7 HTN HSo HLR HBR HWR
          obtain ⟨kk, hkk⟩ : ∃ kk : Nat, kk = if 0 < ns then m % (ns + 1) else 0 := ⟨_, rfl⟩
          have hkl : kk ≤ ns := by
            rw [hkk]
            by_cases h0 : 0 < ns
            · rw [if_pos h0]; have := Nat.mod_lt m (show 0 < ns + 1 by omega); omega
            · rw [if_neg h0]; omega
          have HKK := hid hkk
          clear hkk
          go_upto_if 66 with fail
          go_cut [10] from 64 to 72 (fun v wx => v = .int .i64 (kk : Int) ∧ Hid (Below w3.heap.size w3 wx))
          case first =>
            by_cases h0 : 0 < ns
            · have h1 : (0 : Int) < (ns : Int) := by omega
              have h2 : decide ((0 : Int) < (ns : Int)) = true := decide_eq_true h1
              have e1 : wrap64 ((ns : Int) + 1) = ((ns + 1 : Nat) : Int) := by rw [w64 (by omega) (by omega)]; omega
              have e2 : IntKind.i64.wrap ((ns : Int) + 1) = ((ns + 1 : Nat) : Int) := by rw [i64w (by omega) (by omega)]; omega
              have e3 : wrap64 (m : Int) = (m : Int) := w64 (by omega) (by omega)
              have e4 : IntKind.i64.wrap (m : Int) = (m : Int) := i64w (by omega) (by omega)
              have e5 : (m : Int).tmod ((ns + 1 : Nat) : Int) = (kk : Int) := by
                rw [HKK.out, if_pos h0]
                exact (Int.ofNat_tmod m (ns + 1)).symm
              have e6 : (m : Int).tmod ((ns : Int) + 1) = (kk : Int) := by
                rw [← e5]; congr 1
              have e7 : wrap64 (kk : Int) = (kk : Int) := w64 (by omega) (by omega)
              have e8 : IntKind.i64.wrap (kk : Int) = (kk : Int) := i64w (by omega) (by omega)
              go_wp2_with fail
              all_goals go_meet
              all_goals exact ⟨rfl, HB8⟩
            · obtain rfl : ns = 0 := by omega
              obtain rfl : kk = 0 := by omega
              go_wp2_with fail
              all_goals go_meet
              all_goals exact ⟨rfl, HB8⟩
          case rest =>
          obtain ⟨rfl, HC0⟩ := hcut
          have hkn := order_Known (.slice a ns cp) l wc ⟨a, ns, cp, rfl, HI3.out.keep HC0.out⟩
          clear HB8
          go_upto_region 16 with (first
            | (go_at_call 23; refine hkn.mono ?_; rintro e w9 ⟨rfl, hb⟩; have HB9 := hid (below_next HC0.out hb); clear hb hkn)
            | (refine wpList_store_row rfl _ (.tmp 12) (.tmp 74) rfl w9.heap.size (vc (knownM l)) rfl rfl 25 (vc zeroV) (heap_alloc_last' _ _) (sizeV _) rfl (oneVc _) ?_; rw [World.setRow_alloc_new]))
          refine gen_code (fun W => W.heap[w9.heap.size]? = some (.cells (vc (knownM l)) 25 (0, 0)) ∧ Below w3.heap.size w3 W) ⟨heap_alloc_last' _ _, below_next HB9.out (below_al _ _)⟩ ?_
          generalize w9.heap.size = g
          have hsum := HCT.out
          rw [← psum8, ← HN.out] at hsum
          generalize knownM l = kv at hsum ⊢
          have HSUM := hid hsum
          clear hsum HB9 HC0
          rintro W10 h10
          have HR := hid h10
          clear h10
          go_wp2
          go_loopw [11, 13] (fun sv i wr => ∃ r : Nat, r ≤ 8 ∧ i = .int .i64 (r : Nat) ∧ sv = .int .u64 ((psum kv r : Nat) : Int) ∧ Hid (wr.heap[g]? = some (.cells (vc kv) 25 (0, 0)) ∧ Below w3.heap.size w3 wr)) (fun _ i _ => 8 - (intOf i).toNat)
          case atStart => exact ⟨0, by omega, rfl, rfl, HR⟩
          case round =>
            clear HR
            obtain ⟨r, hr, rfl, rfl, HR⟩ := hrel
            by_cases hlt : r < 8
            · have h1 : (r : Int) < 8 := by omega
              have c0 := cellV HR.out.1 hlt
              have hp1 : psum kv (r + 1) ≤ 80 := Nat.le_trans (psum_le kv hlt) (by rw [HSUM.out]; exact hn80)
              have hp2 : psum kv (r + 1) = psum kv r + kv r := rfl
              generalize psum kv r = p0 at hp2 ⊢
              generalize hkr : kv r = q0 at hp2 c0
              have e1 : IntKind.u64.wrap (q0 : Int) = (q0 : Int) := by rw [wrap_u64]; omega
              have e2 : IntKind.u64.wrap ((p0 : Int) + (q0 : Int)) = ((psum kv (r + 1) : Nat) : Int) := by rw [wrap_u64, hp2]; omega
              clear hp1 hp2 hkr
              go_wp2
              go_roundw
              case rel => exact ⟨r + 1, by omega, by go_num, rfl, HR⟩
              case measure => exact meas1 hlt
            · obtain rfl : r = 8 := by omega
              rw [HSUM.out]
              have HCW := hid (below_dr wr)
              have HSL := hid (show ∀ z ∈ s', z.2.length ≤ 1000 from HSL0.out)
              go_upto_region 20 with (fail)
              refine wp_flow (fun _ => none) (Fa.eq (.slice ps ns cs) :: Fa.eq (.int .i64 (kk : Int)) :: Fa.eq (.slice ps kk cs) :: Fa.eq (.int .i64 nr) :: Fa.eq (.int .i64 0) :: Fa.eq (.bool true) :: Fa.eq (.bool true) :: Fa.eq (.int .u64 (ns : Int)) :: Fa.eq (.slice a ns cp) :: Fa.eq (.int .i64 (ns : Int)) :: Fa.eq (.int .u64 (ns : Int)) :: Fa.eq (.bool true) :: Fa.eq (.bool true) :: Fa.eq (.bool true) :: Fa.eq (.slice ps ns cs) :: Fa.eq (.slice ps ns cs) :: Fa.eq (.int .i64 (kk : Int)) :: Fa.eq (.slice ps kk cs) :: Fa.eq (.agg (vc (knownM (s'.take kk)))) :: Fa.dep (RowAs (cutM s' (knownM (s'.take kk)))) :: Fa.eq (.slice ps ns cs) :: Fa.eq (.int .i64 (kk : Int)) :: Fa.eq (.slice ps kk cs) :: Fa.eq (.bool true) :: Fa.eq (.bool true) :: Fa.eq (.bool true) :: Fa.eq (.bool true) :: Fa.eq (.bool true) :: Fa.eq (.bool true) :: []) 113 (by kernel_rfl) rfl (by kernel_rfl) rfl (by kernel_rfl) ?_ ?_ ?_
              · exact ⟨trivial, trivial, trivial, trivial, trivial, trivial, trivial, trivial, trivial, trivial, trivial, trivial, trivial, trivial, trivial, trivial, trivial, trivial, trivial, ⟨fun _ => rfl, fun _ _ _ hb h => RowAs.keep h hb⟩, trivial, trivial, trivial, trivial, trivial, trivial, trivial, trivial, trivial, trivial⟩
              · refine ⟨?_, ?_, ?_, ?_, ?_, ?_, ?_, ?_, ?_, ?_, ?_, ?_, ?_, ?_, ?_, ?_, ?_, ?_, ?_, ?_, ?_, ?_, ?_, ?_, ?_, ?_, ?_, ?_, ?_, trivial⟩
                · exact v_move (.inl rfl) rfl (by kernel_rfl) True.intro (Ev.out (by kernel_rfl) rfl)
                · exact v_move (.inl rfl) rfl (by kernel_rfl) True.intro (Ev.out (by kernel_rfl) rfl)
                · exact v_sl (u := .slice ps ns cs) (z := .int .i64 (kk : Int)) (c := .slice ps kk cs) rfl (fun w => sl_ops ps ns cs kk hkl HIS.out.2.1 HIS.out.2.2.1 HIS.out.cap0 w) rfl (by kernel_rfl) True.intro (Ev.at (i := 0) (by kernel_rfl) (by kernel_rfl) rfl) (Ev.at (i := 1) (by kernel_rfl) (by kernel_rfl) rfl)
                · exact v_move (.inl rfl) rfl (by kernel_rfl) True.intro (Ev.out (by kernel_rfl) rfl)
                · exact v_call (vs := #[.slice ps kk cs, .int .i64 nr]) (c := .int .i64 0) rfl (fun args w => rfl) (fun w hB => hist0 (HIS.out.keep (below_next HR.out.2 (below_next HCW.out hB))) hkl (HT.out.keep (below_next HW3.out (below_next HR.out.2 (below_next HCW.out hB)))) (HF.out.1 kk) (by omega)) rfl (by kernel_rfl) True.intro (ev2 (Ev.at (i := 2) (by kernel_rfl) (by kernel_rfl) rfl) (Ev.at (i := 3) (by kernel_rfl) (by kernel_rfl) rfl))
                · exact v_bin (u := .int .i64 (0)) (v := .int .i64 (0)) (c := .bool true) rfl (fun w => (by go_simp)) rfl (by kernel_rfl) True.intro (Ev.at (i := 4) (by kernel_rfl) (by kernel_rfl) rfl) Ev.const
                · exact v_move (.inl rfl) rfl (by kernel_rfl) True.intro (Ev.at (i := 5) (by kernel_rfl) (by kernel_rfl) rfl)
                · exact v_move (.inl rfl) rfl (by kernel_rfl) ⟨rfl, (by kernel_rfl), (by kernel_rfl)⟩ (Ev.out (by kernel_rfl) rfl)
                · exact v_move (.inl rfl) rfl (by kernel_rfl) ⟨rfl, (by kernel_rfl), (by kernel_rfl)⟩ (Ev.out (by kernel_rfl) rfl)
                · exact v_len (u := .slice a ns cp) (c := .int .i64 (ns : Int)) rfl (fun w => len_ops _ _ _ _ w) rfl (by kernel_rfl) ⟨rfl, (by kernel_rfl), (by kernel_rfl)⟩ (Ev.at (i := 8) (by kernel_rfl) (by kernel_rfl) rfl)
                · exact v_conv (u := .int .i64 (ns : Int)) (c := .int .u64 (ns : Int)) rfl (fun w hB => conv_u64 ns (by omega) w) rfl (by kernel_rfl) ⟨rfl, (by kernel_rfl), (by kernel_rfl)⟩ (Ev.at (i := 9) (by kernel_rfl) (by kernel_rfl) rfl)
                · exact v_bin (u := .int .u64 (ns : Int)) (v := .int .u64 (ns : Int)) (c := .bool true) rfl (fun w => (by go_simp)) rfl (by kernel_rfl) ⟨rfl, (by kernel_rfl), (by kernel_rfl)⟩ (Ev.at (i := 7) (by kernel_rfl) (by kernel_rfl) rfl) (Ev.at (i := 10) (by kernel_rfl) (by kernel_rfl) rfl)
                · exact v_and (p := true) (q := true) rfl rfl (by kernel_rfl) True.intro (Ev.at (i := 6) (by kernel_rfl) (by kernel_rfl) rfl) (fun hp => (Ev.at (i := 11) (by kernel_rfl) (by kernel_rfl) rfl))
                · exact v_move (.inl rfl) rfl (by kernel_rfl) True.intro (Ev.at (i := 12) (by kernel_rfl) (by kernel_rfl) rfl)
                · exact v_move (.inl rfl) rfl (by kernel_rfl) ⟨rfl, (by kernel_rfl), (by kernel_rfl)⟩ (Ev.out (by kernel_rfl) rfl)
                · exact v_move (.inl rfl) rfl (by kernel_rfl) ⟨rfl, (by kernel_rfl), (by kernel_rfl)⟩ (Ev.out (by kernel_rfl) rfl)
                · exact v_move (.inl rfl) rfl (by kernel_rfl) ⟨rfl, (by kernel_rfl), (by kernel_rfl)⟩ (Ev.out (by kernel_rfl) rfl)
                · exact v_sl (u := .slice ps ns cs) (z := .int .i64 (kk : Int)) (c := .slice ps kk cs) rfl (fun w => sl_ops ps ns cs kk hkl HIS.out.2.1 HIS.out.2.2.1 HIS.out.cap0 w) rfl (by kernel_rfl) ⟨rfl, (by kernel_rfl), (by kernel_rfl)⟩ (Ev.at (i := 15) (by kernel_rfl) (by kernel_rfl) rfl) (Ev.at (i := 16) (by kernel_rfl) (by kernel_rfl) rfl)
                · exact v_call (vs := #[.slice ps kk cs]) (c := .agg (vc (knownM (s'.take kk)))) rfl (fun args w => rfl) (fun w hB => order_Known (.slice ps kk cs) (s'.take kk) w (HIS.out.keep (below_next HR.out.2 (below_next HCW.out hB)) |>.begin hkl)) rfl (by kernel_rfl) ⟨rfl, (by kernel_rfl), (by kernel_rfl)⟩ (ev1 (Ev.at (i := 17) (by kernel_rfl) (by kernel_rfl) rfl))
                · exact v_callr2 (u := .slice ps ns cs) (v := .agg (vc (knownM (s'.take kk)))) rfl (fun args w => rfl) (fun w hB => cut_as (.slice ps ns cs) s' (knownM (s'.take kk)) w ⟨ps, ns, cs, rfl, HIS.out.keep (below_next HR.out.2 (below_next HCW.out hB))⟩ HSL.out (by have := HIS.out.1; omega)) rfl (by kernel_rfl) ⟨rfl, (by kernel_rfl), (by kernel_rfl)⟩ (Ev.at (i := 14) (by kernel_rfl) (by kernel_rfl) rfl) (Ev.at (i := 18) (by kernel_rfl) (by kernel_rfl) rfl)
                · exact v_move (.inl rfl) rfl (by kernel_rfl) ⟨rfl, (by kernel_rfl), (by kernel_rfl)⟩ (Ev.out (by kernel_rfl) rfl)
                · exact v_move (.inl rfl) rfl (by kernel_rfl) ⟨rfl, (by kernel_rfl), (by kernel_rfl)⟩ (Ev.out (by kernel_rfl) rfl)
                · exact v_sl (u := .slice ps ns cs) (z := .int .i64 (kk : Int)) (c := .slice ps kk cs) rfl (fun w => sl_ops ps ns cs kk hkl HIS.out.2.1 HIS.out.2.2.1 HIS.out.cap0 w) rfl (by kernel_rfl) ⟨rfl, (by kernel_rfl), (by kernel_rfl)⟩ (Ev.at (i := 20) (by kernel_rfl) (by kernel_rfl) rfl) (Ev.at (i := 21) (by kernel_rfl) (by kernel_rfl) rfl)
                · exact v_calle2 (p := RowAs (cutM s' (knownM (s'.take kk)))) (q := fun v w => v = .slice ps kk cs ∧ OpsV w v (s'.take kk)) (c := .bool true) rfl (fun args w => rfl) (fun v u w hB hp hq => same_as hp ⟨_, hq.2, rfl⟩ (HF.out.2 kk)) rfl (by kernel_rfl) ⟨rfl, (by kernel_rfl), (by kernel_rfl)⟩ (EvD.at (i := 19) (by kernel_rfl) (by kernel_rfl) rfl) (EvD.ev (Ev.at (i := 22) (by kernel_rfl) (by kernel_rfl) rfl) (fun w hB => ⟨rfl, HIS.out.keep (below_next HR.out.2 (below_next HCW.out hB)) |>.begin hkl⟩))
                · exact v_and (p := true) (q := true) rfl rfl (by kernel_rfl) True.intro (Ev.at (i := 13) (by kernel_rfl) (by kernel_rfl) rfl) (fun hp => (Ev.at (i := 23) (by kernel_rfl) (by kernel_rfl) rfl))
                · exact v_move (.inl rfl) rfl (by kernel_rfl) True.intro (Ev.at (i := 24) (by kernel_rfl) (by kernel_rfl) rfl)
                · exact v_call (vs := #[]) (c := .bool true) rfl (fun args w => rfl) (fun w hB => HH.out w (below_next HW3.out (below_next HR.out.2 (below_next HCW.out hB)))) rfl (by kernel_rfl) ⟨rfl, (by kernel_rfl), (by kernel_rfl)⟩ ev0
                · exact v_and (p := true) (q := true) rfl rfl (by kernel_rfl) True.intro (Ev.at (i := 25) (by kernel_rfl) (by kernel_rfl) rfl) (fun hp => (Ev.at (i := 26) (by kernel_rfl) (by kernel_rfl) rfl))
                · exact v_move (.inr rfl) rfl (by kernel_rfl) True.intro (Ev.at (i := 27) (by kernel_rfl) (by kernel_rfl) rfl)
              intro _ vs W2 hB2 hf
              have e28 : vs 28 = .bool true := hf 28 (by decide)
              simp only [fill, List.setIfInBounds_toArray, List.set_cons_zero, List.set_cons_succ, e28]
              have HE := hid (below_next HW3.out (below_next HR.out.2 hB2))
              clear hB2 hf
              go_wp2
              go_ret
              exact ⟨rfl, HE.out⟩
    · obtain ⟨m, hmE⟩ : ∃ m, m = histM nr l := ⟨_, rfl⟩
      rw [← hmE] at hhi hm
      have k1 : (m == 0) = false := by simpa using hm
      have k2 : (m != 0) = true := by simpa using hm
      have HMM := hid hmE
      clear hmE hgb h80 h300
      go_enter Tryd.func5, Tryd.ntmps5
      go_wp2_with (first
        | (go_at_call 8; refine hgr.mono ?_; rintro e w1 ⟨rfl, hw⟩; have hw2 := hw.symm; clear hw; subst hw2)
        | (go_at_call 25; refine hhi.mono ?_; rintro e w2 ⟨rfl, hb⟩; have hhd := HH.out _ hb; have HB0 := hid hb; clear hb)
        | (go_at_call 9; refine hhd.mono ?_; rintro e w3 ⟨rfl, hb⟩; have HE := hid (below_next HB0.out hb); clear hb))
      go_ret
      exact ⟨rfl, HE.out⟩
  · rw [hgb] at hgr
    have hhd := HH.out _ (Below.refl _ _)
    clear hgb
    go_enter Tryd.func5, Tryd.ntmps5
    go_wp2_with (first
      | (go_at_call 8; refine hgr.mono ?_; rintro e w1 ⟨rfl, hw⟩; have hw2 := hw.symm; clear hw; subst hw2)
      | (go_at_call 9; refine hhd.mono ?_; rintro e w3 ⟨rfl, hb⟩; have HE := hid hb; clear hb))
    go_ret
    exact ⟨rfl, HE.out⟩
end Go.Proofs.YtagdapmnghnphaaDoor.V
