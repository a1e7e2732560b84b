/-
  Sorting indices by a comparing method value: pattern-defeating quicksort.
-/
import Derived.Test.YtfnmekmgjcjglaaDoorYMJ
import Derived.Sort.LotD3
import Derived.Deep.LoopGhost
import Derived.Deep.CutRange
namespace Go.Proofs.YtfnmekmgjcjglaaDoor.V
set_option linter.unusedVariables false
set_option linter.unusedSimpArgs false
set_option maxRecDepth 1000000
open Go Go.RowKit Go.Maps Wire
set_option maxRecDepth 100000
set_option linter.unusedVariables false
set_option linter.unusedSimpArgs false
open Go.Sort (swp PermIn SortedIn SWO)
variable {w0 : World} {blk : Nat} {ok : Nat → Prop} {d : Array Nat} {W W' : World}
theorem permIn_list {a b : Nat} {d d' : Array Nat} (h : PermIn a b d d') (hb : b ≤ d.size) : d'.toList.Perm d.toList := by
  have h2 := (Go.Sort.permIn_mono d d' a b 0 d.size (Nat.zero_le _) hb (Nat.le_refl _) h)
  have h3 := h2.2.2
  have e1 : (d'.extract 0 d.size) = d' := by rw [← h2.1]; exact Array.extract_size
  have e2 : (d.extract 0 d.size) = d := Array.extract_size
  rw [e1, e2] at h3
  exact h3
theorem permIn_nodup {a b : Nat} {d d' : Array Nat} (h : PermIn a b d d') (hb : b ≤ d.size) (hn : d.toList.Nodup) : d'.toList.Nodup :=
  (permIn_list h hb).nodup_iff.2 hn
theorem gA_get {d : Array Nat} {i : Nat} (hi : i < d.size) : gA d i = d[i] := by unfold gA; exact getElem!_pos d i hi
theorem gA_inj {d : Array Nat} (hn : d.toList.Nodup) {i j : Nat} (hi : i < d.size) (hj : j < d.size) (h : gA d i = gA d j) : i = j := by
  rw [gA_get hi, gA_get hj] at h
  have e := List.getElem_inj (h₀ := (by simpa using hi : i < d.toList.length)) (h₁ := (by simpa using hj : j < d.toList.length)) hn
  exact e.1 (by simpa using h)
/-- What is asked of the order: strict and total on what stands there. -/
structure Str (ok : Nat → Prop) (c : Nat → Nat → Int) : Prop where
  swo : SWO (ltC c)
  tri : ∀ x y, ok x → ok y → ltC c x y = false → ltC c y x = false → x = y
theorem no_equal {c : Nat → Nat → Int} {a b p : Nat} (hO : Str ok c) (hs : Srt w0 blk ok d W) (hn : d.toList.Nodup) (hB : Go.Sort.Below (ltC c) a b d) (ha : 0 < a) (hap : a ≤ p) (hpb : p < b) (hb : b ≤ d.size) : ltC c (gA d (a - 1)) (gA d p) = true := by
  cases h : ltC c (gA d (a - 1)) (gA d p) with
  | true => rfl
  | false =>
    rcases hB with h0 | hB
    · omega
    · have := gA_inj hn (by omega) (by omega) (hO.tri _ _ (hs.ok _ (by omega)) (hs.ok _ (by omega)) h (hB p hap hpb))
      omega
set_option maxHeartbeats 8000000 in
theorem sort_pdq (recv : Value) (c : Nat → Nat → Int) (HC : Hid (CmpOK w0 recv ok c)) (HO : Hid (Str ok c)) (n cap : Nat) (hsz : n < 1000000000) : ∀ (m a b lim : Nat) (d0 : Array Nat) (W0 : World), b - a < m → d0.size = n → d0.toList.Nodup → a ≤ b → b ≤ n → lim < 1000 → Go.Sort.Below (ltC c) a b d0 → Srt w0 blk ok d0 W0 →
    Calls Tryd.prog 81 #[.slice (some ⟨blk, 0, none⟩) n cap, .int .i64 (a : Nat), .int .i64 (b : Nat), .int .i64 (lim : Nat), .func (.func 59) #[recv] #[]] W0 fun e w' => e = .returned (.tuple #[]) ∧ ∃ d', PermIn a b d0 d' ∧ SortedIn (ltC c) a b d' ∧ Srt w0 blk ok d' w' := by
  intro m
  induction m with
  | zero => intro _ _ _ _ _ h; exact absurd h (Nat.not_lt_zero _)
  | succ m ih =>
    intro a0 b0 lim0 d0 W0 hm hn0 hnd0 hab0 hbn0 hlim0 hBel0 h
    have HI := hid ih
    have H0 := hid h
    have HB0 := hid hBel0
    have HN0 := hid hnd0
    clear ih h hBel0 hnd0
    go_enter Tryd.func81, Tryd.ntmps81
    go_wp2
    go_loopg [1, 2, 3, 10, 11] (b0 - a0) (fun kx s1 s2 s3 s8 s9 wr => ∃ (a b lim : Nat) (wb wp : Bool) (d : Array Nat), s1 = .int .i64 (a : Nat) ∧ s2 = .int .i64 (b : Nat) ∧ s3 = .int .i64 (lim : Nat) ∧ s8 = .bool wb ∧ s9 = .bool wp ∧
      a ≤ b ∧ b ≤ n ∧ b - a ≤ kx ∧ kx ≤ b0 - a0 ∧ lim < 1000 ∧ d.size = n ∧ Hid d.toList.Nodup ∧ Hid (Go.Sort.Below (ltC c) a b d) ∧ Hid (∀ R, PermIn a b d R → SortedIn (ltC c) a b R → PermIn a0 b0 d0 R ∧ SortedIn (ltC c) a0 b0 R) ∧ Hid (Srt w0 blk ok d wr))
    case atStart => exact ⟨a0, b0, lim0, true, true, d0, rfl, rfl, rfl, rfl, rfl, hab0, hbn0, Nat.le_refl _, Nat.le_refl _, hlim0, hn0, HN0, HB0, hid (fun R h1 h2 => ⟨h1, h2⟩), H0⟩
    case round =>
      obtain ⟨a, b, lim, wb, wp, d, rfl, rfl, rfl, rfl, rfl, hab, hbn, hkx, hkN, hlim, hds, HN, HB, HG, HS⟩ := hrel
      by_cases h12 : b - a ≤ 12
      · have h12z : decide ((b : Int) - (a : Int) ≤ 12) = true := decide_eq_true (by omega)
        have hc := sort_insertion recv c HC n cap a b d hds hab hbn (by omega) wr HS.out
        go_wp2_with (go_at_call 86; refine hc.mono ?_; rintro e w1 ⟨rfl, hw1⟩; have HW := hid hw1; clear hw1)
        first | go_end0 | ((try simp only [Exit.inBlock, Exit.then]); refine bodyPost_ret (results_none rfl _ _ _) rfl ?_)
        have hs := Go.Sort.insertionSort_holds (lt := ltC c) HO.out.swo d a b hab (by omega)
        obtain ⟨g1, g2⟩ := HG.out _ hs.1 hs.2
        exact ⟨rfl, _, g1, g2, HW.out⟩
      · have h12z : decide ((b : Int) - (a : Int) ≤ 12) = false := decide_eq_false (by omega)
        by_cases hl0 : lim = 0
        · have hl0z : ((lim : Int) == 0) = true := by simp [hl0]
          have HL := hid hl0
          clear hl0
          have hc := sort_heap recv c HC n cap a b d hds (by omega) hbn (by omega) wr HS.out
          go_wp2_with (go_at_call 87; refine hc.mono ?_; rintro e w1 ⟨rfl, hw1⟩; have HW := hid hw1; clear hw1)
          first | go_end0 | ((try simp only [Exit.inBlock, Exit.then]); refine bodyPost_ret (results_none rfl _ _ _) rfl ?_)
          have hs := Go.Sort.heapSort_holds (lt := ltC c) HO.out.swo d a b hab (by omega)
          obtain ⟨g1, g2⟩ := HG.out _ hs.1 hs.2
          exact ⟨rfl, _, g1, g2, HW.out⟩
        · have hl0z : ((lim : Int) == 0) = false := by simp; omega
          go_upto_if 39 with fail
          go_cut [3] from 21 to 147 (fun s3 wc => ∃ (lm : Nat) (d1 : Array Nat), s3 = .int .i64 (lm : Nat) ∧ lm < 1000 ∧ d1.size = n ∧ Hid (PermIn a b d d1) ∧ Hid (Srt w0 blk ok d1 wc))
          case first =>
            cases wb
            · have hc := sort_break n cap a b d (.func (.func 59) #[recv] #[]) hds (by omega) hbn hsz wr HS.out
              go_wp2_with (go_at_call 88; refine hc.mono ?_; rintro e w1 ⟨rfl, d1, hp1, hw1⟩; have HW := hid hw1; have HP := hid hp1; clear hw1 hp1)
              go_meet
              case rel => exact ⟨lim - 1, d1, by go_num, by omega, HP.out.1.trans hds, HP, HW⟩
            · go_wp2_with fail
              go_meet
              case rel => exact ⟨lim, d, rfl, hlim, hds, hid (Go.Sort.permIn_refl _ _ _), HS⟩
          case rest =>
            obtain ⟨lm, d1, rfl, hlm, hd1, HP1, HS1⟩ := hcut
            clear HS
            have hc := sort_pivot recv c HC n cap a b d1 hd1 (by omega) hbn hsz wc HS1.out
            go_upto_if 56 with (go_at_call 89; refine hc.mono ?_; rintro e w2 ⟨pv, t, rfl, hpv1, hpv2, ht, hw2⟩; have HS2 := hid hw2; clear hw2)
            clear hc HS1
            go_cut [13, 14] from 21 to 147 (fun s13 s14 wc => ∃ (pv t : Nat) (d2 : Array Nat), s13 = .int .i64 (pv : Nat) ∧ s14 = .int .i64 (t : Nat) ∧ a ≤ pv ∧ pv < b ∧ t ≤ 2 ∧ d2.size = n ∧ Hid (PermIn a b d d2) ∧ Hid (Srt w0 blk ok d2 wc))
            case first =>
              by_cases h2 : t = 2
              · have h2z : ((t : Int) == 2) = true := by simp [h2]
                clear h2 ht
                have hc := sort_reverse n cap a b d1 hd1 (.func (.func 59) #[recv] #[]) hbn (by omega) w2 HS2.out hab
                go_wp2_with (go_at_call 90; refine hc.mono ?_; rintro e w3 ⟨rfl, d2, hp2, hw3⟩; have HW := hid hw3; have HP := hid hp2; clear hw3 hp2)
                go_meet
                case rel => exact ⟨b - 1 - (pv - a), 1, d2, by go_num, rfl, by omega, by omega, by omega, HP.out.1.trans hd1, hid (Go.Sort.permIn_trans _ _ _ _ _ HP1.out HP.out), HW⟩
              · have h2z : ((t : Int) == 2) = false := by simp; omega
                go_wp2_with fail
                go_meet
                case rel => exact ⟨pv, t, d1, rfl, rfl, hpv1, hpv2, ht, hd1, HP1, HS2⟩
            case rest =>
              clear hpv1 hpv2 ht
              obtain ⟨pv, t, d2, rfl, rfl, hpv1, hpv2, ht, hd2, HP2, HS3⟩ := hcut
              clear HS2 HP1 hd1
              go_upto_region 15 with fail
              go_cut [14, 75] from 21 to 147 (fun s14 s75 wx => s14 = .int .i64 (t : Nat) ∧ s75 = .bool (wb && wp && decide (t = 1)) ∧ wx = wc)
              case first =>
                have h1 : t = 0 ∨ t = 1 ∨ t = 2 := by omega
                clear ht
                rcases h1 with rfl | rfl | rfl <;> cases wb <;> cases wp <;> (go_wp2_with fail; go_meet; exact ⟨rfl, rfl, rfl⟩)
              case rest =>
                obtain ⟨rfl, rfl, rfl⟩ := hcut
                obtain ⟨z, hz⟩ : ∃ z, (wb && wp && decide (t = 1)) = z := ⟨_, rfl⟩
                rw [hz]
                clear hz
                go_upto_if 75 with fail
                go_cut [] from 21 to 147 (fun wx => ∃ d3 : Array Nat, d3.size = n ∧ Hid (PermIn a b d d3) ∧ Hid (Srt w0 blk ok d3 wx))
                case first =>
                  cases z
                  · go_wp2_with fail
                    go_meet
                    case rel => exact ⟨d2, hd2, HP2, HS3⟩
                  · have hc := sort_partial recv c HC n cap a b d2 hd2 (by omega) hbn hsz wc HS3.out
                    have hpi := Go.Sort.partialInsertionSort_holds (lt := ltC c) HO.out.swo d2 a b (by omega) (by omega) (Go.Sort.Below.perm HB.out (by omega) HP2.out)
                    obtain ⟨RR, hRR⟩ : ∃ RR, RR = Go.Sort.partialInsertionSort (ltC c) d2 a b := ⟨_, rfl⟩
                    rw [← hRR] at hc hpi
                    clear hRR
                    obtain ⟨d3, y⟩ := RR
                    have HPI := hid hpi
                    clear hpi
                    cases y
                    · go_wp2_with (go_at_call 91; refine hc.mono ?_; rintro e w4 ⟨rfl, hw4⟩; have HW := hid hw4; clear hw4)
                      go_meet
                      case rel => exact ⟨d3, HPI.out.1.1.trans hd2, hid (Go.Sort.permIn_trans _ _ _ _ _ HP2.out HPI.out.1), HW⟩
                    · go_wp2_with (go_at_call 91; refine hc.mono ?_; rintro e w4 ⟨rfl, hw4⟩; have HW := hid hw4; clear hw4)
                      first | go_end0 | ((try simp only [Exit.inBlock, Exit.then]); refine bodyPost_ret (results_none rfl _ _ _) rfl ?_)
                      obtain ⟨g1, g2⟩ := HG.out _ (Go.Sort.permIn_trans _ _ _ _ _ HP2.out HPI.out.1) (HPI.out.2 (by first | trivial | rfl))
                      exact ⟨rfl, _, g1, g2, HW.out⟩
                case rest =>
                  obtain ⟨d3, hd3, HP3, HS4⟩ := hcut
                  clear HS3 HP2 hd2
                  have HN3 := hid (permIn_nodup HP3.out (by omega) HN.out)
                  have HB3 := hid (Go.Sort.Below.perm HB.out (by omega) HP3.out)
                  have HSr := hid HS4.out
                  go_upto_region 17 with (fail)
                  refine wp_flow (fun _ => none) (Fa.eq (.int .i64 ((a : Nat))) :: Fa.eq (.bool (decide ((0) < ((a : Nat))))) :: Fa.eq (.bool (decide ((0) < ((a : Nat))))) :: Fa.eq (gd (decide ((0) < ((a : Nat)))) (.func (.func 59) #[recv] #[])) :: Fa.eq (gd (decide ((0) < ((a : Nat)))) (.slice (some ⟨blk, 0, none⟩) n cap)) :: Fa.eq (gd (decide ((0) < ((a : Nat)))) (.int .i64 ((a : Nat)))) :: Fa.eq (gd (decide ((0) < ((a : Nat)))) (.int .i64 (((a : Nat)) - (1)))) :: Fa.eq (gd (decide ((0) < ((a : Nat)))) (.pointer (some ⟨blk, (a - 1), none⟩))) :: Fa.eq (gd (decide ((0) < ((a : Nat)))) (.int .i64 (gA d3 ((a - 1)) : Nat))) :: Fa.eq (gd (decide ((0) < ((a : Nat)))) (.slice (some ⟨blk, 0, none⟩) n cap)) :: Fa.eq (gd (decide ((0) < ((a : Nat)))) (.int .i64 ((pv : Nat)))) :: Fa.eq (gd (decide ((0) < ((a : Nat)))) (.pointer (some ⟨blk, pv, none⟩))) :: Fa.eq (gd (decide ((0) < ((a : Nat)))) (.int .i64 (gA d3 (pv) : Nat))) :: Fa.eq (gd (decide ((0) < ((a : Nat)))) (.int .i64 (c (gA d3 ((a - 1))) (gA d3 (pv))))) :: Fa.eq (gd (decide ((0) < ((a : Nat)))) (.bool (decide ((c (gA d3 ((a - 1))) (gA d3 (pv))) < (0))))) :: Fa.eq (gd (decide ((0) < ((a : Nat)))) (.bool (!(decide ((c (gA d3 ((a - 1))) (gA d3 (pv))) < (0)))))) :: Fa.eq (.bool ((decide ((0) < ((a : Nat)))) && (!(decide ((c (gA d3 ((a - 1))) (gA d3 (pv))) < (0)))))) :: []) 148 (by kernel_rfl) rfl (by kernel_rfl) rfl (by kernel_rfl) ?_ ?_ ?_
                  · exact fits_plain _ _ rfl
                  · refine ⟨?_, ?_, ?_, ?_, ?_, ?_, ?_, ?_, ?_, ?_, ?_, ?_, ?_, ?_, ?_, ?_, ?_, trivial⟩
                    · exact v_move (.inl rfl) rfl (by kernel_rfl) True.intro (Ev.out (by kernel_rfl) rfl)
                    · exact v_bin (u := .int .i64 ((a : Nat))) (v := .int .i64 (0)) (c := .bool (decide ((0) < ((a : Nat))))) rfl (fun w => (by go_simp)) rfl (by kernel_rfl) True.intro (Ev.at (i := 0) (by kernel_rfl) (by kernel_rfl) rfl) Ev.const
                    · exact v_move (.inl rfl) rfl (by kernel_rfl) True.intro (Ev.at (i := 1) (by kernel_rfl) (by kernel_rfl) rfl)
                    · exact flow_gd (decide ((0) < ((a : Nat)))) (.func (.func 59) #[recv] #[]) 2 true (.bool (decide ((0) < ((a : Nat))))) rfl (by kernel_rfl) rfl gu_t rfl (fun hg hF hj => v_move (.inl rfl) hF (by kernel_rfl) (guard_of rfl (by kernel_rfl) (by kernel_rfl) hj) (Ev.out (by kernel_rfl) rfl))
                    · exact flow_gd (decide ((0) < ((a : Nat)))) (.slice (some ⟨blk, 0, none⟩) n cap) 2 true (.bool (decide ((0) < ((a : Nat))))) rfl (by kernel_rfl) rfl gu_t rfl (fun hg hF hj => v_move (.inl rfl) hF (by kernel_rfl) (guard_of rfl (by kernel_rfl) (by kernel_rfl) hj) (Ev.out (by kernel_rfl) rfl))
                    · exact flow_gd (decide ((0) < ((a : Nat)))) (.int .i64 ((a : Nat))) 2 true (.bool (decide ((0) < ((a : Nat))))) rfl (by kernel_rfl) rfl gu_t rfl (fun hg hF hj => v_move (.inl rfl) hF (by kernel_rfl) (guard_of rfl (by kernel_rfl) (by kernel_rfl) hj) (Ev.out (by kernel_rfl) rfl))
                    · exact flow_gd (decide ((0) < ((a : Nat)))) (.int .i64 (((a : Nat)) - (1))) 2 true (.bool (decide ((0) < ((a : Nat))))) rfl (by kernel_rfl) rfl gu_t rfl (fun hg hF hj => v_bin (u := .int .i64 ((a : Nat))) (v := .int .i64 (1)) (c := .int .i64 (((a : Nat)) - (1))) rfl (fun w => (bin_sub_i64 (by omega) (by omega) w)) hF (by kernel_rfl) (guard_of rfl (by kernel_rfl) (by kernel_rfl) hj) (Ev.at (i := 5) (by kernel_rfl) (by kernel_rfl) (fe rfl (gd_t hg))) Ev.const)
                    · exact flow_gd (decide ((0) < ((a : Nat)))) (.pointer (some ⟨blk, (a - 1), none⟩)) 2 true (.bool (decide ((0) < ((a : Nat))))) rfl (by kernel_rfl) rfl gu_t rfl (fun hg hF hj => v_iaddr (u := .slice (some ⟨blk, 0, none⟩) n cap) (v := .int .i64 (((a : Nat)) - (1))) (c := .pointer (some ⟨blk, (a - 1), none⟩)) rfl (fun w => idx_int (by have := of_decide_eq_true hg; omega) (by have := of_decide_eq_true hg; omega) w) hF (by kernel_rfl) (guard_of rfl (by kernel_rfl) (by kernel_rfl) hj) (Ev.at (i := 4) (by kernel_rfl) (by kernel_rfl) (fe rfl (gd_t hg))) (Ev.at (i := 6) (by kernel_rfl) (by kernel_rfl) (fe rfl (gd_t hg))))
                    · exact flow_gd (decide ((0) < ((a : Nat)))) (.int .i64 (gA d3 ((a - 1)) : Nat)) 2 true (.bool (decide ((0) < ((a : Nat))))) rfl (by kernel_rfl) rfl gu_t rfl (fun hg hF hj => v_load (u := .pointer (some ⟨blk, (a - 1), none⟩)) (c := .int .i64 (gA d3 ((a - 1)) : Nat)) rfl (fun w hB => ld_int ((HSr.out.dr).later hB) (by have := of_decide_eq_true hg; omega)) hF (by kernel_rfl) (guard_of rfl (by kernel_rfl) (by kernel_rfl) hj) (Ev.at (i := 7) (by kernel_rfl) (by kernel_rfl) (fe rfl (gd_t hg))))
                    · exact flow_gd (decide ((0) < ((a : Nat)))) (.slice (some ⟨blk, 0, none⟩) n cap) 2 true (.bool (decide ((0) < ((a : Nat))))) rfl (by kernel_rfl) rfl gu_t rfl (fun hg hF hj => v_move (.inl rfl) hF (by kernel_rfl) (guard_of rfl (by kernel_rfl) (by kernel_rfl) hj) (Ev.out (by kernel_rfl) rfl))
                    · exact flow_gd (decide ((0) < ((a : Nat)))) (.int .i64 ((pv : Nat))) 2 true (.bool (decide ((0) < ((a : Nat))))) rfl (by kernel_rfl) rfl gu_t rfl (fun hg hF hj => v_move (.inl rfl) hF (by kernel_rfl) (guard_of rfl (by kernel_rfl) (by kernel_rfl) hj) (Ev.out (by kernel_rfl) rfl))
                    · exact flow_gd (decide ((0) < ((a : Nat)))) (.pointer (some ⟨blk, pv, none⟩)) 2 true (.bool (decide ((0) < ((a : Nat))))) rfl (by kernel_rfl) rfl gu_t rfl (fun hg hF hj => v_iaddr (u := .slice (some ⟨blk, 0, none⟩) n cap) (v := .int .i64 ((pv : Nat))) (c := .pointer (some ⟨blk, pv, none⟩)) rfl (fun w => idx_int (by omega) (rfl) w) hF (by kernel_rfl) (guard_of rfl (by kernel_rfl) (by kernel_rfl) hj) (Ev.at (i := 9) (by kernel_rfl) (by kernel_rfl) (fe rfl (gd_t hg))) (Ev.at (i := 10) (by kernel_rfl) (by kernel_rfl) (fe rfl (gd_t hg))))
                    · exact flow_gd (decide ((0) < ((a : Nat)))) (.int .i64 (gA d3 (pv) : Nat)) 2 true (.bool (decide ((0) < ((a : Nat))))) rfl (by kernel_rfl) rfl gu_t rfl (fun hg hF hj => v_load (u := .pointer (some ⟨blk, pv, none⟩)) (c := .int .i64 (gA d3 (pv) : Nat)) rfl (fun w hB => ld_int ((HSr.out.dr).later hB) (by omega)) hF (by kernel_rfl) (guard_of rfl (by kernel_rfl) (by kernel_rfl) hj) (Ev.at (i := 11) (by kernel_rfl) (by kernel_rfl) (fe rfl (gd_t hg))))
                    · exact flow_gd (decide ((0) < ((a : Nat)))) (.int .i64 (c (gA d3 ((a - 1))) (gA d3 (pv)))) 2 true (.bool (decide ((0) < ((a : Nat))))) rfl (by kernel_rfl) rfl gu_t rfl (fun hg hF hj => v_callv (f := 59) (pre := #[recv]) (vs := #[.int .i64 (gA d3 ((a - 1)) : Nat), .int .i64 (gA d3 (pv) : Nat)]) (c := .int .i64 (c (gA d3 ((a - 1))) (gA d3 (pv)))) rfl (fun args w => rfl) (fun w hB => (HC.out.call _ ((HSr.out.dr).later hB).below _ _ (((HSr.out.dr).later hB).ok _ (by have := of_decide_eq_true hg; omega)) (((HSr.out.dr).later hB).ok _ (by omega)))) hF (by kernel_rfl) (guard_of rfl (by kernel_rfl) (by kernel_rfl) hj) (Ev.at (i := 3) (by kernel_rfl) (by kernel_rfl) (fe rfl (gd_t hg))) (ev2 (Ev.at (i := 8) (by kernel_rfl) (by kernel_rfl) (fe rfl (gd_t hg))) (Ev.at (i := 12) (by kernel_rfl) (by kernel_rfl) (fe rfl (gd_t hg)))))
                    · exact flow_gd (decide ((0) < ((a : Nat)))) (.bool (decide ((c (gA d3 ((a - 1))) (gA d3 (pv))) < (0)))) 2 true (.bool (decide ((0) < ((a : Nat))))) rfl (by kernel_rfl) rfl gu_t rfl (fun hg hF hj => v_bin (u := .int .i64 (c (gA d3 ((a - 1))) (gA d3 (pv)))) (v := .int .i64 (0)) (c := .bool (decide ((c (gA d3 ((a - 1))) (gA d3 (pv))) < (0)))) rfl (fun w => (by go_simp)) hF (by kernel_rfl) (guard_of rfl (by kernel_rfl) (by kernel_rfl) hj) (Ev.at (i := 13) (by kernel_rfl) (by kernel_rfl) (fe rfl (gd_t hg))) Ev.const)
                    · exact flow_gd (decide ((0) < ((a : Nat)))) (.bool (!(decide ((c (gA d3 ((a - 1))) (gA d3 (pv))) < (0))))) 2 true (.bool (decide ((0) < ((a : Nat))))) rfl (by kernel_rfl) rfl gu_t rfl (fun hg hF hj => v_not rfl hF (by kernel_rfl) (guard_of rfl (by kernel_rfl) (by kernel_rfl) hj) (Ev.at (i := 14) (by kernel_rfl) (by kernel_rfl) (fe rfl (gd_t hg))))
                    · exact v_and (p := decide ((0) < ((a : Nat)))) (q := !(decide ((c (gA d3 ((a - 1))) (gA d3 (pv))) < (0)))) rfl rfl (by kernel_rfl) True.intro (Ev.at (i := 2) (by kernel_rfl) (by kernel_rfl) rfl) (fun hp => (Ev.at (i := 15) (by kernel_rfl) (by kernel_rfl) (fe rfl (gd_t hp))))
                  intro _ vs wu hBu hf
                  have e0 : vs 0 = .int .i64 ((a : Nat)) := hf 0 (by decide)
                  have e1 : vs 1 = .bool (decide ((0) < ((a : Nat)))) := hf 1 (by decide)
                  have e2 : vs 2 = .bool (decide ((0) < ((a : Nat)))) := hf 2 (by decide)
                  have e3 : vs 3 = gd (decide ((0) < ((a : Nat)))) (.func (.func 59) #[recv] #[]) := hf 3 (by decide)
                  have e4 : vs 4 = gd (decide ((0) < ((a : Nat)))) (.slice (some ⟨blk, 0, none⟩) n cap) := hf 4 (by decide)
                  have e5 : vs 5 = gd (decide ((0) < ((a : Nat)))) (.int .i64 ((a : Nat))) := hf 5 (by decide)
                  have e6 : vs 6 = gd (decide ((0) < ((a : Nat)))) (.int .i64 (((a : Nat)) - (1))) := hf 6 (by decide)
                  have e7 : vs 7 = gd (decide ((0) < ((a : Nat)))) (.pointer (some ⟨blk, (a - 1), none⟩)) := hf 7 (by decide)
                  have e8 : vs 8 = gd (decide ((0) < ((a : Nat)))) (.int .i64 (gA d3 ((a - 1)) : Nat)) := hf 8 (by decide)
                  have e9 : vs 9 = gd (decide ((0) < ((a : Nat)))) (.slice (some ⟨blk, 0, none⟩) n cap) := hf 9 (by decide)
                  have e10 : vs 10 = gd (decide ((0) < ((a : Nat)))) (.int .i64 ((pv : Nat))) := hf 10 (by decide)
                  have e11 : vs 11 = gd (decide ((0) < ((a : Nat)))) (.pointer (some ⟨blk, pv, none⟩)) := hf 11 (by decide)
                  have e12 : vs 12 = gd (decide ((0) < ((a : Nat)))) (.int .i64 (gA d3 (pv) : Nat)) := hf 12 (by decide)
                  have e13 : vs 13 = gd (decide ((0) < ((a : Nat)))) (.int .i64 (c (gA d3 ((a - 1))) (gA d3 (pv)))) := hf 13 (by decide)
                  have e14 : vs 14 = gd (decide ((0) < ((a : Nat)))) (.bool (decide ((c (gA d3 ((a - 1))) (gA d3 (pv))) < (0)))) := hf 14 (by decide)
                  have e15 : vs 15 = gd (decide ((0) < ((a : Nat)))) (.bool (!(decide ((c (gA d3 ((a - 1))) (gA d3 (pv))) < (0))))) := hf 15 (by decide)
                  have e16 : vs 16 = .bool ((decide ((0) < ((a : Nat)))) && (!(decide ((c (gA d3 ((a - 1))) (gA d3 (pv))) < (0))))) := hf 16 (by decide)
                  obtain ⟨z2, hz2⟩ : ∃ z : Bool, ((decide ((0) < ((a : Nat)))) && (!(decide ((c (gA d3 ((a - 1))) (gA d3 (pv))) < (0))))) = z := ⟨_, rfl⟩
                  rw [hz2] at e16
                  have HZ2 := hid hz2
                  clear hz2
                  simp only [fill, List.setIfInBounds_toArray, List.set_cons_zero, List.set_cons_succ, e0, e1, e2, e3, e4, e5, e6, e7, e8, e9, e10, e11, e12, e13, e14, e15, e16]
                  clear e0 e1 e2 e3 e4 e5 e6 e7 e8 e9 e10 e11 e12 e13 e14 e15 e16
                  have HS5 := hid (HSr.out.later hBu)
                  clear hBu hf HSr HS4
                  have hzf : z2 = false := by
                    have hz := HZ2.out
                    cases z2
                    · rfl
                    · rw [Bool.and_eq_true, decide_eq_true_eq] at hz
                      have := no_equal HO.out HS5.out HN3.out HB3.out (by omega) hpv1 hpv2 (by omega)
                      have h3 := hz.2
                      unfold ltC at this
                      rw [this] at h3
                      cases h3
                  subst hzf
                  clear HZ2
                  have hc := sort_partition recv c HC n cap a b pv d3 hd3 hpv1 hpv2 hbn hsz wu HS5.out
                  obtain ⟨mid, ap', d4, hx⟩ : ∃ mid ap' d4, Go.Sort.partition (ltC c) d3 a b pv = (mid, ap', d4) := ⟨_, _, _, rfl⟩
                  obtain ⟨r1, r2, r3, r4, r5, r6, r7⟩ := Go.Sort.round_part HO.out.swo (Go.Sort.partition_holds (ltC c)) hpv1 hpv2 (show b ≤ d3.size by omega) HB3.out hx
                  have HN4 := hid (permIn_nodup (Go.Sort.partition_holds (ltC c) HO.out.swo d3 a b pv hpv1 hpv2 (by omega)).2.2.1 (by omega) HN3.out)
                  rw [hx] at hc HN4
                  simp only [] at HN4
                  have R4 := hid r4
                  have R5 := hid r5
                  have R6 := hid r6
                  have R7 := hid r7
                  have hd4 : d4.size = n := r3.trans hd3
                  clear hx r3 r4 r5 r6 r7
                  go_upto_if 125 with (go_at_call 93; refine hc.mono ?_; rintro e w7 ⟨ap, rfl, hw7⟩; have HS7 := hid hw7; clear hw7)
                  clear hc HS5
                  by_cases h4 : mid - a < b - mid
                  · have h4z : decide ((mid : Int) - (a : Int) < (b : Int) - (mid : Int)) = true := decide_eq_true (by omega)
                    have hih := HI.out a mid lm d4 w7 (by omega) hd4 HN4.out r1 (by omega) hlm R4.out HS7.out
                    go_wp2_with (go_at_call 81; refine hih.mono ?_; rintro e w8 ⟨rfl, d5, hp5, hs5, hw8⟩; have HP5 := hid hp5; have HO5 := hid hs5; have HW := hid hw8; clear hp5 hs5 hw8)
                    go_roundg (b - (mid + 1))
                    case measure => omega
                    case rel =>
                      obtain ⟨k1, k2⟩ := R6.out _ HP5.out HO5.out
                      exact ⟨mid + 1, b, lm, _, _, d5, by go_num, rfl, rfl, rfl, rfl, by omega, by omega, Nat.le_refl _, by omega, hlm, HP5.out.1.trans hd4, hid (permIn_nodup HP5.out (by omega) HN4.out), hid k1,
                        hid (fun R g1 g2 => HG.out R (Go.Sort.permIn_trans _ _ _ _ _ HP3.out (k2 R g1 g2).1) (k2 R g1 g2).2), HW⟩
                  · have h4z : decide ((mid : Int) - (a : Int) < (b : Int) - (mid : Int)) = false := decide_eq_false (by omega)
                    have hih := HI.out (mid + 1) b lm d4 w7 (by omega) hd4 HN4.out (by omega) hbn hlm R5.out HS7.out
                    rw [show ((mid + 1 : Nat) : Int) = (mid : Int) + 1 by omega] at hih
                    go_wp2_with (go_at_call 81; refine hih.mono ?_; rintro e w8 ⟨rfl, d5, hp5, hs5, hw8⟩; have HP5 := hid hp5; have HO5 := hid hs5; have HW := hid hw8; clear hp5 hs5 hw8)
                    go_roundg (mid - a)
                    case measure => omega
                    case rel =>
                      obtain ⟨k1, k2⟩ := R7.out _ HP5.out HO5.out
                      exact ⟨a, mid, lm, _, _, d5, rfl, rfl, rfl, rfl, rfl, by omega, by omega, Nat.le_refl _, by omega, hlm, HP5.out.1.trans hd4, hid (permIn_nodup HP5.out (by omega) HN4.out), hid k1,
                        hid (fun R g1 g2 => HG.out R (Go.Sort.permIn_trans _ _ _ _ _ HP3.out (k2 R g1 g2).1) (k2 R g1 g2).2), HW⟩
end Go.Proofs.YtfnmekmgjcjglaaDoor.V
