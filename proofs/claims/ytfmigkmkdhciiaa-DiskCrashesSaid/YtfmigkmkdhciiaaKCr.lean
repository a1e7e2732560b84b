/-
  The law of crashes.
-/
import Derived.Test.YtfmigkmkdhciiaaKDa
import Derived.Test.YtfmigkmkdhciiaaKMx
import Derived.Test.YtfmigkmkdhciiaaKAl
import Derived.Test.YtfmigkmkdhciiaaKGr
import Derived.Test.YtfmigkmkdhciiaaKHe
namespace Go.Proofs.Ytfmigkmkdhciiaa.K
set_option linter.unusedVariables false
set_option linter.unusedSimpArgs false
set_option maxRecDepth 100000
open Go Go.RowKit Go.Maps Go.MapKept Go.ChangeMaps

theorem load_act (W : World) (B O : Nat) (sp : Option Nat) (x : ActM) (q0 : W.cell? ⟨B, O, sp⟩ = some (.int .u8 x.a)) (q1 : W.cell? ⟨B, O + 1, none⟩ = some (strV x.b)) (q2 : W.cell? ⟨B, O + 2, none⟩ = some (strV x.c)) (q3 : W.cell? ⟨B, O + 3, none⟩ = some (.int .i64 x.k)) :
    (Instr.loadAt 36 (.pointer (some ⟨B, O, sp⟩))).run Try.prog W = .ok (.agg #[.int .u8 x.a, strV x.b, strV x.c, .int .i64 x.k]) W := by
  simp [go_sem, Instr.loadAt, Instr.sureAddr, loadVar, q0, q1, q2, q3]
theorem load_z (W : World) (b : Nat) (h : W.heap[b]? = some zObj) : (Instr.loadAt 32 (.pointer (some ⟨b, 0, none⟩))).run Try.prog W = .ok (.agg #[.int .i64 0, .slice none 0 0, .slice none 0 0, .bool false, .int .i64 0, .bool false]) W := by
  have ld := run_loadVar_row (P := Try.prog) W b 32 32 _ _ _ h Try.underlying32 rfl (by kernel_rfl)
  simp [Instr.loadAt, Instr.sureAddr, ld]
theorem sys_ok {w0 w : World} {p : Nat} {s : St} {l : List (Nat × St)} {bs : List (Nat × Obj)} (h : Sys w0 w ((p, s) :: l) bs) : s.ok := by
  obtain ⟨A, _, k, hd⟩ := h.head
  exact hd.ok
theorem Beh.self {b s : St} {N : Nat} (h : Beh b s N) : Beh s s N := ⟨h.ok, rfl, h.down, ⟨[], by simp⟩, h.left⟩
theorem rot {w0 w : World} {x : Nat × St} {l : List (Nat × St)} {bs : List (Nat × Obj)} (h : Sys w0 w (x :: l) bs) : Sys w0 w (l ++ [x]) bs := h.perm (List.perm_append_singleton x l) (fun _ h => h)

set_option maxHeartbeats 4000000 in
theorem law_DiskCrashes (w : World) (v : Value) (xs : List ActM) (cut keep : Int) (hv : ActsV w v xs) (hcut : 0 ≤ cut ∧ cut ≤ 255) (hkeep : -9223372036854775808 ≤ keep ∧ keep ≤ 9223372036854775807) :
    Calls Try.prog 3 #[v, .int .u8 cut, .int .i64 keep] w fun e w' => e = .returned (.bool true) ∧ Below w.heap.size w w' := by
  have hS0 := Sys.start w
  have HV := Lib.hid hv
  obtain ⟨a, len, cap, rfl, hIA⟩ := hv
  obtain rfl : xs.length = len := hIA.1
  have hlc : xs.length ≤ cap := hIA.2.1
  have hcm : cap ≤ maxLen := hIA.2.2.1
  have hlm : xs.length ≤ 9223372036854775807 := by have := hcm; unfold maxLen at this; omega
  have HIA := Lib.hid hIA
  clear hIA
  go_enter Try.func3, Try.ntmps3
  go_wp2_with (go_at_call 5; refine (sys_New hS0 1048576 (by decide)).mono ?_; clear hS0; rintro e W1 ⟨p, rfl, hS1⟩)
  go_at_call 6
  refine (law_great W1 _ xs ⟨_, _, _, rfl, HIA.out.keep (low_sys hS1)⟩).mono ?_
  rintro e W2 ⟨g, rfl, hB2, hg⟩
  have hS2 := hS1.below hB2
  clear hS1 hB2
  cases g with
  | true =>
    clear hg
    have hb2 := low_sys hS2
    clear hS2
    go_wp2_with (go_at_call 7; refine (law_head _).mono ?_; rintro e w' ⟨rfl, hb⟩)
    go_ret
    exact ⟨rfl, hb2.trans (hb.mono hb2.size)⟩
  | false =>
    have HG := Lib.hid (hg rfl)
    clear hg
    by_cases hk : keep < 0
    · have hb2 := low_sys hS2
      have hd : decide (keep < 0) = true := decide_eq_true hk
      clear hS2
      go_wp2_with (go_at_call 7; refine (law_head _).mono ?_; rintro e w' ⟨rfl, hb⟩)
      go_ret
      exact ⟨rfl, hb2.trans (hb.mono hb2.size)⟩
    · have hd : decide (keep < 0) = false := decide_eq_false hk
      go_wp2
      obtain ⟨W3, hW3⟩ : ∃ W3, W2.alloc (.cells #[.int .i64 0, .slice none 0 0, .slice none 0 0, .bool false, .int .i64 0, .bool false] 32) = W3 := ⟨_, rfl⟩
      obtain ⟨qb, hqb⟩ : ∃ qb, W2.heap.size = qb := ⟨_, rfl⟩
      have hS3 : Sys w W3 [(p, new 1048576)] [(qb, zObj)] := by
        rw [← hW3, ← hqb]
        exact hS2.box ((Below.refl _ W2).alloc (Nat.le_refl _) _) (Nat.le_refl _) (heap_last W2 _)
      rw [hW3, hqb]
      clear hS2 hW3 hqb
      have HK := Lib.hid hk
      clear hk
      go_loopw [10] (fun i wr => ∃ (j : Nat) (s : St), j ≤ xs.length ∧ i = .int .i64 j ∧ Hid (Sys w wr [(p, s)] [(qb, zObj)] ∧ s.lim ≤ j * 2002 ∧ s.steps.length ≤ j)) (fun i _ => xs.length - (intOf i).toNat)
      case atStart => exact ⟨0, new 1048576, Nat.zero_le _, rfl, Lib.hid ⟨hS3, by simp [St.lim, new, wt, St.pend], Nat.le_refl _⟩⟩
      case round =>
        obtain ⟨j, s, hj, rfl, HS⟩ := hrel
        by_cases hlt : j < xs.length
        · obtain ⟨x, hx⟩ : ∃ x, xs[j]? = some x := ⟨_, List.getElem?_eq_getElem hlt⟩
          obtain ⟨ad, rfl⟩ : ∃ ad, a = some ad := by
            cases a with
            | none => have h9 : xs.length = 0 := HIA.out.2.2.2.2; omega
            | some ad => exact ⟨ad, rfl⟩
          obtain ⟨B, O, sp, hA, q0, q1, q2, q3⟩ := IsActs.at (HIA.out.keep (low_sys HS.out.1)) j x hx
          have hxm := List.mem_of_getElem? hx
          have htm := tot_mem hxm
          have HXL : Hid (x.b.length ≤ 1000 ∧ x.c.length ≤ 1000) := Lib.hid (by have := HG.out; omega)
          have HOK := Lib.hid (HIA.out.2.2.2.1 x hxm).1
          have h40 := HG.out.1
          have HQ := Lib.hid (HS.out.1.at)
          have HDO := Lib.hid (law_does w wr.drew p s [] [(qb, zObj)] (HS.out.1.below ((Below.refl _ wr).drew)) x HXL.out.1 HXL.out.2 HOK.out (by have := HS.out.2.1; omega) (by have := HS.out.2.2; omega))
          clear hx hxm htm h40
          go_wp2
          refine R.wp_chain [6] (fun q _ V => match q with | 0 => V = wr.drew | _ => Sys w V ((p, doM s x) :: []) [(qb, zObj)])
            (fun i u => [.pointer (some ⟨p, 0, none⟩), .agg #[.int .i64 0, .slice none 0 0, .slice none 0 0, .bool false, .int .i64 0, .bool false], .slice (some ad) xs.length cap, .int .i64 (j : Int), .pointer (some ⟨B, O, sp⟩), .agg #[.int .u8 x.a, strV x.b, strV x.c, .int .i64 x.k], u 0].getD i undef) (fun _ => undef) 160 (by kernel_rfl) (by kernel_rfl) rfl (by kernel_rfl) (by kernel_rfl) ?_ ?_ rfl ?_
          · simp only [R.HVs, R.HV]
            repeat' (first | trivial | refine And.intro ?_ ?_ | exact fun _ _ _ => rfl | (refine fun h => absurd (h.symm.trans (b := _) (c := false) ?_) (by decide); kernel_rfl))
          · refine ⟨?_, ?_, ?_, ?_, ?_, ?_, ?_, trivial⟩
            · exact R.l_move _ (.inl rfl) (by kernel_rfl) rfl rfl (R.ev_base (by kernel_rfl) rfl)
            · refine R.l_read (by kernel_rfl) rfl rfl (fun q u a V _ hhi hb hv hP => ?_)
              have hh : q ≤ 0 := hhi
              match q, hh, hP with
              | 0, _, hP =>
                obtain rfl : V = wr.drew := hP
                have e1 : a.eval (.tmp 9) = .pointer (some ⟨qb, 0, none⟩) := base_ev hb (by kernel_rfl) rfl
                unfold execOp
                simp only [e1, Sem.run_bind, load_z wr.drew qb HQ.out, Result.andThen_ok]
                rfl
            · exact R.l_move _ (.inl rfl) (by kernel_rfl) rfl rfl (R.ev_base (by kernel_rfl) rfl)
            · exact R.l_move _ (.inl rfl) (by kernel_rfl) rfl rfl (R.ev_base (by kernel_rfl) rfl)
            · refine R.l_read (by kernel_rfl) rfl rfl (fun q u a V _ hhi hb hv hP => ?_)
              have e1 : a.eval (.tmp 45) = .slice (some ad) xs.length cap := (R.eval_at (i := 2) rfl).trans (hv 2 (by kernel_rfl))
              have e2 : a.eval (.tmp 46) = .int .i64 (j : Int) := (R.eval_at (i := 3) rfl).trans (hv 3 (by kernel_rfl))
              unfold execOp
              simp only [e1, e2]
              simp [go_sem, hA, hlt]
            · refine R.l_read (by kernel_rfl) rfl rfl (fun q u a V _ hhi hb hv hP => ?_)
              have hh : q ≤ 0 := hhi
              match q, hh, hP with
              | 0, _, hP =>
                obtain rfl : V = wr.drew := hP
                have e1 : a.eval (.tmp 47) = .pointer (some ⟨B, O, sp⟩) := (R.eval_at (i := 4) rfl).trans (hv 4 (by kernel_rfl))
                unfold execOp
                simp only [e1, Sem.run_bind, load_act wr.drew B O sp x q0 q1 q2 q3, Result.andThen_ok]
                rfl
            · refine R.l_call (p := 0) (by kernel_rfl) rfl (fun u a V hb hv hP => ?_)
              obtain rfl : V = wr.drew := hP
              have e1 : a.eval (.tmp 43) = .pointer (some ⟨p, 0, none⟩) := (R.eval_at (i := 0) rfl).trans (hv 0 (by kernel_rfl))
              have e2 : a.eval (.tmp 44) = .agg #[.int .i64 0, .slice none 0 0, .slice none 0 0, .bool false, .int .i64 0, .bool false] := (R.eval_at (i := 1) rfl).trans (hv 1 (by kernel_rfl))
              have e3 : a.eval (.tmp 48) = .agg #[.int .u8 x.a, strV x.b, strV x.c, .int .i64 x.k] := (R.eval_at (i := 5) rfl).trans (hv 5 (by kernel_rfl))
              refine ⟨_, _, by unfold execOp; simp only [resolve, invoke, Sem.run_bind, Sem.run_pure, Result.andThen_ok, List.map_toArray, List.map_cons, List.map_nil, e1, e2, e3]; rfl, ?_⟩
              refine HDO.out.mono ?_
              rintro e w' ⟨⟨v, rfl⟩, hS'⟩
              exact ⟨v, rfl, hS', rfl⟩
          · rintro u W4 hW4
            have hS4 : Sys w W4 ((p, doM s x) :: []) [(qb, zObj)] := hW4
            clear hW4
            simp only [R.fill, List.getD_cons_zero, List.getD_cons_succ, List.setIfInBounds_toArray, List.set_cons_zero, List.set_cons_succ]
            try simp only [Exit.inBlock, Exit.then]
            try go_at_K
            go_wp2
            go_roundw
            case rel => exact ⟨j + 1, doM s x, hlt, by go_num, Lib.hid ⟨hS4, by have h1 := doM_lim (sys_ok HS.out.1) x; have h2 := HS.out.2.1; have h3 := HXL.out.2; omega, by have h1 := doM_steps s x; have h2 := HS.out.2.2; omega⟩⟩
            case measure => simp [intOf]; omega
        · obtain rfl : j = xs.length := by omega
          have h40 := HG.out.1
          have hk0 : ¬ keep < 0 := by have := HK.out; omega
          have hcr : s.crash keep = (s.crashed keep.toNat, 0) := by unfold St.crash; rw [if_neg hk0]
          have hc1 := sys_Crash HS.out.1 keep hkeep.2 hkeep.1 (by have := HS.out.2.1; omega) (by have := HS.out.2.2; omega)
          rw [hcr] at hc1
          have hbl : (s.crashed keep.toNat).lim ≤ 80080 := by have h1 := St.crashed_lim (sys_ok HS.out.1) keep.toNat; have h2 := HS.out.2.1; omega
          have hbok : (s.crashed keep.toNat).ok := St.crashed_ok (sys_ok HS.out.1) _
          have hbb : (s.crashed keep.toNat).down = false ∧ (s.crashed keep.toNat).left = noFuse ∧ (s.crashed keep.toNat).synced = (s.crashed keep.toNat).seen ∧ (s.crashed keep.toNat).steps.length = 0 := ⟨rfl, rfl, rfl, rfl⟩
          generalize s.crashed keep.toNat = b0 at hc1 hbl hbok hbb
          have HB0 := Lib.hid (And.intro hbl (And.intro hbok hbb))
          clear hbl hbok hbb hcr hk0 h40 HS
          obtain ⟨n, hn, hnle⟩ : ∃ n : Nat, (0 < xs.length → cut.tmod (xs.length : Int) = n) ∧ (xs.length = 0 → n = 0) ∧ n ≤ xs.length := by
            by_cases h0 : 0 < xs.length
            · have h1 := Int.tmod_nonneg (xs.length : Int) hcut.1
              have h2 := Int.tmod_lt_of_pos cut (show (0 : Int) < (xs.length : Int) by omega)
              exact ⟨(cut.tmod (xs.length : Int)).toNat, fun _ => by omega, fun h => by omega, by omega⟩
            · exact ⟨0, fun h => absurd h h0, fun _ => rfl, Nat.zero_le _⟩
          have HNL := Lib.hid hnle.2
          by_cases h0 : 0 < xs.length
          · have hn1 := hn h0
            have hd0 : decide ((0 : Int) < (xs.length : Int)) = true := decide_eq_true (by omega)
            clear hn hnle
            go_wp2_with (first
              | (go_at_call 9; refine hc1.mono ?_; clear hc1; rintro e W4 ⟨rfl, hS4⟩)
              | (go_at_call 10; refine (sys_Copy hS4 (by have := HB0.out.1; omega) (by have := HB0.out.2.2.2.2.2; omega)).mono ?_; clear hS4; rintro e W5 ⟨pb, rfl, hS5⟩))
            have hS6 := swap_sys hS5
            clear hS5
            go_loopw [13] (fun i wr => ∃ (j : Nat) (s : St), j ≤ n ∧ i = .int .i64 j ∧ Hid (Sys w wr [(p, s), (pb, b0)] [(qb, zObj)] ∧ s.lim ≤ 80080 + j * 2002 ∧ s.steps.length ≤ j ∧ Beh b0 s (j * 1001))) (fun i _ => n - (intOf i).toNat)
            case atStart => exact ⟨0, b0, Nat.zero_le _, rfl, Lib.hid ⟨hS6, by have := HB0.out.1; omega, by have := HB0.out.2.2.2.2.2; omega, (Beh.refl HB0.out.2.1 HB0.out.2.2.1 HB0.out.2.2.2.1).mono (by omega)⟩⟩
            case round =>
              obtain ⟨j, s, hj, rfl, HS⟩ := hrel
              by_cases hlt0 : j < n
              · have hlt : j < xs.length := by have := HNL.out; omega
                obtain ⟨x, hx⟩ : ∃ x, xs[j]? = some x := ⟨_, List.getElem?_eq_getElem hlt⟩
                obtain ⟨ad, rfl⟩ : ∃ ad, a = some ad := by
                  cases a with
                  | none => have h9 : xs.length = 0 := HIA.out.2.2.2.2; omega
                  | some ad => exact ⟨ad, rfl⟩
                obtain ⟨B, O, sp, hA, q0, q1, q2, q3⟩ := IsActs.at (HIA.out.keep (low_sys HS.out.1)) j x hx
                have hxm := List.mem_of_getElem? hx
                have htm := tot_mem hxm
                have HXL : Hid (x.b.length ≤ 1000 ∧ x.c.length ≤ 1000) := Lib.hid (by have := HG.out; omega)
                have HOK := Lib.hid (HIA.out.2.2.2.1 x hxm).1
                have h40 := HG.out.1
                have HQ := Lib.hid (HS.out.1.at)
                have HDO := Lib.hid (law_does w wr.drew p s [(pb, b0)] [(qb, zObj)] (HS.out.1.below ((Below.refl _ wr).drew)) x HXL.out.1 HXL.out.2 HOK.out (by have := HS.out.2.1; have := HG.out.1; omega) (by have := HS.out.2.2.1; have := HG.out.1; omega))
                clear hx hxm htm h40
                have htm : x.a.tmod 7 = x.a % 7 := Int.tmod_eq_emod_of_nonneg HOK.out.a.1
                by_cases h4 : x.a % 7 < 4
                · have hd4 : decide (x.a.tmod 7 < 4) = true := decide_eq_true (by omega)
                  have H4 := Lib.hid h4
                  clear htm h4
                  go_wp2
                  refine R.wp_chain [6] (fun q _ V => match q with | 0 => V = wr.drew | _ => Sys w V ((p, doM s x) :: [(pb, b0)]) [(qb, zObj)])
                    (fun i u => [.pointer (some ⟨p, 0, none⟩), .agg #[.int .i64 0, .slice none 0 0, .slice none 0 0, .bool false, .int .i64 0, .bool false], .slice (some ad) xs.length cap, .int .i64 (j : Int), .pointer (some ⟨B, O, sp⟩), .agg #[.int .u8 x.a, strV x.b, strV x.c, .int .i64 x.k], u 0].getD i undef) (fun _ => undef) 160 (by kernel_rfl) (by kernel_rfl) rfl (by kernel_rfl) (by kernel_rfl) ?_ ?_ rfl ?_
                  · simp only [R.HVs, R.HV]
                    repeat' (first | trivial | refine And.intro ?_ ?_ | exact fun _ _ _ => rfl | (refine fun h => absurd (h.symm.trans (b := _) (c := false) ?_) (by decide); kernel_rfl))
                  · refine ⟨?_, ?_, ?_, ?_, ?_, ?_, ?_, trivial⟩
                    · exact R.l_move _ (.inl rfl) (by kernel_rfl) rfl rfl (R.ev_base (by kernel_rfl) rfl)
                    · refine R.l_read (by kernel_rfl) rfl rfl (fun q u a V _ hhi hb hv hP => ?_)
                      have hh : q ≤ 0 := hhi
                      match q, hh, hP with
                      | 0, _, hP =>
                        obtain rfl : V = wr.drew := hP
                        have e1 : a.eval (.tmp 9) = .pointer (some ⟨qb, 0, none⟩) := base_ev hb (by kernel_rfl) rfl
                        unfold execOp
                        simp only [e1, Sem.run_bind, load_z wr.drew qb HQ.out, Result.andThen_ok]
                        rfl
                    · exact R.l_move _ (.inl rfl) (by kernel_rfl) rfl rfl (R.ev_base (by kernel_rfl) rfl)
                    · exact R.l_move _ (.inl rfl) (by kernel_rfl) rfl rfl (R.ev_base (by kernel_rfl) rfl)
                    · refine R.l_read (by kernel_rfl) rfl rfl (fun q u a V _ hhi hb hv hP => ?_)
                      have e1 : a.eval (.tmp 77) = .slice (some ad) xs.length cap := (R.eval_at (i := 2) rfl).trans (hv 2 (by kernel_rfl))
                      have e2 : a.eval (.tmp 78) = .int .i64 (j : Int) := (R.eval_at (i := 3) rfl).trans (hv 3 (by kernel_rfl))
                      unfold execOp
                      simp only [e1, e2]
                      simp [go_sem, hA, hlt]
                    · refine R.l_read (by kernel_rfl) rfl rfl (fun q u a V _ hhi hb hv hP => ?_)
                      have hh : q ≤ 0 := hhi
                      match q, hh, hP with
                      | 0, _, hP =>
                        obtain rfl : V = wr.drew := hP
                        have e1 : a.eval (.tmp 79) = .pointer (some ⟨B, O, sp⟩) := (R.eval_at (i := 4) rfl).trans (hv 4 (by kernel_rfl))
                        unfold execOp
                        simp only [e1, Sem.run_bind, load_act wr.drew B O sp x q0 q1 q2 q3, Result.andThen_ok]
                        rfl
                    · refine R.l_call (p := 0) (by kernel_rfl) rfl (fun u a V hb hv hP => ?_)
                      obtain rfl : V = wr.drew := hP
                      have e1 : a.eval (.tmp 75) = .pointer (some ⟨p, 0, none⟩) := (R.eval_at (i := 0) rfl).trans (hv 0 (by kernel_rfl))
                      have e2 : a.eval (.tmp 76) = .agg #[.int .i64 0, .slice none 0 0, .slice none 0 0, .bool false, .int .i64 0, .bool false] := (R.eval_at (i := 1) rfl).trans (hv 1 (by kernel_rfl))
                      have e3 : a.eval (.tmp 80) = .agg #[.int .u8 x.a, strV x.b, strV x.c, .int .i64 x.k] := (R.eval_at (i := 5) rfl).trans (hv 5 (by kernel_rfl))
                      refine ⟨_, _, by unfold execOp; simp only [resolve, invoke, Sem.run_bind, Sem.run_pure, Result.andThen_ok, List.map_toArray, List.map_cons, List.map_nil, e1, e2, e3]; rfl, ?_⟩
                      refine HDO.out.mono ?_
                      rintro e w' ⟨⟨v, rfl⟩, hS'⟩
                      exact ⟨v, rfl, hS', rfl⟩
                  · rintro u W4 hW4
                    have hS4 : Sys w W4 ((p, doM s x) :: [(pb, b0)]) [(qb, zObj)] := hW4
                    clear hW4
                    simp only [R.fill, List.getD_cons_zero, List.getD_cons_succ, List.setIfInBounds_toArray, List.set_cons_zero, List.set_cons_succ]
                    try simp only [Exit.inBlock, Exit.then]
                    try go_at_K
                    go_wp2
                    go_roundw
                    case rel => exact ⟨j + 1, doM s x, hlt0, by go_num, Lib.hid ⟨hS4, by have h1 := doM_lim (sys_ok HS.out.1) x; have h2 := HS.out.2.1; have h3 := HXL.out.2; omega, by have h1 := doM_steps s x; have h2 := HS.out.2.2.1; omega, (HS.out.2.2.2.doM x H4.out HOK.out.a.1 HXL.out.2 (by have := HG.out.1; omega)).mono (by omega)⟩⟩
                    case measure => simp [intOf]; omega
                · have hd4 : decide (x.a.tmod 7 < 4) = false := decide_eq_false (by omega)
                  clear htm h4
                  go_wp2
                  go_roundw
                  case rel => exact ⟨j + 1, s, hlt0, by go_num, Lib.hid ⟨HS.out.1, by have h2 := HS.out.2.1; omega, by have h2 := HS.out.2.2.1; omega, HS.out.2.2.2.mono (by omega)⟩⟩
                  case measure => simp [intOf]; omega
              · obtain rfl : j = n := by omega
                go_wp2_with (first
                  | (go_at_call 10; refine (sys_Copy HS.out.1 (by have := HS.out.2.1; have := HNL.out; have := HG.out.1; omega) (by have := HS.out.2.2.1; have := HNL.out; have := HG.out.1; omega)).mono ?_; rintro e W6 ⟨pe, rfl, hE6⟩; have hE7 := swap_sys hE6; clear hE6)
                  | (go_at_call 11; refine (sys_Units hE7).mono ?_; rintro e w' ⟨rfl, rfl⟩))
                go_loopw [16] (fun i wr => ∃ (j : Nat) (t : St), j ≤ xs.length ∧ i = .int .i64 j ∧ Hid (Sys w wr [(p, t), (pe, s), (pb, b0)] [(qb, zObj)] ∧ t.lim ≤ 80080 + j * 2002 ∧ t.steps.length ≤ j ∧ Beh b0 t (j * 1001) ∧ Beh s t (j * 1001))) (fun i _ => xs.length - (intOf i).toNat)
                case atStart => exact ⟨_, s, HNL.out, rfl, Lib.hid ⟨hE7, HS.out.2.1, HS.out.2.2.1, HS.out.2.2.2, HS.out.2.2.2.self⟩⟩
                case round =>
                  obtain ⟨i, t, hi, rfl, HT⟩ := hrel
                  by_cases hlt2 : i < xs.length
                  · obtain ⟨x, hx⟩ : ∃ x, xs[i]? = some x := ⟨_, List.getElem?_eq_getElem hlt2⟩
                    obtain ⟨ad, rfl⟩ : ∃ ad, a = some ad := by
                      cases a with
                      | none => have h9 : xs.length = 0 := HIA.out.2.2.2.2; omega
                      | some ad => exact ⟨ad, rfl⟩
                    obtain ⟨B, O, sp, hA, q0, q1, q2, q3⟩ := IsActs.at (HIA.out.keep (low_sys HT.out.1)) i x hx
                    have hxm := List.mem_of_getElem? hx
                    have htm := tot_mem hxm
                    have HXL : Hid (x.b.length ≤ 1000 ∧ x.c.length ≤ 1000) := Lib.hid (by have := HG.out; omega)
                    have HOK := Lib.hid (HIA.out.2.2.2.1 x hxm).1
                    have h40 := HG.out.1
                    have HQ := Lib.hid (HT.out.1.at)
                    have HDO := Lib.hid (law_does w wr.drew p t [(pe, s), (pb, b0)] [(qb, zObj)] (HT.out.1.below ((Below.refl _ wr).drew)) x HXL.out.1 HXL.out.2 HOK.out (by have := HT.out.2.1; have := HG.out.1; omega) (by have := HT.out.2.2.1; have := HG.out.1; omega))
                    clear hx hxm htm h40
                    have htm : x.a.tmod 7 = x.a % 7 := Int.tmod_eq_emod_of_nonneg HOK.out.a.1
                    by_cases h4 : x.a % 7 < 4
                    · have hd4 : decide (x.a.tmod 7 < 4) = true := decide_eq_true (by omega)
                      have H4 := Lib.hid h4
                      clear htm h4
                      go_wp2
                      refine R.wp_chain [6] (fun q _ V => match q with | 0 => V = wr.drew | _ => Sys w V ((p, doM t x) :: [(pe, s), (pb, b0)]) [(qb, zObj)])
                        (fun ii u => [.pointer (some ⟨p, 0, none⟩), .agg #[.int .i64 0, .slice none 0 0, .slice none 0 0, .bool false, .int .i64 0, .bool false], .slice (some ad) xs.length cap, .int .i64 (i : Int), .pointer (some ⟨B, O, sp⟩), .agg #[.int .u8 x.a, strV x.b, strV x.c, .int .i64 x.k], u 0].getD ii undef) (fun _ => undef) 160 (by kernel_rfl) (by kernel_rfl) rfl (by kernel_rfl) (by kernel_rfl) ?_ ?_ rfl ?_
                      · simp only [R.HVs, R.HV]
                        repeat' (first | trivial | refine And.intro ?_ ?_ | exact fun _ _ _ => rfl | (refine fun h => absurd (h.symm.trans (b := _) (c := false) ?_) (by decide); kernel_rfl))
                      · refine ⟨?_, ?_, ?_, ?_, ?_, ?_, ?_, trivial⟩
                        · exact R.l_move _ (.inl rfl) (by kernel_rfl) rfl rfl (R.ev_base (by kernel_rfl) rfl)
                        · refine R.l_read (by kernel_rfl) rfl rfl (fun q u a V _ hhi hb hv hP => ?_)
                          have hh : q ≤ 0 := hhi
                          match q, hh, hP with
                          | 0, _, hP =>
                            obtain rfl : V = wr.drew := hP
                            have e1 : a.eval (.tmp 9) = .pointer (some ⟨qb, 0, none⟩) := base_ev hb (by kernel_rfl) rfl
                            unfold execOp
                            simp only [e1, Sem.run_bind, load_z wr.drew qb HQ.out, Result.andThen_ok]
                            rfl
                        · exact R.l_move _ (.inl rfl) (by kernel_rfl) rfl rfl (R.ev_base (by kernel_rfl) rfl)
                        · exact R.l_move _ (.inl rfl) (by kernel_rfl) rfl rfl (R.ev_base (by kernel_rfl) rfl)
                        · refine R.l_read (by kernel_rfl) rfl rfl (fun q u a V _ hhi hb hv hP => ?_)
                          have e1 : a.eval (.tmp 102) = .slice (some ad) xs.length cap := (R.eval_at (i := 2) rfl).trans (hv 2 (by kernel_rfl))
                          have e2 : a.eval (.tmp 103) = .int .i64 (i : Int) := (R.eval_at (i := 3) rfl).trans (hv 3 (by kernel_rfl))
                          unfold execOp
                          simp only [e1, e2]
                          simp [go_sem, hA, hlt2]
                        · refine R.l_read (by kernel_rfl) rfl rfl (fun q u a V _ hhi hb hv hP => ?_)
                          have hh : q ≤ 0 := hhi
                          match q, hh, hP with
                          | 0, _, hP =>
                            obtain rfl : V = wr.drew := hP
                            have e1 : a.eval (.tmp 104) = .pointer (some ⟨B, O, sp⟩) := (R.eval_at (i := 4) rfl).trans (hv 4 (by kernel_rfl))
                            unfold execOp
                            simp only [e1, Sem.run_bind, load_act wr.drew B O sp x q0 q1 q2 q3, Result.andThen_ok]
                            rfl
                        · refine R.l_call (p := 0) (by kernel_rfl) rfl (fun u a V hb hv hP => ?_)
                          obtain rfl : V = wr.drew := hP
                          have e1 : a.eval (.tmp 100) = .pointer (some ⟨p, 0, none⟩) := (R.eval_at (i := 0) rfl).trans (hv 0 (by kernel_rfl))
                          have e2 : a.eval (.tmp 101) = .agg #[.int .i64 0, .slice none 0 0, .slice none 0 0, .bool false, .int .i64 0, .bool false] := (R.eval_at (i := 1) rfl).trans (hv 1 (by kernel_rfl))
                          have e3 : a.eval (.tmp 105) = .agg #[.int .u8 x.a, strV x.b, strV x.c, .int .i64 x.k] := (R.eval_at (i := 5) rfl).trans (hv 5 (by kernel_rfl))
                          refine ⟨_, _, by unfold execOp; simp only [resolve, invoke, Sem.run_bind, Sem.run_pure, Result.andThen_ok, List.map_toArray, List.map_cons, List.map_nil, e1, e2, e3]; rfl, ?_⟩
                          refine HDO.out.mono ?_
                          rintro e w' ⟨⟨v, rfl⟩, hS'⟩
                          exact ⟨v, rfl, hS', rfl⟩
                      · rintro u W4 hW4
                        have hS4 : Sys w W4 ((p, doM t x) :: [(pe, s), (pb, b0)]) [(qb, zObj)] := hW4
                        clear hW4
                        simp only [R.fill, List.getD_cons_zero, List.getD_cons_succ, List.setIfInBounds_toArray, List.set_cons_zero, List.set_cons_succ]
                        try simp only [Exit.inBlock, Exit.then]
                        try go_at_K
                        go_wp2
                        go_roundw
                        case rel => exact ⟨i + 1, doM t x, hlt2, by go_num, Lib.hid ⟨hS4, by have h1 := doM_lim (sys_ok HT.out.1) x; have h2 := HT.out.2.1; have h3 := HXL.out.2; omega, by have h1 := doM_steps t x; have h2 := HT.out.2.2.1; omega, (HT.out.2.2.2.1.doM x H4.out HOK.out.a.1 HXL.out.2 (by have := HG.out.1; omega)).mono (by omega), (HT.out.2.2.2.2.doM x H4.out HOK.out.a.1 HXL.out.2 (by have := HG.out.1; omega)).mono (by omega)⟩⟩
                        case measure => simp [intOf]; omega
                    · have hd4 : decide (x.a.tmod 7 < 4) = false := decide_eq_false (by omega)
                      clear htm h4
                      go_wp2
                      go_roundw
                      case rel => exact ⟨i + 1, t, hlt2, by go_num, Lib.hid ⟨HT.out.1, by have h2 := HT.out.2.1; omega, by have h2 := HT.out.2.2.1; omega, HT.out.2.2.2.1.mono (by omega), HT.out.2.2.2.2.mono (by omega)⟩⟩
                      case measure => simp [intOf]; omega
                  · obtain rfl : i = xs.length := by omega
                    have hT0 := HT.out.1
                    have BT : Hid (t.lim ≤ 200000 ∧ t.steps.length ≤ 40) := Lib.hid (by have := HT.out.2.1; have := HT.out.2.2.1; have := HG.out.1; omega)
                    have BS : Hid (s.lim ≤ 200000 ∧ s.steps.length ≤ 40) := Lib.hid (by have := HS.out.2.1; have := HS.out.2.2.1; have := HG.out.1; have := HNL.out; omega)
                    have hk0 : 0 ≤ keep := by have := HK.out; omega
                    have CM : Hid (∀ u : St, u.crash (min keep (s.units : Int)) = (u.crashed (min keep.toNat s.units), 0)) := Lib.hid (fun u => by
                      have e : (min keep (s.units : Int)) = ((min keep.toNat s.units : Nat) : Int) := by omega
                      rw [e]
                      unfold St.crash
                      rw [if_neg (by omega), Int.toNat_natCast])
                    have CN : Hid (∀ (u : St) (k : Nat), u.crash (k : Int) = (u.crashed k, 0)) := Lib.hid (fun u k => by
                      unfold St.crash
                      rw [if_neg (by omega), Int.toNat_natCast])
                    have UB : Hid (s.units ≤ 1000000 ∧ t.units ≤ 1000000) := Lib.hid (by
                      have h1 := (HS.out.2.2.2.ok).units
                      have h2 := (HT.out.2.2.2.1.ok).units
                      have h3 := BS.out.1
                      have h4 := BT.out.1
                      unfold St.lim at h3 h4
                      omega)
                    go_wp2_with (first
                      | (go_at_call 10; refine (sys_Copy hT0 (by have := BT.out; omega) (by have := BT.out; omega)).mono ?_; clear hT0; rintro e W7 ⟨pl, rfl, h⟩; have hT1 := swap_sys h; clear h)
                      | (go_at_call 10; refine (sys_Copy hT1 (by have := BT.out; omega) (by have := BT.out; omega)).mono ?_; clear hT1; rintro e W7 ⟨pa, rfl, h⟩; have hT2 := swap_sys h; clear h)
                      | (go_at_call 10; refine (sys_Copy hT2 (by have := BT.out; omega) (by have := BT.out; omega)).mono ?_; clear hT2; rintro e W7 ⟨pn, rfl, h⟩; have hT3 := rot (rot (rot h)); clear h)
                      | (go_at_call 9; first
                          | (have hc := sys_Crash hT3 (min keep (s.units : Int)) (by omega) (by omega) (by have := BT.out; omega) (by have := BT.out; omega); rw [CM.out] at hc; refine hc.mono ?_; clear hc hT3; rintro e W8 ⟨rfl, h⟩; have hT4 := rot h; clear h)
                          | (have hc := sys_Crash hT4 (min keep (s.units : Int)) (by omega) (by omega) (by have := BS.out; omega) (by have := BS.out; omega); rw [CM.out] at hc; refine hc.mono ?_; clear hc hT4; rintro e W8 ⟨rfl, h⟩; have hT5 := rot (rot (rot h)); clear h)
                          | (have hc := sys_Crash (rot hT5) (t.units : Int) (by have := UB.out; omega) (by omega) (by have := BT.out; omega) (by have := BT.out; omega); rw [CN.out] at hc; refine hc.mono ?_; clear hc hT5; rintro e W8 ⟨rfl, h⟩; have hT6 := rot (rot (rot (rot h))); clear h)
                          | (have hc := sys_Crash hT6 ((0 : Nat) : Int) (by omega) (by omega) (by have := BT.out; omega) (by have := BT.out; omega); rw [CN.out] at hc; refine hc.mono ?_; clear hc hT6; rintro e W8 ⟨rfl, hT7⟩))
                      | (go_at_call 11; first
                          | (refine (sys_Units hT5).mono ?_; rintro e w' ⟨rfl, rfl⟩)
                          | (refine (sys_Units (rot (rot (rot hTa)))).mono ?_; rintro e w' ⟨rfl, rfl⟩))
                      | (go_at_call 12; first
                          | (refine (law_alike (rot (rot (rot hT7))) (rot (rot (rot (rot hT7)))) (crash_early HS.out.2.2.2.ok HS.out.2.2.2.down HT.out.2.2.2.2 _ (Nat.min_le_right _ _)) (by have := BT.out; have := St.crashed_lim HT.out.2.2.2.1.ok (min keep.toNat s.units); omega) (by have := BS.out; have := St.crashed_lim HS.out.2.2.2.ok (min keep.toNat s.units); omega)).mono ?_; rintro e W9 ⟨rfl, hb⟩; have hT8 := hT7.below hb; clear hT7 hb)
                          | (refine (law_alike (rot (rot hT8)) (rot hT8) (crash_all HT.out.2.2.2.1.ok) (by have := BT.out; have := St.crashed_lim HT.out.2.2.2.1.ok t.units; omega) (by have := BT.out; omega)).mono ?_; rintro e W9 ⟨rfl, hb⟩; have hT9 := hT8.below hb; clear hT8 hb)
                          | (refine (law_alike hT9 (rot (rot (rot (rot (rot hT9))))) (by rw [crash_zero]; exact HT.out.2.2.2.1.synced.trans HB0.out.2.2.2.2.1) (by have := BT.out; have := St.crashed_lim HT.out.2.2.2.1.ok 0; omega) (by have := HB0.out.1; omega)).mono ?_; rintro e W9 ⟨rfl, hb⟩; have hTa := hT9.below hb; clear hT9 hb))
                      | (go_at_call 7; refine (law_head _).mono ?_; rintro e w' ⟨rfl, hb⟩; have hTb := hTa.below hb; clear hTa hb))
                    go_ret
                    exact ⟨rfl, low_sys hTb⟩
          · have hn1 : n = 0 := hnle.1 (by omega)
            subst hn1
            have hd0 : decide ((0 : Int) < (xs.length : Int)) = false := decide_eq_false (by omega)
            clear hn hnle
            go_wp2_with (first
              | (go_at_call 9; refine hc1.mono ?_; clear hc1; rintro e W4 ⟨rfl, hS4⟩)
              | (go_at_call 10; refine (sys_Copy hS4 (by have := HB0.out.1; omega) (by have := HB0.out.2.2.2.2.2; omega)).mono ?_; clear hS4; rintro e W5 ⟨pb, rfl, hS5⟩))
            have hS6 := swap_sys hS5
            clear hS5
            go_loopw [13] (fun i wr => ∃ (j : Nat) (s : St), j ≤ 0 ∧ i = .int .i64 j ∧ Hid (Sys w wr [(p, s), (pb, b0)] [(qb, zObj)] ∧ s.lim ≤ 80080 + j * 2002 ∧ s.steps.length ≤ j ∧ Beh b0 s (j * 1001))) (fun i _ => 0 - (intOf i).toNat)
            case atStart => exact ⟨0, b0, Nat.zero_le _, rfl, Lib.hid ⟨hS6, by have := HB0.out.1; omega, by have := HB0.out.2.2.2.2.2; omega, (Beh.refl HB0.out.2.1 HB0.out.2.2.1 HB0.out.2.2.2.1).mono (by omega)⟩⟩
            case round =>
              obtain ⟨j, s, hj, rfl, HS⟩ := hrel
              by_cases hlt0 : j < 0
              · exact absurd hlt0 (Nat.not_lt_zero _)
              · obtain rfl : j = 0 := by omega
                go_wp2_with (first
                  | (go_at_call 10; refine (sys_Copy HS.out.1 (by have := HS.out.2.1; have := HNL.out; have := HG.out.1; omega) (by have := HS.out.2.2.1; have := HNL.out; have := HG.out.1; omega)).mono ?_; rintro e W6 ⟨pe, rfl, hE6⟩; have hE7 := swap_sys hE6; clear hE6)
                  | (go_at_call 11; refine (sys_Units hE7).mono ?_; rintro e w' ⟨rfl, rfl⟩))
                go_loopw [16] (fun i wr => ∃ (j : Nat) (t : St), j ≤ xs.length ∧ i = .int .i64 j ∧ Hid (Sys w wr [(p, t), (pe, s), (pb, b0)] [(qb, zObj)] ∧ t.lim ≤ 80080 + j * 2002 ∧ t.steps.length ≤ j ∧ Beh b0 t (j * 1001) ∧ Beh s t (j * 1001))) (fun i _ => xs.length - (intOf i).toNat)
                case atStart => exact ⟨_, s, HNL.out, rfl, Lib.hid ⟨hE7, HS.out.2.1, HS.out.2.2.1, HS.out.2.2.2, HS.out.2.2.2.self⟩⟩
                case round =>
                  obtain ⟨i, t, hi, rfl, HT⟩ := hrel
                  by_cases hlt2 : i < xs.length
                  · omega
                  · obtain rfl : i = xs.length := by omega
                    have hT0 := HT.out.1
                    have BT : Hid (t.lim ≤ 200000 ∧ t.steps.length ≤ 40) := Lib.hid (by have := HT.out.2.1; have := HT.out.2.2.1; have := HG.out.1; omega)
                    have BS : Hid (s.lim ≤ 200000 ∧ s.steps.length ≤ 40) := Lib.hid (by have := HS.out.2.1; have := HS.out.2.2.1; have := HG.out.1; have := HNL.out; omega)
                    have hk0 : 0 ≤ keep := by have := HK.out; omega
                    have CM : Hid (∀ u : St, u.crash (min keep (s.units : Int)) = (u.crashed (min keep.toNat s.units), 0)) := Lib.hid (fun u => by
                      have e : (min keep (s.units : Int)) = ((min keep.toNat s.units : Nat) : Int) := by omega
                      rw [e]
                      unfold St.crash
                      rw [if_neg (by omega), Int.toNat_natCast])
                    have CN : Hid (∀ (u : St) (k : Nat), u.crash (k : Int) = (u.crashed k, 0)) := Lib.hid (fun u k => by
                      unfold St.crash
                      rw [if_neg (by omega), Int.toNat_natCast])
                    have UB : Hid (s.units ≤ 1000000 ∧ t.units ≤ 1000000) := Lib.hid (by
                      have h1 := (HS.out.2.2.2.ok).units
                      have h2 := (HT.out.2.2.2.1.ok).units
                      have h3 := BS.out.1
                      have h4 := BT.out.1
                      unfold St.lim at h3 h4
                      omega)
                    go_wp2_with (first
                      | (go_at_call 10; refine (sys_Copy hT0 (by have := BT.out; omega) (by have := BT.out; omega)).mono ?_; clear hT0; rintro e W7 ⟨pl, rfl, h⟩; have hT1 := swap_sys h; clear h)
                      | (go_at_call 10; refine (sys_Copy hT1 (by have := BT.out; omega) (by have := BT.out; omega)).mono ?_; clear hT1; rintro e W7 ⟨pa, rfl, h⟩; have hT2 := swap_sys h; clear h)
                      | (go_at_call 10; refine (sys_Copy hT2 (by have := BT.out; omega) (by have := BT.out; omega)).mono ?_; clear hT2; rintro e W7 ⟨pn, rfl, h⟩; have hT3 := rot (rot (rot h)); clear h)
                      | (go_at_call 9; first
                          | (have hc := sys_Crash hT3 (min keep (s.units : Int)) (by omega) (by omega) (by have := BT.out; omega) (by have := BT.out; omega); rw [CM.out] at hc; refine hc.mono ?_; clear hc hT3; rintro e W8 ⟨rfl, h⟩; have hT4 := rot h; clear h)
                          | (have hc := sys_Crash hT4 (min keep (s.units : Int)) (by omega) (by omega) (by have := BS.out; omega) (by have := BS.out; omega); rw [CM.out] at hc; refine hc.mono ?_; clear hc hT4; rintro e W8 ⟨rfl, h⟩; have hT5 := rot (rot (rot h)); clear h)
                          | (have hc := sys_Crash (rot hT5) (t.units : Int) (by have := UB.out; omega) (by omega) (by have := BT.out; omega) (by have := BT.out; omega); rw [CN.out] at hc; refine hc.mono ?_; clear hc hT5; rintro e W8 ⟨rfl, h⟩; have hT6 := rot (rot (rot (rot h))); clear h)
                          | (have hc := sys_Crash hT6 ((0 : Nat) : Int) (by omega) (by omega) (by have := BT.out; omega) (by have := BT.out; omega); rw [CN.out] at hc; refine hc.mono ?_; clear hc hT6; rintro e W8 ⟨rfl, hT7⟩))
                      | (go_at_call 11; first
                          | (refine (sys_Units hT5).mono ?_; rintro e w' ⟨rfl, rfl⟩)
                          | (refine (sys_Units (rot (rot (rot hTa)))).mono ?_; rintro e w' ⟨rfl, rfl⟩))
                      | (go_at_call 12; first
                          | (refine (law_alike (rot (rot (rot hT7))) (rot (rot (rot (rot hT7)))) (crash_early HS.out.2.2.2.ok HS.out.2.2.2.down HT.out.2.2.2.2 _ (Nat.min_le_right _ _)) (by have := BT.out; have := St.crashed_lim HT.out.2.2.2.1.ok (min keep.toNat s.units); omega) (by have := BS.out; have := St.crashed_lim HS.out.2.2.2.ok (min keep.toNat s.units); omega)).mono ?_; rintro e W9 ⟨rfl, hb⟩; have hT8 := hT7.below hb; clear hT7 hb)
                          | (refine (law_alike (rot (rot hT8)) (rot hT8) (crash_all HT.out.2.2.2.1.ok) (by have := BT.out; have := St.crashed_lim HT.out.2.2.2.1.ok t.units; omega) (by have := BT.out; omega)).mono ?_; rintro e W9 ⟨rfl, hb⟩; have hT9 := hT8.below hb; clear hT8 hb)
                          | (refine (law_alike hT9 (rot (rot (rot (rot (rot hT9))))) (by rw [crash_zero]; exact HT.out.2.2.2.1.synced.trans HB0.out.2.2.2.2.1) (by have := BT.out; have := St.crashed_lim HT.out.2.2.2.1.ok 0; omega) (by have := HB0.out.1; omega)).mono ?_; rintro e W9 ⟨rfl, hb⟩; have hTa := hT9.below hb; clear hT9 hb))
                      | (go_at_call 7; refine (law_head _).mono ?_; rintro e w' ⟨rfl, hb⟩; have hTb := hTa.below hb; clear hTa hb))
                    go_ret
                    exact ⟨rfl, low_sys hTb⟩
end Go.Proofs.Ytfmigkmkdhciiaa.K
