/-
  The law on rows, cut anywhere.
-/
import Derived.Test.YtnglalahhdkebaaRN
namespace Go.Proofs.Ytnglalahhdkebaa.Q
set_option linter.unusedVariables false
set_option linter.unusedSimpArgs false
set_option maxRecDepth 100000
open Go Go.RowKit Wire

theorem IsSV.take {w : World} {ad : Option Addr} {len cap : Nat} {l : List Bs} (h : IsSV w ad len cap l) {n : Nat} (hn : n ≤ l.length) : IsSV w ad n cap (l.take n) := by
  have h1 := h.hlen
  have h2 := h.hle
  refine ⟨by rw [List.length_take]; omega, by omega, h.hmax, fun e => by have := h.hnil e; omega, fun i x hx => ?_⟩
  rw [List.getElem?_take] at hx
  split at hx
  · exact h.hcell i x hx
  · cases hx
theorem slice_sv {w : World} {ad : Option Addr} {len cap : Nat} {l : List Bs} (h : IsSV w ad len cap l) {n : Nat} (hn : n ≤ l.length) (V : World) : (Instr.sliceAt 22 (.slice ad len cap) none (some (.int .i64 (n : Nat))) none).run Try.prog V = .ok (.slice ad n cap) V := by
  have h1 := h.hlen
  have h2 := h.hle
  have h3 := h.hmax
  cases ad with
  | none =>
    obtain ⟨rfl, rfl⟩ := h.hnil rfl
    obtain rfl : n = 0 := by omega
    simp [Instr.sliceAt, Instr.slice, go_sem]
  | some a =>
    have h4 : n ≤ cap := by omega
    simp [Instr.sliceAt, Instr.slice, go_sem, h4]

set_option maxHeartbeats 4000000 in
theorem law_RecordPuts (w : World) (v : Value) (l : List Bs) (hv : SV w v l) (hsm : ∀ x ∈ l, x.length ≤ 140737488355328) (c : Nat) (hc : c < 65536) :
    Calls Try.prog 3 #[v, .int .u16 (c : Int)] w fun e w' => e = .returned (.bool true) ∧ Below w.heap.size w w' := by
  have HV := hid hv
  have HGR := hid (law_great w v l hv hsm)
  obtain ⟨ad, len, cap, rfl, hI⟩ := hv
  have HI := hid hI
  have hm : len ≤ 9223372036854775807 := by have h1 := hI.hle; have h2 := hI.hmax; unfold maxLen at h2; omega
  have hlc : len ≤ cap := hI.hle
  clear hI hsm
  go_enter Try.func3, Try.ntmps3
  go_wp2_with (fail)
  go_at_call 7
  refine HGR.out.mono ?_
  rintro e w1 ⟨g, rfl, hb1, hg⟩
  have HB1 := hid hb1
  clear HGR hb1
  cases g with
  | true =>
    clear hg
    go_wp2_with (go_at_call 8; refine (law_head _).mono ?_; rintro e w' ⟨rfl, hb⟩)
    go_ret
    exact ⟨rfl, below_next HB1.out hb⟩
  | false =>
    obtain ⟨h60, htot⟩ := hg rfl
    have hsmall : ∀ t ∈ l, t.length ≤ 65536 := fun t ht => by have := mem_tot ht; omega
    have hN : (rowB l).length ≤ 900000 := by have := row_tot l hsmall; omega
    have HSM := hid hsmall
    have hV1 := HV.out.keep HB1.out
    have hput := record_Put_ok l _ w1 hV1 hsmall hN
    have hrput := fun W (hW : Below w1.heap.size w1 W) => ref_Put_ok l _ W (hV1.keep hW) hsmall hN
    have hscan : ∀ W, Below w1.heap.size w1 W → Calls Try.prog 11 #[.string (ba (rowB l)), .slice ad len cap, .int .i64 ((rowB l).length : Nat), .int .u8 0] W fun e w' => e = .returned (.bool true) ∧ Below W.heap.size W w' := fun W hW => law_scans (scan_row hsmall) hN _ W (hV1.keep hW) _ 0 rfl stB_nil
    have hrs : (ba (rowB l)).size = (rowB l).length := ba_size _
    obtain ⟨k, hk⟩ : ∃ k : Nat, k = c % ((rowB l).length + 1) := ⟨_, rfl⟩
    have hkl : k ≤ (rowB l).length := by have := Nat.mod_lt c (show 0 < (rowB l).length + 1 by omega); omega
    have uw : IntKind.i64.wrap (c : Int) = (c : Int) := by simp [IntKind.wrap, IntKind.bits, IntKind.signed]; omega
    have hk2 : (c : Int).tmod (((rowB l).length : Int) + 1) = (k : Int) := by rw [hk]; rfl
    have hdz : (((rowB l).length : Int) + 1 == 0) = false := by rw [beq_eq_false_iff_ne]; omega
    have hex := ba_extract_to (rowB l) k
    have HNN := hid hN
    clear hk h60 htot hsmall hg hV1
    go_wp2_with (first
      | (go_at_call 9; (with_reducible refine hput.mono ?_); rintro e w2 ⟨rfl, hb2⟩; have HB2 := hid hb2; clear hb2 hput)
      | (go_at_call 10; (with_reducible refine (hrput _ HB2.out).mono ?_); rintro e w3 ⟨rfl, hb3⟩; have HB3 := hid (below_next HB2.out hb3); clear hb3 hrput)
      | (go_at_call 11; (with_reducible refine (hscan _ HB3.out).mono ?_); rintro e w4 ⟨rfl, hb4⟩; have HB4 := hid (below_next HB1.out (below_next HB3.out hb4)); clear hb4 hscan))
    go_loopw [10, 11] (fun t i wr => ∃ n : Nat, n ≤ l.length ∧ i = .int .i64 n ∧ t = .int .i64 ((rowB (l.take n)).length : Nat) ∧ Hid ((rowB (l.take n)).length ≤ k) ∧ Hid (Below w.heap.size w wr)) (fun t i _ => l.length - (intOf i).toNat)
    case atStart => exact ⟨0, by omega, rfl, rfl, hid (by simp [rowB]), HB4⟩
    case round =>
      obtain ⟨n, hn, rfl, rfl, HK, HB⟩ := hrel
      have hll : l.length = len := HI.out.hlen
      have hkN : k ≤ 900000 := by omega
      by_cases hlt : n < len
      · cases hadd : ad with
        | none => have := (HI.out.hnil hadd).1; omega
        | some a =>
        subst hadd
        obtain ⟨x, hx, hcx⟩ := (HI.out.keep HB.out).at hlt
        have HX := hid hx
        have hx65 := HSM.out x (List.mem_of_getElem? hx)
        have hrec := fun W => ref_Record x (by omega) W
        have hrsz : (ba (record x)).size = (record x).length := ba_size _
        have hnext : (rowB (l.take (n + 1))).length = (rowB (l.take n)).length + (record x).length := by rw [rowB_take_succ hx, List.length_append]
        have hle1 := row_len_le (l := l) n
        have hle2 := row_len_le (l := l) (n + 1)
        have hnx2 : ((rowB (l.take n)).length : Int) + ((record x).length : Int) = ((rowB (l.take (n + 1))).length : Int) := by omega
        have HNX := hid hnext
        clear hx hnext
        by_cases hle : (rowB (l.take (n + 1))).length ≤ k
        · have d0 : decide (((rowB (l.take (n + 1))).length : Int) ≤ (k : Int)) = true := decide_eq_true (by omega)
          have HLE := hid hle
          have hcy : ∀ W, Below wr.heap.size wr W → W.cell? (a.add n) = some (.string (ba x)) := fun W hW => (hW.cell (World.block_lt_of_cell? wr _ hcx)).trans hcx
          go_wp2_with (first
            | (go_at_call 12; (with_reducible refine (hrec _).mono ?_); rintro e w5 ⟨rfl, hb5⟩; first | (have HB6 := hid (below_next HB5.out hb5)) | (have HB5 := hid hb5; have hcz := hcy w5 hb5); clear hb5))
          go_roundw
          case rel => exact ⟨n + 1, by omega, by go_num, rfl, HLE, hid (HB.out.trans (HB6.out.mono HB.out.size))⟩
          case measure => simp [intOf]; omega
        · have hend : ∀ t, l[n]? = some t → k < (rowB (l.take n)).length + (record t).length := fun t ht => by
            have h1 := HX.out
            rw [ht] at h1
            obtain rfl := Option.some.inj h1
            have := HNX.out
            omega
          have HEND := hid hend
          have d0 : decide (((rowB (l.take (n + 1))).length : Int) ≤ (k : Int)) = false := decide_eq_false (by omega)
          clear hend
          have hsc2 := hid (scan_cut HSM.out hn HK.out HEND.out hkl)
          obtain ⟨rest, hsr, hst⟩ := hsc2.out
          have hsvt : IsSV wr (some a) n cap (l.take n) := (HI.out.keep HB.out).take hn
          have hsc : ∀ W : World, Below wr.heap.size wr W → Calls Try.prog 11 #[.string (ba ((rowB l).take k)), .slice (some a) n cap, .int .i64 ((rowB (l.take n)).length : Nat), .int .u8 ((if (rowB (l.take n)).length = k then 0 else 1 : Nat) : Int)] W fun e w' => e = .returned (.bool true) ∧ Below W.heap.size W w' := fun W hW =>
            law_scans hsr (by rw [List.length_take]; omega) _ W ⟨_, _, _, rfl, hsvt.keep hW⟩ _ _ rfl hst
          have HBT := hid HB.out.size
          clear hsc2 hsr hst hsvt
          by_cases hwh : (rowB (l.take n)).length = k
          · rw [if_pos hwh] at hsc
            have hscL : ∀ W : World, Below wr.heap.size wr W → Calls Try.prog 11 #[.string (ba ((rowB l).take k)), .slice (some a) n cap, .int .i64 ((rowB (l.take n)).length : Nat), .int .u8 0] W fun e w' => e = .returned (.bool true) ∧ Below W.heap.size W w' := hsc
            clear hsc
            subst hwh
            generalize (rowB (l.take n)).length = at' at *
            have hsl := slice_sv HI.out hn
            generalize ba ((rowB l).take at') = X at *
            go_wp2_with (first
            | (go_at_call 12; (with_reducible refine (hrec _).mono ?_); rintro e w5 ⟨rfl, hb5⟩))
            refine wp_region_later w5.heap.size (by kernel_rfl) (by kernel_rfl) ?_
            repeat (go_big_quiet_step (first | (go_at_call 11; with_reducible exact Calls.later_of (Nat.le_refl _) (hscL _ (below_next hb5 (Later.ok _)))) | (go_at_call 8; with_reducible exact Calls.later_of (Nat.le_refl _) (law_head _))))
            refine wpQuiet_nil ?_
            rintro _ ⟨p, rfl⟩
            go_wp2
            go_ret
            exact ⟨rfl, HB.out.trans ((below_next hb5 p.ok).mono HBT.out)⟩
          · rw [if_neg hwh] at hsc
            have hscL : ∀ W : World, Below wr.heap.size wr W → Calls Try.prog 11 #[.string (ba ((rowB l).take k)), .slice (some a) n cap, .int .i64 ((rowB (l.take n)).length : Nat), .int .u8 1] W fun e w' => e = .returned (.bool true) ∧ Below W.heap.size W w' := hsc
            clear hsc
            have d1 : ((((rowB (l.take n)).length : Nat) : Int) == (k : Int)) = false := by rw [beq_eq_false_iff_ne]; omega
            have d2 : ¬ ((((rowB (l.take n)).length : Nat) : Int) = (k : Int)) := by omega
            generalize (rowB (l.take n)).length = at' at *
            have hsl := slice_sv HI.out hn
            generalize ba ((rowB l).take k) = X at *
            go_wp2_with (first
            | (go_at_call 12; (with_reducible refine (hrec _).mono ?_); rintro e w5 ⟨rfl, hb5⟩))
            refine wp_region_later w5.heap.size (by kernel_rfl) (by kernel_rfl) ?_
            repeat (go_big_quiet_step (first | (go_at_call 11; with_reducible exact Calls.later_of (Nat.le_refl _) (hscL _ (below_next hb5 (Later.ok _)))) | (go_at_call 8; with_reducible exact Calls.later_of (Nat.le_refl _) (law_head _))))
            refine wpQuiet_nil ?_
            rintro _ ⟨p, rfl⟩
            go_wp2
            go_ret
            exact ⟨rfl, HB.out.trans ((below_next hb5 p.ok).mono HBT.out)⟩
      · obtain rfl : n = len := by omega
        have HEND := hid (show ∀ t, l[n]? = some t → k < (rowB (l.take n)).length + (record t).length from fun t ht => by
          have := (List.getElem?_eq_some_iff.1 ht).1
          omega)
        have hsc2 := hid (scan_cut HSM.out hn HK.out HEND.out hkl)
        obtain ⟨rest, hsr, hst⟩ := hsc2.out
        have hsvt : IsSV wr ad n cap (l.take n) := (HI.out.keep HB.out).take hn
        have hsc : ∀ W : World, Below wr.heap.size wr W → Calls Try.prog 11 #[.string (ba ((rowB l).take k)), .slice ad n cap, .int .i64 ((rowB (l.take n)).length : Nat), .int .u8 ((if (rowB (l.take n)).length = k then 0 else 1 : Nat) : Int)] W fun e w' => e = .returned (.bool true) ∧ Below W.heap.size W w' := fun W hW =>
          law_scans hsr (by rw [List.length_take]; omega) _ W ⟨_, _, _, rfl, hsvt.keep hW⟩ _ _ rfl hst
        have HBT := hid HB.out.size
        clear hsc2 hsr hst hsvt
        by_cases hwh : (rowB (l.take n)).length = k
        · rw [if_pos hwh] at hsc
          have hscL : ∀ W : World, Below wr.heap.size wr W → Calls Try.prog 11 #[.string (ba ((rowB l).take k)), .slice ad n cap, .int .i64 ((rowB (l.take n)).length : Nat), .int .u8 0] W fun e w' => e = .returned (.bool true) ∧ Below W.heap.size W w' := hsc
          clear hsc
          subst hwh
          generalize (rowB (l.take n)).length = at' at *
          have hsl := slice_sv HI.out hn
          generalize ba ((rowB l).take at') = X at *
          go_wp2_with (first | fail)
          refine wp_region_later wr.heap.size (by kernel_rfl) (by kernel_rfl) ?_
          repeat (go_big_quiet_step (first | (go_at_call 11; with_reducible exact Calls.later_of (Nat.le_refl _) (hscL _ (Later.ok _))) | (go_at_call 8; with_reducible exact Calls.later_of (Nat.le_refl _) (law_head _))))
          refine wpQuiet_nil ?_
          rintro _ ⟨p, rfl⟩
          go_wp2
          go_ret
          exact ⟨rfl, HB.out.trans (p.ok.mono HBT.out)⟩
        · rw [if_neg hwh] at hsc
          have hscL : ∀ W : World, Below wr.heap.size wr W → Calls Try.prog 11 #[.string (ba ((rowB l).take k)), .slice ad n cap, .int .i64 ((rowB (l.take n)).length : Nat), .int .u8 1] W fun e w' => e = .returned (.bool true) ∧ Below W.heap.size W w' := hsc
          clear hsc
          have d1 : ((((rowB (l.take n)).length : Nat) : Int) == (k : Int)) = false := by rw [beq_eq_false_iff_ne]; omega
          have d2 : ¬ ((((rowB (l.take n)).length : Nat) : Int) = (k : Int)) := by omega
          generalize (rowB (l.take n)).length = at' at *
          have hsl := slice_sv HI.out hn
          generalize ba ((rowB l).take k) = X at *
          go_wp2_with (first | fail)
          refine wp_region_later wr.heap.size (by kernel_rfl) (by kernel_rfl) ?_
          repeat (go_big_quiet_step (first | (go_at_call 11; with_reducible exact Calls.later_of (Nat.le_refl _) (hscL _ (Later.ok _))) | (go_at_call 8; with_reducible exact Calls.later_of (Nat.le_refl _) (law_head _))))
          refine wpQuiet_nil ?_
          rintro _ ⟨p, rfl⟩
          go_wp2
          go_ret
          exact ⟨rfl, HB.out.trans (p.ok.mono HBT.out)⟩
end Go.Proofs.Ytnglalahhdkebaa.Q
