/-
  Contracts of package record: the first record; all records, one after the other.
-/
import Derived.Test.YtnglalahhdkebaaRJ
import Derived.RangeFuncFrom
import Derived.RangeFuncLeaves
import Derived.RangeFuncBox
import Derived.RangeFuncCalls
import Derived.Shelf.RegionOpen
import Derived.OwnWalkIn
import Derived.TacticsInMore
import Derived.LoopNIn
import Derived.LoopIn
namespace Go.Proofs.Ytnglalahhdkebaa.Q
set_option linter.unusedVariables false
set_option linter.unusedSimpArgs false
set_option maxRecDepth 100000
open Go Go.RowKit Wire

def res3 (s : Bs) : Array Value := match first s with
  | some (t, k) => #[.string (ba t), .int .i64 (k : Nat), .bool true]
  | none => #[.string (ba []), .int .i64 0, .bool false]
set_option maxHeartbeats 1000000 in
theorem record_first (s : Bs) (hs : s.length ≤ 900000) (w : World) :
    Calls Try.prog 39 #[.string (ba s)] w fun e w' => e = .returned (.tuple (res3 s)) ∧ Below w.heap.size w w' := by
  have hrl := fun W => record_readLength s hs W
  have hss : (ba s).size = s.length := ba_size s
  cases hn : numOf s with
  | none =>
    have hr : res3 s = #[.string (ba []), .int .i64 0, .bool false] := by unfold res3 first; rw [hn]
    have hl : lenOf s = 0 := by unfold lenOf; rw [hn]
    have hh : headOf s ≤ 4 := by unfold headOf; rw [hn]; simp only; omega
    rw [hn, hl] at hrl
    rw [hr]
    clear hr hn hl
    simp only [Option.isSome_none] at hrl
    generalize headOf s = hd at *
    go_enter Try.func39, Try.ntmps39
    go_wp2_with (go_at_call 49; refine (hrl _).mono ?_; rintro e w1 ⟨rfl, hb1⟩)
    exact bodyPost_ret (results_tmp3 rfl _ _ _) rfl ⟨rfl, hb1⟩
  | some p =>
    obtain ⟨n, r⟩ := p
    obtain ⟨e, hle⟩ := numOf_some hn
    have hh : headOf s = (enc n).length := by unfold headOf; rw [hn]
    have hl : lenOf s = n := by unfold lenOf; rw [hn]
    have h4 := enc_le4 hle
    rw [hn, hh, hl] at hrl
    have hlen : s.length = (enc n).length + r.length := by rw [e, List.length_append]
    have hsl : s.length - r.length = (enc n).length := by omega
    simp only [Option.isSome_some] at hrl
    obtain ⟨c, hc⟩ : ∃ c : Nat, c = (enc n).length + n + 4 := ⟨_, rfl⟩
    have hc1 : ((enc n).length : Int) + (n : Int) + 4 = (c : Int) := by omega
    by_cases h5 : r.length < n + 4
    · have hr : res3 s = #[.string (ba []), .int .i64 0, .bool false] := by unfold res3 first; rw [hn]; simp only; rw [if_pos h5]
      have hlt : s.length < c := by omega
      rw [hr]
      clear hr hn e hlen h5 hh hl hc hsl
      generalize (enc n).length = hd at *
      go_enter Try.func39, Try.ntmps39
      go_wp2_with (go_at_call 49; refine (hrl _).mono ?_; rintro e w1 ⟨rfl, hb1⟩)
      exact bodyPost_ret (results_tmp3 rfl _ _ _) rfl ⟨rfl, hb1⟩
    · have hlt : ¬ s.length < c := by omega
      have hle2 : c ≤ s.length := by omega
      have hex := ba_extract_to s c
      have htl : (s.take c).length = c := by rw [List.length_take]; omega
      have hopen := fun W => S.sum_Open (ba (s.take c)) (by rw [ba_size, htl]; omega) W
      rw [ba_list] at hopen
      have hk : s.take ((enc n).length + n) = enc n ++ r.take n := by rw [e, List.take_length_add_append]
      cases hb : Crc.isSealed (s.take c) with
      | false =>
        have hr : res3 s = #[.string (ba []), .int .i64 0, .bool false] := by
          unfold res3 first; rw [hn]; simp only; rw [if_neg h5, hsl, ← hc, hb, if_neg (by simp)]
        rw [hr]
        rw [hb] at hopen
        have hopen2 : ∀ W, Calls Try.prog 50 #[.string (ba (s.take c))] W fun e w' => ∃ y, e = .returned (.tuple #[.string y, .bool false]) ∧ Below W.heap.size W w' := fun W => (hopen W).mono (fun e w' h => ⟨_, h⟩)
        clear hr hn e hlen h5 hh hl hc hsl hb hk htl hopen
        generalize s.take c = x at *
        generalize (enc n).length = hd at *
        go_enter Try.func39, Try.ntmps39
        go_wp2_with (first
          | (go_at_call 49; refine (hrl _).mono ?_; rintro e w1 ⟨rfl, hb1⟩)
          | (go_at_call 50; refine (hopen2 _).mono ?_; rintro e w2 ⟨y, rfl, hb2⟩))
        exact bodyPost_ret (results_tmp3 rfl _ _ _) rfl ⟨rfl, below_next hb1 hb2⟩
      | true =>
        have hr : res3 s = #[.string (ba (r.take n)), .int .i64 (c : Nat), .bool true] := by
          unfold res3 first; rw [hn]; simp only; rw [if_neg h5, hsl, ← hc, hb, if_pos rfl]
        have hbody : S.bodyB (ba (s.take c)) = ba (enc n ++ r.take n) := by
          unfold S.bodyB
          rw [ba_list, hb, if_pos rfl, ba_size, htl, ba_extract_to, List.take_take, show min (c - 4) c = (enc n).length + n by omega, hk]
        rw [hr]
        rw [hb, hbody] at hopen
        have hex2 : (ba (enc n ++ r.take n)).extract (enc n).length ((enc n).length + n) = ba (r.take n) := by
          have := ba_extract_from (enc n ++ r.take n) (enc n).length
          rw [List.drop_left, List.length_append, List.length_take, Nat.min_eq_left (by omega)] at this
          exact this
        have hys : (ba (enc n ++ r.take n)).size = (enc n).length + n := by rw [ba_size, List.length_append, List.length_take, Nat.min_eq_left (by omega)]
        clear hr hn e hlen h5 hh hl hc hsl hb hk htl hbody
        generalize s.take c = x at *
        generalize ba (enc n ++ r.take n) = y at *
        generalize (enc n).length = hd at *
        generalize r.take n = t at *
        go_enter Try.func39, Try.ntmps39
        go_wp2_with (first
          | (go_at_call 49; refine (hrl _).mono ?_; rintro e w1 ⟨rfl, hb1⟩)
          | (go_at_call 50; refine (hopen _).mono ?_; rintro e w2 ⟨rfl, hb2⟩))
        exact bodyPost_ret (results_tmp3 rfl _ _ _) rfl ⟨rfl, below_next hb1 hb2⟩

theorem record_records (s : Bs) (w : World) :
    Calls Try.prog 26 #[.string (ba s)] w fun e w' => e = .returned (.func (.func 38) #[] #[.pointer (some ⟨w.heap.size, 0, none⟩)]) ∧ w' = w.alloc (.cells #[.string (ba s)] 9) := by
  go_enter Try.func26, Try.ntmps26
  go_wp2
  go_ret
  exact ⟨rfl, rfl⟩

/-! ### The iterator -/
attribute [local go_sem] Oper.semAt_some
def encP (x : Bs × Nat) : Array Value := #[.string (ba x.1), .int .i64 (x.2 : Nat)]
def pairs (l : List Bs) : List (Bs × Nat) := (List.range l.length).map fun j => (l.getD j [], (rowB (l.take (j + 1))).length)
theorem pairs_length (l : List Bs) : (pairs l).length = l.length := by simp [pairs]
theorem pairs_at {l : List Bs} {j : Nat} {x : Bs} (h : l[j]? = some x) : (pairs l)[j]? = some (x, (rowB (l.take (j + 1))).length) := by
  have hj := (List.getElem?_eq_some_iff.1 h).1
  simp only [pairs, List.getElem?_map, List.getElem?_range hj, Option.map_some]
  rw [List.getD_eq_getElem?_getD, h]; rfl
theorem pairs_fst (l : List Bs) : (pairs l).map Prod.fst = l := by
  apply List.ext_getElem?
  intro j
  rw [List.getElem?_map]
  by_cases hj : j < l.length
  · rw [pairs_at (List.getElem?_eq_getElem hj), List.getElem?_eq_getElem hj]; rfl
  · rw [List.getElem?_eq_none (by rw [pairs_length]; omega), List.getElem?_eq_none (by omega)]; rfl
/-- What a round keeps: the bytes' box. -/
def KpB (b : Nat) (W W' : World) : Prop := ∀ cs t fr, W.heap[b]? = some (.cells cs t fr) → W'.heap[b]? = some (.cells cs t fr)
theorem grown_of_below {W W' : World} (h : Below W.heap.size W W') : W.grownBy W' none := ⟨h.os, h.tape, h.output, h.size, fun k hk _ => h.block k hk⟩

set_option maxHeartbeats 2000000 in
theorem records_stops (n : Nat) (hn : 2 ≤ n) (b : Nat) (s : Bs) (l : List Bs) (rest : Bs) (hsc : IsScan s l rest) (hs : s.length ≤ 900000) (w : World) (hb : w.heap[b]? = some (.cells #[.string (ba s)] 9 (0, 0))) :
    SeqStopsK Fence.wide n Try.prog 38 #[.pointer (some ⟨b, 0, none⟩)] encP (KpB b) (fun xs => xs = pairs l) (fun _ => True) l.length w := by
  intro lp J Jx W hW hJ hJx hY h0
  have HSC := hid hsc
  have hbW : W.heap[b]? = some (.cells #[.string (ba s)] 9 (0, 0)) := (hW.block b (lt_of_some hb)).trans hb
  have hss : (ba s).size = s.length := ba_size s
  have hll : l.length ≤ 900000 := by have := row_count l; have := scan_len hsc; omega
  clear hsc hb
  refine callsIn_of_wp Try.func38 rfl trivial ?_ rfl
  simp only [Try.ntmps38, List.size_toArray, List.length_cons, List.length_nil, Nat.reduceAdd, Nat.reduceSub, Array.replicate_succ, Array.replicate_zero, List.push_toArray, List.append_toArray, List.nil_append, List.cons_append]
  gi_wp2
  gi_loopw [3] (fun i wr => ∃ k : Nat, k ≤ l.length ∧ i = .int .i64 ((rowB (l.take k)).length : Nat) ∧ Hid (J ((pairs l).take k) wr) ∧ Hid (wr.heap[b]? = some (.cells #[.string (ba s)] 9 (0, 0)))) (fun i _ => s.length - (intOf i).toNat)
  case atStart => exact ⟨0, by omega, rfl, hid h0, hid hbW⟩
  case round =>
    obtain ⟨k, hk, rfl, HJ, HB⟩ := hrel
    have hat := scan_bound HSC.out k
    have hcb : wr.cell? ⟨b, 0, none⟩ = some (.string (ba s)) := (cell_of_heap HB.out).trans rfl
    have hex : (ba s).extract (rowB (l.take k)).length s.length = ba (s.drop (rowB (l.take k)).length) := ba_extract_from s _
    have hdl : (s.drop (rowB (l.take k)).length).length ≤ 900000 := by rw [List.length_drop]; omega
    have hfirst := fun W => record_first (s.drop (rowB (l.take k)).length) hdl W
    have HJJ := hid hJ
    have HJX := hid hJx
    by_cases hlt : k < l.length
    · obtain ⟨x, hx⟩ : ∃ x, l[k]? = some x := ⟨_, List.getElem?_eq_getElem hlt⟩
      have hf := scan_first HSC.out hx
      have hfr : res3 (s.drop (rowB (l.take k)).length) = #[.string (ba x), .int .i64 ((record x).length : Nat), .bool true] := by unfold res3; rw [hf]
      simp only [hfr] at hfirst
      have hnext : (rowB (l.take (k + 1))).length = (rowB (l.take k)).length + (record x).length := by rw [rowB_take_succ hx, List.length_append]
      have hb2 := scan_bound HSC.out (k + 1)
      have h5 := record_pos x
      have hnx2 : ((rowB (l.take k)).length : Int) + ((record x).length : Int) = ((rowB (l.take (k + 1))).length : Int) := by omega
      have hpk : ((pairs l).take k).length = k := by rw [List.length_take, pairs_length]; omega
      have hps : (pairs l).take (k + 1) = (pairs l).take k ++ [(x, (rowB (l.take (k + 1))).length)] := by rw [List.take_add_one, pairs_at hx]; rfl
      have HX := hid hx
      have HPS := hid hps
      have HNX := hid hnext
      clear hx hf hfr hnext hps
      gi_wp2_with (refine ⟨trivial, fun h => (by cases h), (callsIn_wide.2 (hfirst _)).mono ?_⟩; rintro e w1 ⟨rfl, hb1⟩; have HB1 := hid hb1; clear hb1)
      obtain ⟨fn, tmps, assign, body, hy, hR⟩ := hY _ (x, (rowB (l.take (k + 1))).length) w1 (HJJ.out _ wr w1 none HJ.out (grown_of_below HB1.out) (fun r h => (by cases h))) (by rw [hpk]; exact hlt)
      simp only [encP] at hy
      have HB2 := hid ((HB1.out.block b (lt_of_some HB.out)).trans HB.out)
      rw [hy]
      gi_wp2
      refine ⟨fun h => (by cases h), hR.mono ?_⟩
      rintro e W' (⟨rfl, hj, hkp⟩ | ⟨rfl, hj⟩)
      · rw [← HPS.out] at hj
        have HJ2 := hid hj
        have HB3 := hid (hkp _ _ _ HB2.out)
        clear hj hkp
        gi_wp2
        go_roundw
        case rel => exact ⟨k + 1, hlt, rfl, HJ2, HB3⟩
        case measure => simp [intOf]; omega
      · gi_wp2
        refine bodyPost_ret (results_none rfl _ _ _) rfl ?_
        exact ⟨⟨_, rfl⟩, .inr ⟨_, trivial, hj⟩⟩
    · obtain rfl : k = l.length := by omega
      rw [List.take_length] at hat hex hdl hfirst ⊢
      rw [scan_rest HSC.out] at hdl hex hfirst
      have hfr : res3 rest = #[.string (ba []), .int .i64 0, .bool false] := by unfold res3; rw [HSC.out.stop]
      simp only [hfr] at hfirst
      have hpt : (pairs l).take l.length = pairs l := by rw [← pairs_length l, List.take_length]
      rw [hpt] at HJ
      clear hfr hpt
      gi_wp2_with (refine ⟨trivial, fun h => (by cases h), (callsIn_wide.2 (hfirst _)).mono ?_⟩; rintro e w1 ⟨rfl, hb1⟩; have HB1 := hid hb1; clear hb1)
      refine ⟨fun f h => (by cases h), ?_⟩
      gi_wp2
      refine bodyPost_ret (results_none rfl _ _ _) rfl ?_
      exact ⟨⟨_, rfl⟩, .inl ⟨_, rfl, HJJ.out _ wr w1 none HJ.out (grown_of_below HB1.out) (fun r h => (by cases h))⟩⟩
end Go.Proofs.Ytnglalahhdkebaa.Q
