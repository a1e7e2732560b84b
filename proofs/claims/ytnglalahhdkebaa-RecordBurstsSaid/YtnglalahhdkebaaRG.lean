/-
  Contracts of the document's record: what a rest is, what is scanned, rows that are the same.
-/
import Derived.Test.YtnglalahhdkebaaRF
namespace Go.Proofs.Ytnglalahhdkebaa.Q
set_option linter.unusedVariables false
set_option linter.unusedSimpArgs false
set_option maxRecDepth 100000
open Go Go.RowKit Wire

set_option maxHeartbeats 1000000 in
theorem ref_Part (s : Bs) (hs : s.length ≤ 900000) (w : World) :
    Calls Try.prog 29 #[.string (ba s)] w fun e w' => e = .returned (.bool (part s)) ∧ Below w.heap.size w w' := by
  have hnum : ∀ W, Calls Try.prog 41 #[.agg #[.string (ba s), .bool true], .int .u64 65536] W fun e w' => e = .returned (.tuple #[.int .u64 ((takeNum (some s) 65536).1 : Nat), .agg (rcells (takeNum (some s) 65536).2)]) ∧ Below W.heap.size W w' := fun W => ref_TakeNum (some s) (show s.length ≤ 1000000 by omega) 65536 W
  have hlenB := fun W => ref_Length s hs W
  cases hn : numOf s with
  | none =>
    rw [numOf_fail hn] at hnum
    simp only [rcells] at hnum
    have hp : part s = lenB s := by unfold part; rw [hn]; simp
    rw [hp]
    clear hn hp
    cases hb : lenB s with
    | false =>
      rw [hb] at hlenB
      clear hb
      go_enter Try.func29, Try.ntmps29
      go_wp2_with (go_at_call 42; refine (hlenB _).mono ?_; rintro e w0 ⟨rfl, rfl⟩)
      go_ret
      exact ⟨rfl, Below.refl _ _⟩
    | true =>
      rw [hb] at hlenB
      clear hb
      go_enter Try.func29, Try.ntmps29
      go_wp2_with (first
        | (go_at_call 42; refine (hlenB _).mono ?_; rintro e w0 ⟨rfl, rfl⟩)
        | (go_at_call 41; refine (hnum _).mono ?_; rintro e w1 ⟨rfl, hb1⟩))
      go_ret
      exact ⟨rfl, hb1.alloc hb1.size _⟩
  | some p =>
    obtain ⟨n, r⟩ := p
    obtain ⟨e, hle⟩ := numOf_some hn
    rw [numOf_eq hn] at hnum
    simp only [rcells] at hnum
    rw [lenB_num hn] at hlenB
    have hrs : (ba r).size = r.length := ba_size r
    have hlen : s.length = (enc n).length + r.length := by rw [e, List.length_append]
    have hc1 : IntKind.u64.wrap (r.length : Int) = r.length := by rw [wrap_u64]; omega
    have hc2 : IntKind.u64.wrap ((n : Int) + 4) = ((n + 4 : Nat) : Int) := by rw [wrap_u64]; omega
    have hp : part s = (if n + 4 ≤ r.length then false else if r.length ≤ n then true else s.isPrefixOf (record (r.take n))) := by
      unfold part; rw [lenB_num hn, hn, Bool.true_and]
    rw [hp]
    clear hp
    by_cases h4 : n + 4 ≤ r.length
    · rw [if_pos h4]
      have hd : decide ((n : Int) + 4 ≤ (r.length : Int)) = true := decide_eq_true (by omega)
      have hd2 : decide (((n + 4 : Nat) : Int) ≤ (r.length : Int)) = true := decide_eq_true (by omega)
      clear hn e h4 hlen
      go_enter Try.func29, Try.ntmps29
      go_wp2_with (first
        | (go_at_call 42; refine (hlenB _).mono ?_; rintro e w0 ⟨rfl, rfl⟩)
        | (go_at_call 41; refine (hnum _).mono ?_; rintro e w1 ⟨rfl, hb1⟩))
      go_ret
      exact ⟨rfl, hb1.alloc hb1.size _⟩
    rw [if_neg h4]
    have hd : decide ((n : Int) + 4 ≤ (r.length : Int)) = false := decide_eq_false (by omega)
    have hd2 : decide (((n + 4 : Nat) : Int) ≤ (r.length : Int)) = false := decide_eq_false (by omega)
    by_cases h5 : r.length ≤ n
    · rw [if_pos h5]
      have hd3 : decide ((r.length : Int) ≤ (n : Int)) = true := decide_eq_true (by omega)
      clear hn e h4 hlen
      go_enter Try.func29, Try.ntmps29
      go_wp2_with (first
        | (go_at_call 42; refine (hlenB _).mono ?_; rintro e w0 ⟨rfl, rfl⟩)
        | (go_at_call 41; refine (hnum _).mono ?_; rintro e w1 ⟨rfl, hb1⟩))
      go_ret
      exact ⟨rfl, hb1.alloc hb1.size _⟩
    · rw [if_neg h5]
      have hd3 : decide ((r.length : Int) ≤ (n : Int)) = false := decide_eq_false (by omega)
      have htl : (r.take n).length = n := by rw [List.length_take]; omega
      have hx1 := ba_extract_to r n
      have hnr : n ≤ r.length := by omega
      have hrec := fun W => ref_Record (r.take n) (by omega) W
      have hbeg := fun W => ref_begins s (record (r.take n)) (by omega) (by rw [record_length, htl]; have := enc_le4 hle; omega) W
      have hw : IntKind.i64.wrap (n : Int) = n := by simp [IntKind.wrap, IntKind.bits, IntKind.signed]; omega
      generalize s.isPrefixOf (record (r.take n)) = b at *
      clear hn e h4 hlen htl
      generalize record (r.take n) = x at *
      generalize r.take n = t at *
      go_enter Try.func29, Try.ntmps29
      go_wp2_with (first
        | (go_at_call 42; refine (hlenB _).mono ?_; rintro e w0 ⟨rfl, rfl⟩)
        | (go_at_call 41; refine (hnum _).mono ?_; rintro e w1 ⟨rfl, hb1⟩)
        | (go_at_call 12; refine (hrec _).mono ?_; rintro e w2 ⟨rfl, hb2⟩)
        | (go_at_call 43; refine (hbeg _).mono ?_; rintro e w3 ⟨rfl, rfl⟩))
      go_ret
      exact ⟨rfl, (hb1.alloc hb1.size _).trans (hb2.mono (by have := hb1.size; simp; omega))⟩

/-! ### Rows of strings that the call makes -/
def strCells (l : List Bs) : List Value := l.map fun x => .string (ba x)
theorem strCells_length (l : List Bs) : (strCells l).length = l.length := by simp [strCells]
theorem strCells_snoc (l : List Bs) (x : Bs) : strCells (l ++ [x]) = strCells l ++ [.string (ba x)] := by simp [strCells]
def OutV (w : World) (B : Nat) (v : Value) (l : List Bs) : Prop := w.ownsRow B 9 1 v l.length (strCells l)
theorem str_info : (Try.prog.info? 9).map (fun i => (i.zero, i.size, i.bytes)) = some (some (.string ⟨#[]⟩), 1, 16) := by kernel_rfl
theorem OutV.sv {w : World} {B : Nat} {v : Value} {l : List Bs} (h : OutV w B v l) : SV w v l := by
  rcases h.2 with ⟨rfl, h0⟩ | ⟨g, cap, cur, rfl, hB, hg, h1, h2, _⟩
  · have : l = [] := List.eq_nil_of_length_eq_zero h0
    subst this
    exact SV.nil w
  · refine ⟨_, _, cap, rfl, rfl, h1, h2, fun h => (by cases h), fun i x hx => ⟨_, rfl, ?_⟩⟩
    exact h.cells (g := g) rfl i _ (by simp [strCells, hx])
theorem out_form {w : World} {B : Nat} {v : Value} {n : Nat} {xs : List Value} (h : w.ownsRow B 9 1 v n xs) : ∃ p c, v = .slice p n c := by
  rcases h.2 with ⟨rfl, rfl⟩ | ⟨g', cap, cur, rfl, _⟩
  · exact ⟨_, _, rfl⟩
  · exact ⟨_, _, rfl⟩
theorem OutV.below {w w' : World} {B : Nat} {v : Value} {l : List Bs} (h : OutV w B v l) (hb : Below w.heap.size w w') : OutV w' B v l := by
  refine ⟨h.1, ?_⟩
  rcases h.2 with hn | ⟨g', cap, cur, rfl, hB', hgg, rest⟩
  · exact .inl hn
  · exact .inr ⟨g', cap, cur, rfl, hB', (hb.block g' (lt_of_some hgg)).trans hgg, rest⟩

theorem scan_bound {s : Bs} {l : List Bs} {rest : Bs} (h : IsScan s l rest) (k : Nat) : (rowB (l.take k)).length ≤ s.length := by
  have := scan_len h; have := row_len_le (l := l) k; omega
theorem row_count (l : List Bs) : 5 * l.length ≤ (rowB l).length := by
  induction l with
  | nil => simp [rowB]
  | cons t r ih => rw [rowB_cons, List.length_append, List.length_cons]; have := record_pos t; omega
theorem stB_le (s : Bs) : stB s ≤ 2 := by unfold stB; split; omega; split <;> omega

set_option maxHeartbeats 1000000 in
theorem ref_Scan (s : Bs) (l : List Bs) (rest : Bs) (hsc : IsScan s l rest) (hs : s.length ≤ 900000) (w : World) :
    Calls Try.prog 14 #[.string (ba s)] w fun e w' => ∃ v, e = .returned (.tuple #[v, .int .i64 ((rowB l).length : Nat), .int .u8 (stB rest : Nat)]) ∧ SV w' v l ∧ Below w.heap.size w w' := by
  have HSC := hid hsc
  have hss : (ba s).size = s.length := ba_size s
  obtain ⟨i0, hi, hz0, hz1, hz2⟩ := info_parts str_info
  have hln := row_count l
  have hsl := scan_len hsc
  have hll : l.length ≤ 900000 := by omega
  have HSL := hid hsl
  clear hsc hln hsl
  go_enter Try.func14, Try.ntmps14
  go_wp2
  go_loopw [5, 6] (fun o i wr => ∃ k : Nat, k ≤ l.length ∧ i = .int .i64 ((rowB (l.take k)).length : Nat) ∧ Hid (OutV wr w.heap.size o (l.take k)) ∧ Hid (Below w.heap.size w wr)) (fun o i _ => s.length - (intOf i).toNat)
  case atStart => exact ⟨0, by omega, rfl, hid (World.ownsRow_nil _ _ _ _), hid (Below.refl _ _)⟩
  case round =>
    rename_i o _ 
    obtain ⟨k, hk, rfl, HO, HB⟩ := hrel
    have hat := scan_bound HSC.out k
    have hex : (ba s).extract (rowB (l.take k)).length s.length = ba (s.drop (rowB (l.take k)).length) := ba_extract_from s _
    have hdl : (s.drop (rowB (l.take k)).length).length ≤ 900000 := by rw [List.length_drop]; omega
    have hfirst := fun W => ref_First (s.drop (rowB (l.take k)).length) hdl W
    have hpart := fun W => ref_Part (s.drop (rowB (l.take k)).length) hdl W
    by_cases hlt : k < l.length
    · obtain ⟨x, hx⟩ : ∃ x, l[k]? = some x := ⟨_, List.getElem?_eq_getElem hlt⟩
      have hf := scan_first HSC.out hx
      have h5 := record_pos x
      have hnext : (rowB (l.take (k + 1))).length = (rowB (l.take k)).length + (record x).length := by rw [rowB_take_succ hx, List.length_append]
      have hb2 := scan_bound HSC.out (k + 1)
      have hfr : firstRes (s.drop (rowB (l.take k)).length) = #[.string (ba x), .int .i64 ((record x).length : Nat)] := by unfold firstRes; rw [hf]
      simp only [hfr] at hfirst
      have hltn : (rowB (l.take k)).length < s.length := by omega
      have hne : ((record x).length == 0) = false := by rw [beq_eq_false_iff_ne]; omega
      have hne2 : (((record x).length : Int) == 0) = false := by rw [beq_eq_false_iff_ne]; omega
      have htk : (l.take k).length = k := by rw [List.length_take]; omega
      have HX := hid hx
      have HNX := hid hnext
      have hnx2 : ((rowB (l.take k)).length : Int) + ((record x).length : Int) = ((rowB (l.take (k + 1))).length : Int) := by omega
      clear hx hf hnext hpart hfr
      go_wp2_with (first
        | (go_at_call 28; refine (hfirst _).mono ?_; rintro e w1 ⟨rfl, hb1⟩; have ho1 := HO.out.below hb1; have hB1 := HB.out.trans (hb1.mono HB.out.size); have HB1 := hid hB1; clear hb1 hB1)
        | (at_builtin; refine wpList_append_own _ rfl _ _ 22 rfl w.heap.size 9 i0 (.string ⟨#[]⟩) 1 16 Try.underlying22 hi hz0 hz1 hz2 rfl (by decide) _ (l.take k).length (strCells (l.take k)) rfl (ho1.alloc (.cells #[.string (ba x)] 9)) ⟨w1.heap.size, 0, none⟩ 1 1 [.string (ba x)] rfl rfl (cell_one_new _ _ _) (by intro u hu; simp at hu; subst hu; rfl) (by rw [htk]; unfold maxLen; omega) (by rw [htk]; omega) (by have := HB1.out.size; simp; omega) ?_; intro v' w2 hown hgr hnil
           have hb2 : Below w.heap.size w w2 := (HB1.out.alloc HB1.out.size _).grown hgr (by have := HB1.out.size; simp; omega) (fun j hj => (ho1.lt j hj).1)
           have HB2 := hid hb2; have HO2 := hid hown; clear hb2 hown hgr hnil))
      go_roundw
      case rel =>
        refine ⟨k + 1, hlt, by go_num, hid ?_, HB2⟩
        unfold OutV
        have e1 : l.take (k + 1) = l.take k ++ [x] := by rw [List.take_add_one, HX.out]; rfl
        rw [e1, strCells_snoc, List.length_append]
        exact HO2.out
      case measure => simp [intOf]; omega
    · obtain rfl : k = l.length := by omega
      have hlk : l.take l.length = l := List.take_length
      rw [hlk] at HO hat hex hfirst hpart hdl ⊢
      have hrest : s.drop (rowB l).length = rest := scan_rest HSC.out
      rw [hrest] at hex hfirst hpart
      have HSV := hid HO.out.sv
      by_cases hr : rest = []
      · subst hr
        have hnlt : ¬ (rowB l).length < s.length := by have := HSL.out; simp at this; omega
        clear hfirst hpart hex hrest hlk hlt
        go_wp2
        exact bodyPost_ret (results_tmp3 rfl _ _ _) rfl ⟨_, rfl, HSV.out, HB.out⟩
      · have hst := HSC.out.stop
        have hfr : firstRes rest = #[.string (ba []), .int .i64 0] := by unfold firstRes; rw [hst]
        simp only [hfr] at hfirst
        have hrl : 0 < rest.length := by cases rest with | nil => exact absurd rfl hr | cons => simp
        have hltn : (rowB l).length < s.length := by have := HSL.out; omega
        cases hb : part rest with
        | true =>
          have hs1 : stB rest = 1 := by unfold stB; rw [if_neg hr, if_pos hb]
          rw [hb] at hpart
          clear hr hst hfr hrest hlk hlt hb
          go_wp2_with (first
            | (go_at_call 28; refine (hfirst _).mono ?_; rintro e w1 ⟨rfl, hb1⟩)
            | (go_at_call 29; refine (hpart _).mono ?_; rintro e w2 ⟨rfl, hb2⟩))
          exact bodyPost_ret (results_tmp3 rfl _ _ _) rfl ⟨_, by rw [hs1]; rfl, (HSV.out.keep hb1).keep hb2, HB.out.trans ((below_next hb1 hb2).mono HB.out.size)⟩
        | false =>
          have hs1 : stB rest = 2 := by unfold stB; rw [if_neg hr, if_neg (by rw [hb]; simp)]
          rw [hb] at hpart
          clear hr hst hfr hrest hlk hlt hb
          go_wp2_with (first
            | (go_at_call 28; refine (hfirst _).mono ?_; rintro e w1 ⟨rfl, hb1⟩)
            | (go_at_call 29; refine (hpart _).mono ?_; rintro e w2 ⟨rfl, hb2⟩))
          exact bodyPost_ret (results_tmp3 rfl _ _ _) rfl ⟨_, by rw [hs1]; rfl, (HSV.out.keep hb1).keep hb2, HB.out.trans ((below_next hb1 hb2).mono HB.out.size)⟩
end Go.Proofs.Ytnglalahhdkebaa.Q
