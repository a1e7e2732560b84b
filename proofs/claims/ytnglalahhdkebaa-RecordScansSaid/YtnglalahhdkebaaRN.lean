/-
  The laws' helpers: what is scanned as told; the bytes that the document fixes.
-/
import Derived.Test.YtnglalahhdkebaaRL
namespace Go.Proofs.Ytnglalahhdkebaa.Q
set_option linter.unusedVariables false
set_option linter.unusedSimpArgs false
set_option maxRecDepth 100000
open Go Go.RowKit Wire

set_option maxHeartbeats 1000000 in
theorem law_scans {s : Bs} {m : List Bs} {rest : Bs} (h : IsScan s m rest) (hs : s.length ≤ 900000) (v : Value) (w : World) (hv : SV w v m) (N st : Nat) (hN : (rowB m).length = N) (hst : stB rest = st) :
    Calls Try.prog 11 #[.string (ba s), v, .int .i64 (N : Nat), .int .u8 (st : Nat)] w fun e w' => e = .returned (.bool true) ∧ Below w.heap.size w w' := by
  have hscan := fun W => record_Scan s m rest h hs W
  rw [hN, hst] at hscan
  have HV := hid hv
  obtain ⟨ad, len, cap, rfl, _⟩ := hv
  clear hN hst
  go_enter Try.func11, Try.ntmps11
  go_wp2_with (first
    | (go_at_call 13; refine (hscan _).mono ?_; rintro e w1 ⟨v2, rfl, hv2, hb1⟩; have hsame := ref_Same m m v2 (.slice ad len cap) w1 hv2 (HV.out.keep hb1); rw [decide_eq_true rfl] at hsame)
    | (go_at_call 15; refine hsame.mono ?_; rintro e w2 ⟨rfl, hb2⟩))
  go_ret
  exact ⟨rfl, below_next hb1 hb2⟩

theorem numOf_parse {s : Bs} (h : parse s = none) : numOf s = none := by
  unfold numOf; rw [takeNum_of_none h]
theorem first_numOf {s : Bs} (h : numOf s = none) : first s = none := by unfold first; rw [h]
theorem bad_of {s : Bs} (hp : parse s = none) (hl : lenB s = false) (hne : s ≠ []) : first s = none ∧ stB s = 2 := by
  have h := numOf_parse hp
  refine ⟨first_numOf h, ?_⟩
  unfold stB part; rw [if_neg hne, hl]; rfl
theorem torn_of {s : Bs} (hp : parse s = none) (hl : lenB s = true) (hne : s ≠ []) : first s = none ∧ stB s = 1 := by
  have h := numOf_parse hp
  refine ⟨first_numOf h, ?_⟩
  unfold stB part; rw [if_neg hne, hl, h]; rfl
theorem five : first [5] = none ∧ stB [5] = 1 := by
  have h : numOf [5] = some (5, []) := numOf_enc (n := 5) (by omega) []
  have h1 : first [5] = none := by unfold first; rw [h]; rfl
  refine ⟨h1, ?_⟩
  unfold stB part; rw [h]; rfl
theorem SV.new (w : World) (l : List Bs) (hl : l.length ≤ 1000000) (h0 : 0 < l.length) : SV (w.alloc (.cells (strCells l).toArray 9)) (.slice (some ⟨w.heap.size, 0, none⟩) l.length l.length) l := by
  refine ⟨_, _, _, rfl, rfl, Nat.le_refl _, by unfold maxLen; omega, fun h => (by cases h), fun i x hx => ⟨_, rfl, ?_⟩⟩
  rw [Addr.add_lit, Nat.zero_add, cell_of_heap (heap_alloc_last _ _)]
  simp [strCells, hx]

def hrow : Bs := rowB [[97], []]
theorem hrow_len : hrow.length = 11 := by
  show (rowB [[97], []]).length = 11
  rw [rowB_cons, rowB_cons, rowB_nil, List.length_append, List.length_append, record_length, record_length, enc_small (by simp), enc_small (by simp)]
  rfl
theorem h97 : (rowB [[97]]).length = 6 := by
  rw [rowB_cons, rowB_nil, List.length_append, record_length, enc_small (by simp)]
  rfl
theorem scans_nil (s : Bs) (hs : s.length ≤ 10) (st : Nat) (h : first s = none ∧ stB s = st) (W : World) :
    Calls Try.prog 11 #[.string (ba s), .slice none 0 0, .int .i64 0, .int .u8 (st : Nat)] W fun e w' => e = .returned (.bool true) ∧ Below W.heap.size W w' :=
  law_scans (s := s) (m := []) ⟨rfl, fun t ht => (by cases ht), h.1⟩ (by omega) _ W (SV.nil W) 0 st rfl h.2

set_option maxHeartbeats 4000000 in
theorem law_head (w : World) : Calls Try.prog 8 #[] w fun e w' => e = .returned (.bool true) ∧ Below w.heap.size w w' := by
  have hsm : ∀ t ∈ [[97], []], (t : Bs).length ≤ 65536 := by
    intro t ht
    simp at ht
    rcases ht with rfl | rfl <;> simp
  have hput : ∀ W : World, Calls Try.prog 9 #[.slice (some ⟨W.heap.size, 0, none⟩) 2 2] (W.alloc (.cells #[.string ⟨#[97]⟩, .string ⟨#[]⟩] 9)) fun e w' => e = .returned (.tuple #[.string (ba hrow), .int .i64 0]) ∧ Below W.heap.size W w' := fun W => by
    refine (record_Put_ok [[97], []] _ _ (SV.new W [[97], []] (by simp) (by simp)) hsm (by show hrow.length ≤ _; rw [hrow_len]; omega)).mono ?_
    rintro e w' ⟨rfl, hb⟩
    exact ⟨rfl, ((Below.refl _ W).alloc (Nat.le_refl _) _).trans (hb.mono (by simp))⟩
  have s1 : ∀ W : World, Calls Try.prog 11 #[.string (ba hrow), .slice (some ⟨W.heap.size, 0, none⟩) 2 2, .int .i64 11, .int .u8 0] (W.alloc (.cells #[.string ⟨#[97]⟩, .string ⟨#[]⟩] 9)) fun e w' => e = .returned (.bool true) ∧ Below W.heap.size W w' := fun W => by
    refine (law_scans (scan_row hsm) (by show hrow.length ≤ _; rw [hrow_len]; omega) _ _ (SV.new W [[97], []] (by simp) (by simp)) 11 0 hrow_len rfl).mono ?_
    rintro e w' ⟨rfl, hb⟩
    exact ⟨rfl, ((Below.refl _ W).alloc (Nat.le_refl _) _).trans (hb.mono (by simp))⟩
  obtain ⟨r2, q1, q2⟩ := scan_cut hsm (k := 10) (n := 1) (by simp) (by show (rowB [[97]]).length ≤ _; rw [h97]; omega) (by
    intro t ht
    obtain rfl : [] = t := by simpa using ht
    show _ < (rowB [[97]]).length + _
    rw [h97, record_length, enc_small (by simp)]; simp) (by show _ ≤ hrow.length; rw [hrow_len]; omega)
  have s2 : ∀ W : World, Calls Try.prog 11 #[.string (ba (hrow.take 10)), .slice (some ⟨W.heap.size, 0, none⟩) 1 1, .int .i64 6, .int .u8 1] (W.alloc (.cells #[.string ⟨#[97]⟩] 9)) fun e w' => e = .returned (.bool true) ∧ Below W.heap.size W w' := fun W => by
    refine (law_scans (s := hrow.take 10) (m := [[97]]) q1 (by rw [List.length_take]; omega) _ _ (SV.new W [[97]] (by simp) (by simp)) 6 1 h97 (q2.trans (by rw [if_neg]; show ¬ (rowB [[97]]).length = 10; rw [h97]; omega))).mono ?_
    rintro e w' ⟨rfl, hb⟩
    exact ⟨rfl, ((Below.refl _ W).alloc (Nat.le_refl _) _).trans (hb.mono (by simp))⟩
  have s3 : ∀ W : World, Calls Try.prog 11 #[.string (ba (hrow ++ [5])), .slice (some ⟨W.heap.size, 0, none⟩) 2 2, .int .i64 11, .int .u8 1] (W.alloc (.cells #[.string ⟨#[97]⟩, .string ⟨#[]⟩] 9)) fun e w' => e = .returned (.bool true) ∧ Below W.heap.size W w' := fun W => by
    refine (law_scans (s := hrow ++ [5]) (m := [[97], []] ++ []) (scan_behind hsm ⟨rfl, fun t ht => (by cases ht), five.1⟩) (by rw [List.length_append, hrow_len]; simp) _ _ (SV.new W [[97], []] (by simp) (by simp)) 11 1 hrow_len five.2).mono ?_
    rintro e w' ⟨rfl, hb⟩
    exact ⟨rfl, ((Below.refl _ W).alloc (Nat.le_refl _) _).trans (hb.mono (by simp))⟩
  have s4 : ∀ W, Calls Try.prog 11 #[.string ⟨#[130, 0]⟩, .slice none 0 0, .int .i64 0, .int .u8 2] W fun e w' => e = .returned (.bool true) ∧ Below W.heap.size W w' := scans_nil [130, 0] (by simp) 2 (bad_of (by decide) (by decide) (by simp))
  have s5 : ∀ W, Calls Try.prog 11 #[.string ⟨#[132]⟩, .slice none 0 0, .int .i64 0, .int .u8 2] W fun e w' => e = .returned (.bool true) ∧ Below W.heap.size W w' := scans_nil [132] (by simp) 2 (bad_of (by decide) (by decide) (by simp))
  have s6 : ∀ W, Calls Try.prog 11 #[.string ⟨#[129, 5]⟩, .slice none 0 0, .int .i64 0, .int .u8 2] W fun e w' => e = .returned (.bool true) ∧ Below W.heap.size W w' := scans_nil [129, 5] (by simp) 2 (bad_of (by decide) (by decide) (by simp))
  have s7 : ∀ W, Calls Try.prog 11 #[.string ⟨#[131, 2]⟩, .slice none 0 0, .int .i64 0, .int .u8 2] W fun e w' => e = .returned (.bool true) ∧ Below W.heap.size W w' := scans_nil [131, 2] (by simp) 2 (bad_of (by decide) (by decide) (by simp))
  have s8 : ∀ W, Calls Try.prog 11 #[.string ⟨#[131]⟩, .slice none 0 0, .int .i64 0, .int .u8 1] W fun e w' => e = .returned (.bool true) ∧ Below W.heap.size W w' := scans_nil [131] (by simp) 1 (torn_of (by decide) (by decide) (by simp))
  have s9 : ∀ W, Calls Try.prog 11 #[.string ⟨#[]⟩, .slice none 0 0, .int .i64 0, .int .u8 0] W fun e w' => e = .returned (.bool true) ∧ Below W.heap.size W w' := scans_nil [] (by simp) 0 ⟨first_nil, rfl⟩
  have hrs : (ba hrow).size = 11 := by rw [ba_size, hrow_len]
  have hx10 := ba_extract_to hrow 10
  have happ : ba hrow ++ ⟨#[5]⟩ = ba (hrow ++ [5]) := ba_append hrow [5]
  have h5s : (⟨#[5]⟩ : ByteArray).size = 1 := rfl
  clear q1 q2 hsm
  generalize ba hrow = R0 at *
  generalize ba (hrow.take 10) = R1 at *
  generalize ba (hrow ++ [5]) = R2 at *
  go_enter Try.func8, Try.ntmps8
  go_wp2_with (first
    | (go_at_call 9; (with_reducible refine (hput _).mono ?_); rintro e w1 ⟨rfl, hb1⟩; clear hput)
    | (go_at_call 11; first
      | ((with_reducible refine (s1 _).mono ?_); rintro e w2 ⟨rfl, hb2⟩; clear s1)
      | ((with_reducible refine (s2 _).mono ?_); rintro e w3 ⟨rfl, hb3⟩; clear s2)
      | ((with_reducible refine (s3 _).mono ?_); rintro e w4 ⟨rfl, hb4⟩; clear s3)
      | ((with_reducible refine (s4 _).mono ?_); rintro e w5 ⟨rfl, hb5⟩; clear s4)
      | ((with_reducible refine (s5 _).mono ?_); rintro e w6 ⟨rfl, hb6⟩; clear s5)
      | ((with_reducible refine (s6 _).mono ?_); rintro e w7 ⟨rfl, hb7⟩; clear s6)
      | ((with_reducible refine (s7 _).mono ?_); rintro e w8 ⟨rfl, hb8⟩; clear s7)
      | ((with_reducible refine (s8 _).mono ?_); rintro e w9 ⟨rfl, hb9⟩; clear s8)
      | ((with_reducible refine (s9 _).mono ?_); rintro e w10 ⟨rfl, hb10⟩; clear s9)))
  go_ret
  exact ⟨rfl, below_next hb1 (below_next hb2 (below_next hb3 (below_next hb4 (below_next hb5 (below_next hb6 (below_next hb7 (below_next hb8 (below_next hb9 hb10))))))))⟩
end Go.Proofs.Ytnglalahhdkebaa.Q
