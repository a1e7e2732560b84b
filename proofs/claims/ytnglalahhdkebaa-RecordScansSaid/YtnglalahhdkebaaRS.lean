/-
  The law on any bytes, scanned.
-/
import Derived.Test.YtnglalahhdkebaaRN
namespace Go.Proofs.Ytnglalahhdkebaa.Q
set_option linter.unusedVariables false
set_option linter.unusedSimpArgs false
set_option maxRecDepth 100000
open Go Go.RowKit Wire

theorem scans_great (S : ByteArray) (hs : S.size ≤ 9223372036854775807) (hg : ¬ S.size ≤ 3000) (w : World) :
    Calls Try.prog 4 #[.string S] w fun e w' => e = .returned (.bool true) ∧ Below w.heap.size w w' := by
  have h1 : decide ((3000 : Int) < (S.size : Int)) = true := decide_eq_true (by omega)
  have h2 : 3000 < S.size := by omega
  go_enter Try.func4, Try.ntmps4
  go_wp2_with (go_at_call 8; refine (law_head _).mono ?_; rintro e w' ⟨rfl, hb⟩)
  go_ret
  exact ⟨rfl, hb⟩

set_option maxHeartbeats 4000000 in
theorem scans_small (s : Bs) (hs : s.length ≤ 3000) (w : World) :
    Calls Try.prog 4 #[.string (ba s)] w fun e w' => e = .returned (.bool true) ∧ Below w.heap.size w w' := by
  obtain ⟨l, rest, h⟩ := scan_ex s
  have hlen := scan_len h
  have hscan := fun W => record_Scan s l rest h (by omega) W
  have href := fun W => ref_Scan s l rest h (by omega) W
  have hput := fun v W hv => record_Put_ok l v W hv h.small (by omega)
  have hss : (ba s).size = s.length := ba_size s
  have hex : (ba s).extract 0 (rowB l).length = ba (rowB l) := by rw [ba_extract_to, scan_taken h]
  have hle : (rowB l).length ≤ s.length := by omega
  have hst : (rest = [] → stB rest = 0) ∧ (rest ≠ [] → ¬ stB rest = 0) := by
    refine ⟨fun e => by rw [e]; rfl, fun e => ?_⟩
    unfold stB
    rw [if_neg e]
    split <;> omega
  have key : (stB rest = 0 ∧ (rowB l).length = s.length) ∨ (¬ stB rest = 0 ∧ (rowB l).length < s.length) := by
    by_cases e : rest = []
    · exact .inl ⟨hst.1 e, by rw [e] at hlen; simp at hlen; omega⟩
    · have : 0 < rest.length := by cases rest with | nil => exact absurd rfl e | cons => simp
      exact .inr ⟨hst.2 e, by omega⟩
  have hst2 := stB_le rest
  clear hst hlen h
  generalize hR : ba (rowB l) = R at *
  generalize (rowB l).length = N at *
  generalize stB rest = st at *
  generalize hL : s.length = L at *
  generalize ba s = T at *
  rcases key with ⟨rfl, rfl⟩ | ⟨h0, h1⟩
  · go_enter Try.func4, Try.ntmps4
    go_wp2_with (first
      | (go_at_call 13; refine (hscan _).mono ?_; rintro e w1 ⟨v1, rfl, hv1, hb1⟩; have HV1 := hid hv1; clear hv1)
      | (go_at_call 14; refine (href _).mono ?_; rintro e w2 ⟨v2, rfl, hv2, hb2⟩; have hsame := ref_Same l l v1 v2 w2 (HV1.out.keep hb2) hv2; rw [decide_eq_true rfl] at hsame; clear hv2)
      | (go_at_call 15; refine hsame.mono ?_; rintro e w3 ⟨rfl, hb3⟩)
      | (go_at_call 9; refine (hput _ _ ((HV1.out.keep hb2).keep hb3)).mono ?_; rintro e w4 ⟨rfl, hb4⟩)
      | (go_at_call 8; refine (law_head _).mono ?_; rintro e w5 ⟨rfl, hb5⟩))
    go_ret
    exact ⟨rfl, below_next hb1 (below_next hb2 (below_next hb3 (below_next hb4 hb5)))⟩
  · have g1 : ((st : Int) == 0) = false := by rw [beq_eq_false_iff_ne]; omega
    have g2 : ((N : Int) == (L : Int)) = false := by rw [beq_eq_false_iff_ne]; omega
    have g3 : (st == 0) = false := by rw [beq_eq_false_iff_ne]; omega
    have g4 : (N == L) = false := by rw [beq_eq_false_iff_ne]; omega
    go_enter Try.func4, Try.ntmps4
    go_wp2_with (first
      | (go_at_call 13; refine (hscan _).mono ?_; rintro e w1 ⟨v1, rfl, hv1, hb1⟩; have HV1 := hid hv1; clear hv1)
      | (go_at_call 14; refine (href _).mono ?_; rintro e w2 ⟨v2, rfl, hv2, hb2⟩; have hsame := ref_Same l l v1 v2 w2 (HV1.out.keep hb2) hv2; rw [decide_eq_true rfl] at hsame; clear hv2)
      | (go_at_call 15; refine hsame.mono ?_; rintro e w3 ⟨rfl, hb3⟩)
      | (go_at_call 9; refine (hput _ _ ((HV1.out.keep hb2).keep hb3)).mono ?_; rintro e w4 ⟨rfl, hb4⟩)
      | (go_at_call 8; refine (law_head _).mono ?_; rintro e w5 ⟨rfl, hb5⟩))
    go_ret
    exact ⟨rfl, below_next hb1 (below_next hb2 (below_next hb3 (below_next hb4 hb5)))⟩

theorem law_RecordScans (w : World) (S : ByteArray) (hs : S.size ≤ 9223372036854775807) :
    Calls Try.prog 4 #[.string S] w fun e w' => e = .returned (.bool true) ∧ Below w.heap.size w w' := by
  by_cases hg : S.size ≤ 3000
  · have := scans_small S.data.toList (by rw [len_toList]; exact hg) w
    rwa [ba_of] at this
  · exact scans_great S hs hg w
end Go.Proofs.Ytnglalahhdkebaa.Q
