/-
  The walk of the law 'WireOrder'.
-/
import Derived.Test.YtimemfkhmfhffaaWireH
import Derived.Test.YtimemfkhmfhffaaWireQ
namespace Go.Proofs.Ytimemfkhmfhffaa
open Go Go.RowKit Wire

theorem u64_nat {a : Int} (h : (Lit.int .u64 a).wf = true) : ∃ n : Nat, a = (n : Int) ∧ n < 18446744073709551616 := by
  have hx : 0 ≤ a ∧ a ≤ 18446744073709551615 := by simpa [Lit.wf, IntKind.min, IntKind.max, IntKind.signed, IntKind.bits] using h
  exact ⟨a.toNat, by omega, by omega⟩

theorem Keeps.nobody {B : Nat} {a b : World} (h : Keeps B none a b) : Below B a b := h.below (fun _ e => by cases e)
theorem none_Num (m : Nat) (W : World) : Calls Try.prog 18 #[.pointer none, .int .u64 m] W fun e w' => e = .returned (.int .u64 0) ∧ Below W.heap.size W w' :=
  (wire_Num none none m small_none W rfl).mono fun _ _ ⟨h1, _, h3⟩ => ⟨h1, h3.nobody⟩
theorem none_Text (W : World) : Calls Try.prog 19 #[.pointer none, .int .i64 5] W fun e w' => e = .returned (.string ⟨#[]⟩) ∧ Below W.heap.size W w' :=
  (text_none none 5 (by decide) (by decide) W rfl).mono fun _ _ ⟨h1, _, h3⟩ => ⟨h1, h3.nobody⟩
theorem none_Dot (W : World) : Calls Try.prog 20 #[.pointer none] W fun e w' => e = .returned (.agg #[.int .u8 0, .int .u32 0]) ∧ Below W.heap.size W w' := by
  have := wire_Dot none none small_none W rfl
  rw [takeDot_none] at this
  exact this.mono fun _ _ ⟨h1, _, h3⟩ => ⟨h1, h3.nobody⟩
theorem none_Vector (W : World) : Calls Try.prog 21 #[.pointer none] W fun e w' => e = .returned (.agg #[.int .u32 0, .int .u32 0, .int .u32 0, .int .u32 0, .int .u32 0, .int .u32 0, .int .u32 0, .int .u32 0]) ∧ Below W.heap.size W w' := by
  have := wire_Vector none none small_none W rfl
  rw [takeVec_none] at this
  exact this.mono fun _ _ ⟨h1, _, h3⟩ => ⟨h1, h3.nobody⟩
theorem none_Left (W : World) : Calls Try.prog 16 #[.pointer none] W fun e w' => e = .returned (.int .i64 0) ∧ W = w' := wire_Left none none W rfl
theorem none_Fine (W : World) : Calls Try.prog 15 #[.pointer none] W fun e w' => e = .returned (.bool false) ∧ W = w' := wire_Fine none none W rfl
theorem none_End (W : World) : Calls Try.prog 17 #[.pointer none] W fun e w' => e = .returned (.int .i64 5) ∧ W = w' := wire_End none none W rfl
theorem nil_Vector' (W : World) : Calls Try.prog 26 #[.pointer none, .agg #[.int .u32 0, .int .u32 0, .int .u32 0, .int .u32 0, .int .u32 0, .int .u32 0, .int .u32 0, .int .u32 0]] W fun e w' => e = .returned (.tuple #[]) ∧ Below W.heap.size W w' := nil_Vector W

theorem beq_lists (a b : ByteArray) : (a.toList == b.toList) = decide (a.data.toList = b.data.toList) := by
  rw [Lib.toList_data, Lib.toList_data, Bool.eq_iff_iff]; simp
theorem ne_lists {a b : List UInt8} (h : a ≠ b) : ((ba a).toList == (ba b).toList) = false := by
  rw [beq_lists, ba_list, ba_list]; simpa using h
theorem eq_lists (a : ByteArray) : (a.toList == a.toList) = true := by simp

set_option maxHeartbeats 4000000 in
set_option maxRecDepth 100000 in
theorem law_WireOrder (a0 a1 : Int) (h0 : (Lit.int .u64 a0).wf = true) (h1 : (Lit.int .u64 a1).wf = true) (W : World) :
    Calls Try.prog 6 #[.int .u64 a0, .int .u64 a1] W fun e w' => e = .returned (.bool true) ∧ Below W.heap.size W w' := by
  obtain ⟨n, rfl, hn⟩ := u64_nat h0
  obtain ⟨m, rfl, hm⟩ := u64_nat h1
  clear h0 h1
  have hv1 := law_num n hn
  have hv2 := law_num m hm
  have heq8 := eq_zero8
  have hnn := none_Num m
  have hsA := ba_size (enc n)
  have hsB := ba_size (enc m)
  have hlA := enc_len hn
  have hlB := enc_len hm
  have hl9 : (ba (enc n)).size ≤ 9 := by omega
  have hl9' : (ba (enc m)).size ≤ 9 := by omega
  have hne : n ≠ m → ((ba (enc n)).toList == (ba (enc m)).toList) = false := fun hnp => ne_lists (fun e => hnp (enc_inj hn hm e))
  have hpre : n ≠ m → (((ba (enc m)).extract 0 (ba (enc n)).size).toList == (ba (enc n)).toList) = false := fun hnp => by
    rw [ba_extract_to]
    refine ne_lists (fun e => hnp (enc_prefix hn hm (r := (enc m).drop (ba (enc n)).size) ?_))
    have := List.take_append_drop (ba (enc n)).size (enc m)
    rw [e] at this
    exact this.symm
  have hle : n ≤ m → (ba (enc n)).size ≤ (ba (enc m)).size := fun h => by have := enc_mono h; omega
  have hge : m ≤ n → (ba (enc m)).size ≤ (ba (enc n)).size := fun h => by have := enc_mono h; omega
  clear hsA hsB hlA hlB
  by_cases hnm : n = m
  · subst hnm
    have heq := eq_lists (ba (enc n))
    have hb : ((n : Int) == (n : Int)) = true := by simp
    generalize ba (enc n) = A at *
    clear hne hpre hle hge hn hm hv2
    go_enter Try.func6, Try.ntmps6
    go_wp2_with (first
      | (go_at_call 22; (with_reducible refine (hv1 _).mono ?_); rintro e w1 ⟨rfl, hb1⟩; have hv2 := hv1; clear hv1)
      | (go_at_call 22; (with_reducible refine (hv2 _).mono ?_); rintro e w2 ⟨rfl, hb2⟩; clear hv2)
        | (go_at_call 23; (with_reducible refine (nil_Num _ _).mono ?_); rintro e w3 ⟨rfl, rfl⟩)
        | (go_at_call 24; (with_reducible refine (nil_Text _ _).mono ?_); rintro e w4 ⟨rfl, rfl⟩)
        | (go_at_call 25; (with_reducible refine (nil_Dot _).mono ?_); rintro e w5 ⟨rfl, hb5⟩)
        | (go_at_call 26; (with_reducible refine (nil_Vector' _).mono ?_); rintro e w6 ⟨rfl, hb6⟩)
        | (go_at_call 23; (with_reducible refine (zero_Num _ _ _ _ (heap_alloc_last _ _)).mono ?_); rintro e w7 ⟨rfl, rfl⟩)
        | (go_at_call 24; (with_reducible refine (zero_Text _ _ _ _ (heap_alloc_last _ _)).mono ?_); rintro e w8 ⟨rfl, rfl⟩)
        | (go_at_call 12; (with_reducible refine (nil_Bytes _).mono ?_); rintro e w9 ⟨rfl, rfl⟩)
        | (go_at_call 12; (with_reducible refine (zero_Bytes _ _ _ (heap_alloc_last _ _)).mono ?_); rintro e w10 ⟨rfl, rfl⟩)
        | (go_at_call 18; (with_reducible refine (hnn _).mono ?_); rintro e w11 ⟨rfl, hb11⟩)
        | (go_at_call 19; (with_reducible refine (none_Text _).mono ?_); rintro e w12 ⟨rfl, hb12⟩)
        | (go_at_call 20; (with_reducible refine (none_Dot _).mono ?_); rintro e w13 ⟨rfl, hb13⟩)
        | (go_at_call 21; (with_reducible refine (none_Vector _).mono ?_); rintro e w14 ⟨rfl, hb14⟩)
        | (go_at_call 16; (with_reducible refine (none_Left _).mono ?_); rintro e w15 ⟨rfl, rfl⟩)
        | (go_at_call 15; (with_reducible refine (none_Fine _).mono ?_); rintro e w16 ⟨rfl, rfl⟩)
        | (go_at_call 17; (with_reducible refine (none_End _).mono ?_); rintro e w17 ⟨rfl, rfl⟩)
        | (go_at_call 9; (with_reducible refine (law_head _).mono ?_); rintro e w18 ⟨rfl, hb18⟩))
    go_ret
    exact ⟨rfl, below_next (below_next (below_next (below_next (below_next (below_next (below_next (below_next (below_next hb1 hb2) hb5) hb6) ((Below.refl _ _).alloc (Nat.le_refl _) _)) hb11) hb12) hb13) hb14) hb18⟩
  · have hne' := hne hnm
    have hpre' := hpre hnm
    have hb : ((n : Int) == (m : Int)) = false := by simp; omega
    rcases Nat.lt_or_gt_of_ne hnm with h | h
    · have hsz := hle (by omega)
      generalize ba (enc n) = A at *
      generalize ba (enc m) = B at *
      clear hne hpre hle hge hn hm
      go_enter Try.func6, Try.ntmps6
      go_wp2_with (first
        | (go_at_call 22; (with_reducible refine (hv1 _).mono ?_); rintro e w1 ⟨rfl, hb1⟩; clear hv1)
        | (go_at_call 22; (with_reducible refine (hv2 _).mono ?_); rintro e w2 ⟨rfl, hb2⟩; clear hv2)
        | (go_at_call 23; (with_reducible refine (nil_Num _ _).mono ?_); rintro e w3 ⟨rfl, rfl⟩)
        | (go_at_call 24; (with_reducible refine (nil_Text _ _).mono ?_); rintro e w4 ⟨rfl, rfl⟩)
        | (go_at_call 25; (with_reducible refine (nil_Dot _).mono ?_); rintro e w5 ⟨rfl, hb5⟩)
        | (go_at_call 26; (with_reducible refine (nil_Vector' _).mono ?_); rintro e w6 ⟨rfl, hb6⟩)
        | (go_at_call 23; (with_reducible refine (zero_Num _ _ _ _ (heap_alloc_last _ _)).mono ?_); rintro e w7 ⟨rfl, rfl⟩)
        | (go_at_call 24; (with_reducible refine (zero_Text _ _ _ _ (heap_alloc_last _ _)).mono ?_); rintro e w8 ⟨rfl, rfl⟩)
        | (go_at_call 12; (with_reducible refine (nil_Bytes _).mono ?_); rintro e w9 ⟨rfl, rfl⟩)
        | (go_at_call 12; (with_reducible refine (zero_Bytes _ _ _ (heap_alloc_last _ _)).mono ?_); rintro e w10 ⟨rfl, rfl⟩)
        | (go_at_call 18; (with_reducible refine (hnn _).mono ?_); rintro e w11 ⟨rfl, hb11⟩)
        | (go_at_call 19; (with_reducible refine (none_Text _).mono ?_); rintro e w12 ⟨rfl, hb12⟩)
        | (go_at_call 20; (with_reducible refine (none_Dot _).mono ?_); rintro e w13 ⟨rfl, hb13⟩)
        | (go_at_call 21; (with_reducible refine (none_Vector _).mono ?_); rintro e w14 ⟨rfl, hb14⟩)
        | (go_at_call 16; (with_reducible refine (none_Left _).mono ?_); rintro e w15 ⟨rfl, rfl⟩)
        | (go_at_call 15; (with_reducible refine (none_Fine _).mono ?_); rintro e w16 ⟨rfl, rfl⟩)
        | (go_at_call 17; (with_reducible refine (none_End _).mono ?_); rintro e w17 ⟨rfl, rfl⟩)
        | (go_at_call 9; (with_reducible refine (law_head _).mono ?_); rintro e w18 ⟨rfl, hb18⟩))
      go_ret
      exact ⟨rfl, below_next (below_next (below_next (below_next (below_next (below_next (below_next (below_next (below_next hb1 hb2) hb5) hb6) ((Below.refl _ _).alloc (Nat.le_refl _) _)) hb11) hb12) hb13) hb14) hb18⟩
    · have hsz := hge (by omega)
      generalize ba (enc n) = A at *
      generalize ba (enc m) = B at *
      by_cases hsz2 : A.size ≤ B.size
      all_goals
        clear hne hpre hle hge hn hm
        go_enter Try.func6, Try.ntmps6
        go_wp2_with (first
          | (go_at_call 22; (with_reducible refine (hv1 _).mono ?_); rintro e w1 ⟨rfl, hb1⟩; clear hv1)
          | (go_at_call 22; (with_reducible refine (hv2 _).mono ?_); rintro e w2 ⟨rfl, hb2⟩; clear hv2)
          | (go_at_call 23; (with_reducible refine (nil_Num _ _).mono ?_); rintro e w3 ⟨rfl, rfl⟩)
          | (go_at_call 24; (with_reducible refine (nil_Text _ _).mono ?_); rintro e w4 ⟨rfl, rfl⟩)
          | (go_at_call 25; (with_reducible refine (nil_Dot _).mono ?_); rintro e w5 ⟨rfl, hb5⟩)
          | (go_at_call 26; (with_reducible refine (nil_Vector' _).mono ?_); rintro e w6 ⟨rfl, hb6⟩)
          | (go_at_call 23; (with_reducible refine (zero_Num _ _ _ _ (heap_alloc_last _ _)).mono ?_); rintro e w7 ⟨rfl, rfl⟩)
          | (go_at_call 24; (with_reducible refine (zero_Text _ _ _ _ (heap_alloc_last _ _)).mono ?_); rintro e w8 ⟨rfl, rfl⟩)
          | (go_at_call 12; (with_reducible refine (nil_Bytes _).mono ?_); rintro e w9 ⟨rfl, rfl⟩)
          | (go_at_call 12; (with_reducible refine (zero_Bytes _ _ _ (heap_alloc_last _ _)).mono ?_); rintro e w10 ⟨rfl, rfl⟩)
          | (go_at_call 18; (with_reducible refine (hnn _).mono ?_); rintro e w11 ⟨rfl, hb11⟩)
          | (go_at_call 19; (with_reducible refine (none_Text _).mono ?_); rintro e w12 ⟨rfl, hb12⟩)
          | (go_at_call 20; (with_reducible refine (none_Dot _).mono ?_); rintro e w13 ⟨rfl, hb13⟩)
          | (go_at_call 21; (with_reducible refine (none_Vector _).mono ?_); rintro e w14 ⟨rfl, hb14⟩)
          | (go_at_call 16; (with_reducible refine (none_Left _).mono ?_); rintro e w15 ⟨rfl, rfl⟩)
          | (go_at_call 15; (with_reducible refine (none_Fine _).mono ?_); rintro e w16 ⟨rfl, rfl⟩)
          | (go_at_call 17; (with_reducible refine (none_End _).mono ?_); rintro e w17 ⟨rfl, rfl⟩)
          | (go_at_call 9; (with_reducible refine (law_head _).mono ?_); rintro e w18 ⟨rfl, hb18⟩))
        go_ret
        exact ⟨rfl, below_next (below_next (below_next (below_next (below_next (below_next (below_next (below_next (below_next hb1 hb2) hb5) hb6) ((Below.refl _ _).alloc (Nat.le_refl _) _)) hb11) hb12) hb13) hb14) hb18⟩

end Go.Proofs.Ytimemfkhmfhffaa
