/-
  'none' and 'head' of stage 2: what the document fixes.
-/
import Derived.Test.YtimemfkhmfhffaaWireG
namespace Go.Proofs.Ytimemfkhmfhffaa
open Go Go.RowKit Wire

theorem text_none (p : Option Nat) (most : Int) (h1 : -9223372036854775808 ≤ most) (h2 : most < 9223372036854775808) (W : World) (h : RAt W p none) :
    Calls Try.prog 19 #[rptr p, .int .i64 most] W fun e w' => e = .returned (.string ⟨#[]⟩) ∧ RAt w' p none ∧ Keeps W.heap.size p W w' := by
  have := wire_Text p none most h1 h2 small_none W h
  rw [takeText_none] at this
  exact this

theorem law_none (s : ByteArray) (most : Nat) (hs : s.size ≤ 1000000) (hf : (takeNum (some s.data.toList) most).2 = none) (W : World) :
    Calls Try.prog 27 #[.string s, .int .u64 most] W fun e w' => e = .returned (.bool true) ∧ Below W.heap.size W w' := by
  have hsm : Small (some s.data.toList) := by show s.data.toList.length ≤ 1000000; rw [len_toList]; exact hs
  have hn := fun g w1 (h1 : RAt w1 (some g) (some s.data.toList)) => wire_Num (some g) _ most hsm w1 h1
  rw [hf, takeNum_fail hf] at hn
  clear hf
  go_enter Try.func27, Try.ntmps27
  go_wp2_with (first
    | (go_at_call 13; refine (wire_Open s hs _).mono ?_; rintro e w1 ⟨g, rfl, hg, hr, hb⟩; have hn1 := hn g w1 hr; clear hn hr)
    | (go_at_call 18; refine hn1.mono ?_; rintro e w2 ⟨rfl, hr2, hk2⟩; have HR : Hid (RAt w2 (some g) none) := hr2; clear hn1 hr2)
    | (go_at_call 15; refine (wire_Fine (some g) none _ HR.out).mono ?_; rintro e w3 ⟨rfl, rfl⟩)
    | (go_at_call 16; refine (wire_Left (some g) none _ HR.out).mono ?_; rintro e w3 ⟨rfl, rfl⟩)
    | (go_at_call 17; refine (wire_End (some g) none _ HR.out).mono ?_; rintro e w3 ⟨rfl, rfl⟩)
    | (go_at_call 19; refine (text_none (some g) 9 (by decide) (by decide) _ HR.out).mono ?_; rintro e w4 ⟨rfl, hr4, hk4⟩))
  go_ret
  refine ⟨rfl, hb.trans ?_⟩
  have h2 : Below W.heap.size w1 w2 := (hk2.mono hb.size).below (fun k hk => by cases hk; exact hg)
  have h4 : Below W.heap.size w2 w4 := (hk4.mono (Nat.le_trans hb.size hk2.size)).below (fun k hk => by cases hk; exact hg)
  exact h2.trans h4

theorem enc_vals : enc 5 = [5] ∧ enc 127 = [127] ∧ enc 128 = [129, 128] ∧ enc 256 = [130, 1, 0] ∧ enc 18446744073709551615 = [136, 255, 255, 255, 255, 255, 255, 255, 255] ∧ enc 2 = [2] ∧ enc 3 = [3] ∧ enc 300 = [130, 1, 44] := by
  refine ⟨?_, ?_, ?_, ?_, ?_, ?_, ?_, ?_⟩ <;> simp [enc, dig] <;> decide

theorem none_vals : (takeNum (some [129, 5]) 18446744073709551615).2 = none ∧ (takeNum (some [130, 0, 255]) 18446744073709551615).2 = none ∧ (takeNum (some [137]) 18446744073709551615).2 = none ∧ (takeNum (some [128]) 18446744073709551615).2 = none ∧ (takeNum (some [129]) 18446744073709551615).2 = none ∧ (takeNum (some [5]) 4).2 = none := by
  refine ⟨?_, ?_, ?_, ?_, ?_, ?_⟩ <;> simp [takeNum, parse, big, dig]

theorem num_val (n : Nat) (m : Int) (hm : (n : Int) = m) (l : List UInt8) (h : enc n = l) (hn : n < 18446744073709551616) (W : World) : Calls Try.prog 22 #[.int .u64 m] W fun e w' => e = .returned (.string ⟨l.toArray⟩) ∧ Below W.heap.size W w' := by
  have := law_num n hn W
  rw [h, hm] at this
  exact this

/-- A writer beside a reader's doing. -/
theorem WAt.beside {w w' : World} {B g : Nat} {l : List UInt8} {p : Option Nat} {st : St} (h : WAt w B g l) (hr : RAt w p st) (hk : Keeps w.heap.size p w w') : WAt w' B g l := by
  obtain ⟨v, hg, ho⟩ := h
  have key : ∀ (k : Nat) (cs : Array Value) (t : TypeId), w.heap[k]? = some (Obj.cells cs t (0, 0)) → t ≠ 65 → w'.heap[k]? = some (Obj.cells cs t (0, 0)) := fun k cs t hkk ht => by
    refine (hk.block k (lt_of_some hkk) (fun e => ?_)).trans hkk
    subst e
    have hr' : w.heap[k]? = some (.cells (rcells st) 65 (0, 0)) := hr
    rw [hr'] at hkk
    cases hkk
    exact ht rfl
  refine ⟨v, key g _ _ hg (by decide), ho.1, ?_⟩
  rcases ho.2 with hn | ⟨g', cap, cur, rfl, hB, hgg, rest⟩
  · exact .inl hn
  · exact .inr ⟨g', cap, cur, rfl, hB, key g' _ _ hgg (by decide), rest⟩
/-- A reader beside a writer's doing. -/
theorem RAt.beside {w w' : World} {B g : Nat} {l : List UInt8} {p : Option Nat} {st : St} (h : RAt w p st) (hw : WAt w B g l) (hk : Keeps B (some g) w w') : RAt w' p st := by
  cases p with
  | none => exact h
  | some q =>
    refine hk.other q _ _ _ h (by decide) (fun e => ?_)
    obtain ⟨v, hg, _⟩ := hw
    have e' : q = g := Option.some.inj e
    have h' : w.heap[q]? = some (Obj.cells (rcells st) 65 (0, 0)) := h
    rw [e', hg] at h'
    have ht := (Obj.cells.inj (Option.some.inj h')).2.1
    exact absurd ht (by decide)

theorem head_text : takeText (some [2, 97, 98, 3, 130, 1, 44]) 2 = ([97, 98], some [3, 130, 1, 44]) := by
  have := takeText_enc (s := [97, 98]) (most := 2) (by decide) (by decide) [3, 130, 1, 44]
  rw [show ([97, 98] : List UInt8).length = 2 by rfl, enc_vals.2.2.2.2.2.1] at this
  exact this
theorem head_dot : takeDot (some [3, 130, 1, 44]) = ((3, 300), some []) := by
  have := takeDot_enc (a := 3) (b := 300) (by decide) (by decide) []
  rw [enc_vals.2.2.2.2.2.2.1, enc_vals.2.2.2.2.2.2.2] at this
  exact this
theorem head_bytes : ([] ++ encT [97, 98]) ++ encD 3 300 = [2, 97, 98, 3, 130, 1, 44] := by
  unfold encT encD
  rw [show ([97, 98] : List UInt8).length = 2 by rfl, enc_vals.2.2.2.2.2.1, enc_vals.2.2.2.2.2.2.1, enc_vals.2.2.2.2.2.2.2]
  rfl

theorem text_head (g : Nat) (W : World) (h : RAt W (some g) (some [2, 97, 98, 3, 130, 1, 44])) :
    Calls Try.prog 19 #[.pointer (some ⟨g, 0, none⟩), .int .i64 2] W fun e w' => e = .returned (.string ⟨#[97, 98]⟩) ∧ RAt w' (some g) (some [3, 130, 1, 44]) ∧ Keeps W.heap.size (some g) W w' := by
  have := wire_Text (some g) _ 2 (by decide) (by decide) (by unfold Small; decide) W h
  rw [head_text] at this
  exact this
theorem dot_head (g : Nat) (W : World) (h : RAt W (some g) (some [3, 130, 1, 44])) :
    Calls Try.prog 20 #[.pointer (some ⟨g, 0, none⟩)] W fun e w' => e = .returned (.agg #[.int .u8 3, .int .u32 300]) ∧ RAt w' (some g) (some []) ∧ Keeps W.heap.size (some g) W w' := by
  have := wire_Dot (some g) _ (by unfold Small; decide) W h
  rw [head_dot] at this
  exact this
theorem end_head (g : Nat) (W : World) (h : RAt W (some g) (some [])) :
    Calls Try.prog 17 #[.pointer (some ⟨g, 0, none⟩)] W fun e w' => e = .returned (.int .i64 0) ∧ W = w' := wire_End (some g) (some []) W h
theorem bytes_head (B g : Nat) (W : World) (h : WAt W B g (([] ++ encT [97, 98]) ++ encD 3 300)) :
    Calls Try.prog 12 #[.pointer (some ⟨g, 0, none⟩)] W fun e w' => e = .returned (.string ⟨#[2, 97, 98, 3, 130, 1, 44]⟩) ∧ W = w' := by
  have := wire_Bytes W B g _ h
  rw [head_bytes] at this
  exact this

theorem none_val (s : ByteArray) (n : Nat) (m : Int) (hm : (n : Int) = m) (hs : s.size ≤ 1000000) (hf : (takeNum (some s.data.toList) n).2 = none) (W : World) :
    Calls Try.prog 27 #[.string s, .int .u64 m] W fun e w' => e = .returned (.bool true) ∧ Below W.heap.size W w' := by
  have := law_none s n hs hf W
  rw [hm] at this
  exact this

set_option maxHeartbeats 4000000 in
set_option maxRecDepth 100000 in
theorem law_head (W : World) :
    Calls Try.prog 9 #[] W fun e w' => e = .returned (.bool true) ∧ Below W.heap.size W w' := by
  have hb0 : Below W.heap.size W (W.alloc (.cells #[.slice none 0 0, .bool true] 58)) := (Below.refl _ W).alloc (Nat.le_refl _) _
  have hz0 := heap_alloc_last W (.cells #[.slice none 0 0, .bool true] 58)
  have HZ : Hid _ := hz0
  clear hz0
  obtain ⟨e1, e2, e3, e4, e5, _⟩ := enc_vals
  have hv1 := num_val 5 5 rfl _ e1 (by decide)
  have hv2 := num_val 127 127 rfl _ e2 (by decide)
  have hv3 := num_val 128 128 rfl _ e3 (by decide)
  have hv4 := num_val 256 256 rfl _ e4 (by decide)
  have hv5 := num_val 18446744073709551615 18446744073709551615 rfl _ e5 (by decide)
  clear e1 e2 e3 e4 e5
  obtain ⟨f1, f2, f3, f4, f5, f6⟩ := none_vals
  have hn1 := none_val ⟨#[129, 5]⟩ 18446744073709551615 18446744073709551615 rfl (by decide) f1
  have hn2 := none_val ⟨#[130, 0, 255]⟩ 18446744073709551615 18446744073709551615 rfl (by decide) f2
  have hn3 := none_val ⟨#[137]⟩ 18446744073709551615 18446744073709551615 rfl (by decide) f3
  have hn4 := none_val ⟨#[128]⟩ 18446744073709551615 18446744073709551615 rfl (by decide) f4
  have hn5 := none_val ⟨#[129]⟩ 18446744073709551615 18446744073709551615 rfl (by decide) f5
  have hn6 := none_val ⟨#[5]⟩ 4 4 rfl (by decide) f6
  clear f1 f2 f3 f4 f5 f6
  go_enter Try.func9, Try.ntmps9
  go_wp2_with (first
    | (go_at_call 10; refine (wire_New _).mono ?_; rintro e w1 ⟨rfl, rfl⟩)
    | (go_at_call 13; refine (wire_Open _ (by decide) _).mono ?_; rintro e w2 ⟨g, rfl, hg2, hr2, hb2⟩; have hne : g ≠ W.heap.size := (by simp at hg2; omega); have HR2 : Hid (RAt w2 (some g) (some [2, 97, 98, 3, 130, 1, 44])) := hr2; have HW2 : Hid (WAt w2 w2.heap.size W.heap.size []) := WAt.at_nil _ _ _ ((hb2.block _ (lt_of_some HZ.out)).trans HZ.out); have hB2 : Below W.heap.size W w2 := below_next hb0 hb2; clear hr2 hb2 hb0)
    | (go_at_call 24; refine (wire_put_Text _ _ _ ⟨#[97, 98]⟩ _ HW2.out (Nat.le_refl _) (by decide) (by decide)).mono ?_; rintro e w3 ⟨rfl, hw3, hk3⟩; have HR3 : Hid (RAt w3 (some g) (some [2, 97, 98, 3, 130, 1, 44])) := RAt.beside HR2.out HW2.out hk3; have HW3 : Hid (WAt w3 w2.heap.size W.heap.size ([] ++ encT [97, 98])) := hw3; clear hw3)
    | (go_at_call 25; refine (wire_put_Dot _ _ _ 3 300 _ HW3.out hk3.size (by simp [encT]; have := enc_len (n := 2) (by decide); omega) (by decide) (by decide)).mono ?_; rintro e w4 ⟨rfl, hw4, hk4⟩; have HR4 : Hid (RAt w4 (some g) (some [2, 97, 98, 3, 130, 1, 44])) := RAt.beside HR3.out HW3.out hk4; have HW4 : Hid (WAt w4 w2.heap.size W.heap.size (([] ++ encT [97, 98]) ++ encD 3 300)) := hw4; clear hw4)
    | (go_at_call 19; refine (text_head g _ HR4.out).mono ?_; rintro e w5 ⟨rfl, hr5, hk5⟩; have HR5 : Hid (RAt w5 (some g) (some [3, 130, 1, 44])) := hr5; have HW5 : Hid (WAt w5 w2.heap.size W.heap.size (([] ++ encT [97, 98]) ++ encD 3 300)) := WAt.beside HW4.out HR4.out hk5; clear hr5)
    | (go_at_call 20; refine (dot_head g _ HR5.out).mono ?_; rintro e w6 ⟨rfl, hr6, hk6⟩; have HR6 : Hid (RAt w6 (some g) (some [])) := hr6; have HW6 : Hid (WAt w6 w2.heap.size W.heap.size (([] ++ encT [97, 98]) ++ encD 3 300)) := WAt.beside HW5.out HR5.out hk6; clear hr6)
    | (go_at_call 22; (with_reducible refine (hv1 _).mono ?_); rintro e w8 ⟨rfl, hb8⟩; clear hv1)
    | (go_at_call 22; (with_reducible refine (hv2 _).mono ?_); rintro e w9 ⟨rfl, hb9⟩; clear hv2)
    | (go_at_call 22; (with_reducible refine (hv3 _).mono ?_); rintro e w10 ⟨rfl, hb10⟩; clear hv3)
    | (go_at_call 22; (with_reducible refine (hv4 _).mono ?_); rintro e w11 ⟨rfl, hb11⟩; clear hv4)
    | (go_at_call 22; (with_reducible refine (hv5 _).mono ?_); rintro e w12 ⟨rfl, hb12⟩; clear hv5; have hbn := below_next (below_next (below_next (below_next hb8 hb9) hb10) hb11) hb12; clear hb8 hb9 hb10 hb11 hb12; have hd12 := (hbn.block w6.heap.size (by simp)).trans (heap_alloc_last _ _); have hd0 := (cell_of_heap (j := 0) hd12).trans rfl; have hd1 := (cell_of_heap (j := 1) hd12).trans rfl; have hb6 : Below w6.heap.size w6 w12 := ((Below.refl _ w6).alloc (Nat.le_refl _) _).trans (hbn.mono (by simp)); have HW12 : Hid (WAt w12 w2.heap.size W.heap.size (([] ++ encT [97, 98]) ++ encD 3 300)) := WAt.kept HW6.out hb6; have HR12 : Hid (RAt w12 (some g) (some [])) := RAt.keep HR6.out hb6; clear hd12 hbn)
    | (go_at_call 12; refine (bytes_head _ _ _ HW12.out).mono ?_; rintro e w13 ⟨rfl, rfl⟩)
    | (go_at_call 17; refine (end_head _ _ HR12.out).mono ?_; rintro e w13 ⟨rfl, rfl⟩)
    | (go_at_call 27; (with_reducible refine (hn1 _).mono ?_); rintro e w14 ⟨rfl, hb14⟩; clear hn1)
    | (go_at_call 27; (with_reducible refine (hn2 _).mono ?_); rintro e w15 ⟨rfl, hb15⟩; clear hn2)
    | (go_at_call 27; (with_reducible refine (hn3 _).mono ?_); rintro e w16 ⟨rfl, hb16⟩; clear hn3)
    | (go_at_call 27; (with_reducible refine (hn4 _).mono ?_); rintro e w17 ⟨rfl, hb17⟩; clear hn4)
    | (go_at_call 27; (with_reducible refine (hn5 _).mono ?_); rintro e w18 ⟨rfl, hb18⟩; clear hn5)
    | (go_at_call 27; (with_reducible refine (hn6 _).mono ?_); rintro e w19 ⟨rfl, hb19⟩; clear hn6))
  go_ret
  have hb14' := below_next (below_next (below_next (below_next (below_next hb14 hb15) hb16) hb17) hb18) hb19
  have k1 : Below W.heap.size W w3 := hB2.trans ((hk3.mono hB2.size).below (fun k hk => by cases hk; exact Nat.le_refl _))
  have k2 : Below W.heap.size W w4 := k1.trans ((hk4.mono hB2.size).below (fun k hk => by cases hk; exact Nat.le_refl _))
  have hgW : W.heap.size ≤ g := by simp at hg2; omega
  have k3 : Below W.heap.size W w5 := k2.trans ((hk5.mono k2.size).below (fun k hk => by cases hk; exact hgW))
  have k4 : Below W.heap.size W w6 := k3.trans ((hk6.mono k3.size).below (fun k hk => by cases hk; exact hgW))
  exact ⟨rfl, below_next (below_next k4 hb6) hb14'⟩

end Go.Proofs.Ytimemfkhmfhffaa
