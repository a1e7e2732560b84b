/-
  The walk of the law on the exclusive or.
-/
import Derived.Test.YtgnejcjlmagphaaSumLaws
import Derived.WalkLawsBesides
import Derived.RegionTactic
import Derived.Lib.Hide
namespace Go.Proofs.Ytgnejcjlmagphaa
open Go Go.RowKit Crc

/-- The bytes' exclusive or. -/
def mixL (a b c : ByteArray) (n : Nat) : List UInt8 :=
  List.zipWith (· ^^^ ·) (List.zipWith (· ^^^ ·) (a.data.toList.take n) (b.data.toList.take n)) (c.data.toList.take n)
theorem mixL_length (a b c : ByteArray) (n : Nat) (ha : n ≤ a.size) (hb : n ≤ b.size) (hc : n ≤ c.size) : (mixL a b c n).length = n := by
  simp [mixL]; omega
theorem mixL_at (a b c : ByteArray) (n k : Nat) (ha : n ≤ a.size) (hb : n ≤ b.size) (hc : n ≤ c.size) (h : k < n) :
    ((mixL a b c n).getD k 0).toNat = a[k].toNat ^^^ b[k].toNat ^^^ c[k].toNat := by
  have h1 : k < a.size := by omega
  have h2 : k < b.size := by omega
  have h3 : k < c.size := by omega
  rw [← UInt8.toNat_xor, ← UInt8.toNat_xor]
  simp [mixL, List.getD_eq_getElem?_getD, List.getElem?_zipWith, h, h1, h2, h3]
  rfl
theorem mixL_sum (a b c : ByteArray) (n : Nat) (ha : n ≤ a.size) (hb : n ≤ b.size) (hc : n ≤ c.size) :
    sum (mixL a b c n) = sum (a.data.toList.take n) ^^^ sum (b.data.toList.take n) ^^^ sum (c.data.toList.take n) := by
  have la : (a.data.toList.take n).length = n := by simp; omega
  have lb : (b.data.toList.take n).length = n := by simp; omega
  have lc : (c.data.toList.take n).length = n := by simp; omega
  have lm := mixL_length a b c n ha hb hc
  apply mixes _ _ _ _ (by omega) (by omega) (by omega)
  unfold mixL
  rw [num_xor _ _ (by simp; omega), num_xor _ _ (by omega)]

/-- The row of the bytes' exclusive or, its first k bytes filled, and what was there as it was. -/
def MixW (W wr : World) (n : Nat) (f : Nat → Nat) (k : Nat) : Prop := Below W.heap.size W wr ∧ wr.heap[W.heap.size]? = some (.cells (rowCells n f k) 5 (0, 0))
theorem MixW.store {W wr : World} {n : Nat} {f : Nat → Nat} {k : Nat} (h : MixW W wr n f k) : MixW W (wr.setCell ⟨W.heap.size, k, none⟩ (.int .u8 (f k : Nat))) n f (k + 1) :=
  ⟨h.1.setCell (Nat.le_refl _) _, by rw [heap_setCell_same _ _ _ _ _ _ h.2, row_set _ _ _ _ rfl]⟩
theorem MixW.drew {W wr : World} {n : Nat} {f : Nat → Nat} {k : Nat} (h : MixW W wr n f k) : MixW W wr.drew n f k := ⟨h.1.drew, h.2⟩

theorem mix_convert (a b c : ByteArray) (n : Nat) (ha : n ≤ a.size) (hb : n ≤ b.size) (hc : n ≤ c.size) (X : ByteArray) (hX : X.data.toList = mixL a b c n) (hn : X.size = n) (W w : World)
    (h : w.heap[W.heap.size]? = some (.cells (rowCells n (fun j => ((mixL a b c n).getD j 0).toNat) n) 5 (0, 0))) :
    (convert 35 9 (.slice (some ⟨W.heap.size, 0, none⟩) n n)).run Try.prog w = .ok (.string X) w := by
  have hl := mixL_length a b c n ha hb hc
  have hc := Lib.run_convert_whole (P := Try.prog) w 35 5 9 Try.underlying35 Try.underlying5 Try.underlying9 W.heap.size 0 X (fun i hi => by
    have hi' : i < n := by omega
    rw [Nat.zero_add, cell_of_row _ _ _ _ _ _ h, row_at _ _ _ _ hi', if_pos hi', ← hX]
    simp [List.getD_eq_getElem?_getD, hi]
    rfl) n
  rw [hn] at hc
  exact hc

set_option maxHeartbeats 4000000 in
set_option maxRecDepth 100000 in
theorem mixes_at (a b c : ByteArray) (n : Nat) (hcase : (a.size = n ∧ n ≤ b.size ∧ n ≤ c.size) ∨ (b.size = n ∧ n < a.size ∧ n ≤ c.size) ∨ (c.size = n ∧ n < a.size ∧ n < b.size))
    (h3 : n ≤ 3000) (W : World) :
    Calls Try.prog 6 #[.string a, .string b, .string c] W fun e w' => e = .returned (.bool true) ∧ Below W.heap.size W w' := by
  have ha : n ≤ a.size := by omega
  have hb : n ≤ b.size := by omega
  have hc : n ≤ c.size := by omega
  have hl := mixL_length a b c n ha hb hc
  obtain ⟨X, hX⟩ : ∃ X : ByteArray, X = ⟨(mixL a b c n).toArray⟩ := ⟨_, rfl⟩
  have hXs : X.size = n := by rw [hX]; exact hl
  have hXl : X.data.toList = mixL a b c n := by rw [hX]
  have hSx : ∀ W, Calls Try.prog 12 #[.string X] W fun e w' => e = .returned (.int .u32 (sum (mixL a b c n) : Nat)) ∧ Below W.heap.size W w' := fun W => by
    have := sum_Sum X (small_max (by omega)) W; rw [hXl] at this; exact this
  have hSa := fun W => (show Calls Try.prog 12 #[.string (a.extract 0 n)] W fun e w' => e = .returned (.int .u32 (sum (a.data.toList.take n) : Nat)) ∧ Below W.heap.size W w' by
    have := sum_Sum (a.extract 0 n) (by rw [ext_size _ _ ha]; exact small_max (by omega)) W; rw [ext_take] at this; exact this)
  have hSb := fun W => (show Calls Try.prog 12 #[.string (b.extract 0 n)] W fun e w' => e = .returned (.int .u32 (sum (b.data.toList.take n) : Nat)) ∧ Below W.heap.size W w' by
    have := sum_Sum (b.extract 0 n) (by rw [ext_size _ _ hb]; exact small_max (by omega)) W; rw [ext_take] at this; exact this)
  have hSc := fun W => (show Calls Try.prog 12 #[.string (c.extract 0 n)] W fun e w' => e = .returned (.int .u32 (sum (c.data.toList.take n) : Nat)) ∧ Below W.heap.size W w' by
    have := sum_Sum (c.extract 0 n) (by rw [ext_size _ _ hc]; exact small_max (by omega)) W; rw [ext_take] at this; exact this)
  rw [mixL_sum a b c n ha hb hc] at hSx
  have lA := sum_lt (a.data.toList.take n)
  have lB := sum_lt (b.data.toList.take n)
  have lC := sum_lt (c.data.toList.take n)
  generalize sum (a.data.toList.take n) = A at hSx hSa lA
  generalize sum (b.data.toList.take n) = B at hSx hSb lB
  generalize sum (c.data.toList.take n) = C at hSx hSc lC
  have hx1 := xor_u32 A B lA lB
  have lAB := xor_lt A B lA lB
  have hx2 := xor_u32 (A ^^^ B) C lAB lC
  generalize hAB : A ^^^ B = AB at hx1 hx2 hSx lAB
  generalize AB ^^^ C = Z at hx2 hSx
  clear hAB lA lB lC lAB
  obtain ⟨f, hf⟩ : ∃ f : Nat → Nat, f = fun j => ((mixL a b c n).getD j 0).toNat := ⟨_, rfl⟩
  have hbyte : ∀ k (h : k < n), f k = (a[k]'(Nat.lt_of_lt_of_le h ha)).toNat ^^^ (b[k]'(Nat.lt_of_lt_of_le h hb)).toNat ^^^ (c[k]'(Nat.lt_of_lt_of_le h hc)).toNat := fun k h => by rw [hf]; exact mixL_at a b c n k ha hb hc h
  have HB := Lib.hid hbyte
  have HF : Hid (f = fun j => ((mixL a b c n).getD j 0).toNat) := hf
  have HL : Hid (X.data.toList = mixL a b c n) := hXl
  have HS : Hid (X.size = n) := hXs
  have hmk := make_row n (by omega) f
  clear hbyte hf hXl hXs hX hl
  rcases hcase with ⟨e1, e2, e3⟩ | ⟨e1, e2, e3⟩ | ⟨e1, e2, e3⟩
  all_goals
    go_enter Try.func6, Try.ntmps6
    go_wp2_with fail
    go_loopw [9] (fun i wr => ∃ k : Nat, k ≤ n ∧ i = .int .i64 k ∧ MixW W wr n f k) (fun i _ => n - (intOf i).toNat)
    case atStart => exact ⟨0, by omega, rfl, (Below.refl _ _).alloc (Nat.le_refl _) _, heap_alloc_last _ _⟩
    case round =>
      obtain ⟨k, hk, rfl, hW⟩ := hrel
      by_cases hlt : k < n
      · have ka : k < a.size := by omega
        have kb : k < b.size := by omega
        have kc : k < c.size := by omega
        have hcell : wr.cell? ⟨W.heap.size, k, none⟩ = some (.int .u8 0) := by rw [cell_of_row _ _ _ _ _ _ hW.2, row_at _ _ _ _ hlt, if_neg (by omega)]; rfl
        have hfree : wr.frozen? ⟨W.heap.size, k, none⟩ = false := frozen_of_row _ _ _ _ _ hW.2
        have hb1 := xor_u8 a[k].toNat b[k].toNat (u8_lt _) (u8_lt _)
        have hb2 := xor_u8 (a[k].toNat ^^^ b[k].toNat) c[k].toNat (xor_lt8 _ _ (u8_lt _) (u8_lt _)) (u8_lt _)
        rw [← HB.out k hlt] at hb2
        generalize a[k].toNat ^^^ b[k].toNat = ab at hb1 hb2
        have hst := hW.drew.store
        go_wp2_with fail
        go_region
        go_wp2_with fail
        go_roundw
        case rel => exact ⟨k + 1, by omega, by go_num, hst⟩
        case measure => simp [intOf]; omega
      · have : k = n := by omega
        subst this
        have hcv : ∀ p : Later wr.heap.size wr, (convert 35 9 (.slice (some ⟨W.heap.size, 0, none⟩) k k)).run Try.prog p.val = .ok (.string X) p.val := fun p =>
          mix_convert a b c k ha hb hc X HL.out HS.out W p.val (by
            rw [p.ok.block _ ((Array.getElem?_eq_some_iff.1 hW.2).1), ← HF.out]; exact hW.2)
        go_wp2_with fail
        refine wp_region_later wr.heap.size (by kernel_rfl) (by kernel_rfl) ?_
        repeat (go_big_quiet_step (first
          | (go_at_call 12; exact Calls.later_of (Nat.le_refl _) (hSx _))
          | (go_at_call 12; exact Calls.later_of (Nat.le_refl _) (hSa _))
          | (go_at_call 12; exact Calls.later_of (Nat.le_refl _) (hSb _))
          | (go_at_call 12; exact Calls.later_of (Nat.le_refl _) (hSc _))
          | (go_at_call 7; exact Calls.later_of (Nat.le_refl _) (law_head _))))
        refine wpQuiet_nil ?_
        rintro _ ⟨p, rfl⟩
        go_wp2_with fail
        go_ret
        exact ⟨rfl, hW.1.trans (p.ok.mono hW.1.size)⟩

set_option maxHeartbeats 1000000 in
set_option maxRecDepth 100000 in
theorem mixes_long (a b c : ByteArray) (ha : 3000 < a.size) (hb : 3000 < b.size) (hc : 3000 < c.size) (ma : a.size ≤ maxLen) (mb : b.size ≤ maxLen) (mc : c.size ≤ maxLen) (W : World) :
    Calls Try.prog 6 #[.string a, .string b, .string c] W fun e w' => e = .returned (.bool true) ∧ Below W.heap.size W w' := by
  unfold maxLen at ma mb mc
  have hcase : (a.size ≤ b.size ∧ a.size ≤ c.size) ∨ (b.size < a.size ∧ b.size ≤ c.size) ∨ (c.size < a.size ∧ c.size < b.size) := by omega
  rcases hcase with ⟨e2, e3⟩ | ⟨e2, e3⟩ | ⟨e2, e3⟩
  all_goals
    go_enter Try.func6, Try.ntmps6
    go_wp2_with (go_at_call 7; refine (law_head _).mono ?_; rintro e w1 ⟨rfl, hb1⟩)
    go_ret
    exact ⟨rfl, hb1⟩

theorem law_SumMixes (a b c : ByteArray) (ma : a.size ≤ maxLen) (mb : b.size ≤ maxLen) (mc : c.size ≤ maxLen) (W : World) :
    Calls Try.prog 6 #[.string a, .string b, .string c] W fun e w' => e = .returned (.bool true) ∧ Below W.heap.size W w' := by
  by_cases h : 3000 < a.size ∧ 3000 < b.size ∧ 3000 < c.size
  · exact mixes_long a b c h.1 h.2.1 h.2.2 ma mb mc W
  · exact mixes_at a b c (min a.size (min b.size c.size)) (by omega) (by omega) W

end Go.Proofs.Ytgnejcjlmagphaa
