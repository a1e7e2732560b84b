/-
  The contract of 'head' of stage 1: the sums that the document fixes.
-/
import Derived.Test.YtgnejcjlmagphaaSumR
namespace Go.Proofs.Ytgnejcjlmagphaa
open Go Go.RowKit Crc

theorem sealedB_list (s : ByteArray) : (s ++ lowB (sum s.data.toList)).data.toList = sealed s.data.toList := by
  rw [ByteArray.data_append, Array.toList_append]; rfl
theorem sealedB_size (s : ByteArray) : (s ++ lowB (sum s.data.toList)).size = s.size + 4 := by
  rw [ByteArray.size_append]; rfl
theorem sealedB_is (s : ByteArray) : isSealed (s ++ lowB (sum s.data.toList)).data.toList = true := by
  rw [sealedB_list]; exact isSealed_sealed _
theorem toList_inj {a b : ByteArray} (h : a.data.toList = b.data.toList) : a = b :=
  ByteArray.ext (Array.toList_inj.1 h)
theorem sealedB_body (s : ByteArray) : bodyB (s ++ lowB (sum s.data.toList)) = s := by
  unfold bodyB
  rw [sealedB_is, if_pos rfl]
  apply toList_inj
  rw [ext_take, sealedB_list, sealedB_size]
  simp [sealed]

theorem open_sealed (s : ByteArray) (hs : s.size ≤ 900000) (W : World) :
    Calls Try.prog 10 #[.string (s ++ lowB (sum s.data.toList))] W fun e w' => e = .returned (.tuple #[.string s, .bool true]) ∧ Below W.heap.size W w' := by
  have h := sum_Open (s ++ lowB (sum s.data.toList)) (by rw [sealedB_size]; omega) W
  rw [sealedB_body, sealedB_is] at h
  exact h
theorem open_zeros (W : World) :
    Calls Try.prog 10 #[.string ⟨#[0, 0, 0, 0]⟩] W fun e w' => e = .returned (.tuple #[.string ⟨#[]⟩, .bool true]) ∧ Below W.heap.size W w' := by
  have h := sum_Open ⟨#[0, 0, 0, 0]⟩ (by decide) W
  have h1 : isSealed (⟨#[0, 0, 0, 0]⟩ : ByteArray).data.toList = true := by decide +kernel
  have h2 : bodyB ⟨#[0, 0, 0, 0]⟩ = ⟨#[]⟩ := by
    unfold bodyB
    rw [h1, if_pos rfl]
    exact toList_inj (by rw [ext_take]; rfl)
  rw [h2, h1] at h
  exact h
theorem open_abc (W : World) :
    Calls Try.prog 10 #[.string ⟨#[97, 98, 99]⟩] W fun e w' => e = .returned (.tuple #[.string ⟨#[]⟩, .bool false]) ∧ Below W.heap.size W w' :=
  open_short _ (by decide) (by decide) W
theorem sum_empty (W : World) :
    Calls Try.prog 12 #[.string ⟨#[]⟩] W fun e w' => e = .returned (.int .u32 0) ∧ Below W.heap.size W w' := by
  have h := sum_Sum ⟨#[]⟩ (by decide) W
  have e : sum (⟨#[]⟩ : ByteArray).data.toList = 0 := by decide +kernel
  rw [e] at h; exact h
theorem sum_digits (W : World) :
    Calls Try.prog 12 #[.string ⟨#[49, 50, 51, 52, 53, 54, 55, 56, 57]⟩] W fun e w' => e = .returned (.int .u32 3808858755) ∧ Below W.heap.size W w' := by
  have h := sum_Sum ⟨#[49, 50, 51, 52, 53, 54, 55, 56, 57]⟩ (by decide) W
  have e : sum (⟨#[49, 50, 51, 52, 53, 54, 55, 56, 57]⟩ : ByteArray).data.toList = 3808858755 := by decide +kernel
  rw [e] at h; exact h
theorem ent_vals : ent 0 = 0 ∧ ent 1 = 4067132163 ∧ ent 128 = 2197175160 := by decide +kernel

/-- The full table lies in block g. -/
def TabAt (w : World) (g : Nat) : Prop := w.heap[g]? = some (.cells (tabCells 256) 24 (0, 0))
theorem TabAt.below {w w' : World} {g : Nat} (h : TabAt w g) (hb : Below w.heap.size w w') : TabAt w' g := by
  have hlt : g < w.heap.size := (Array.getElem?_eq_some_iff.1 h).1
  unfold TabAt; rw [hb.block g hlt]; exact h
theorem TabAt.cell {w : World} {g : Nat} (h : TabAt w g) (j : Nat) (hj : j < 256) : w.cell? ⟨g, j, none⟩ = some (.int .u32 (ent j : Nat)) := by
  rw [cell_of_row _ _ _ _ _ _ h, tab_at _ _ hj, if_pos hj]
theorem TabAt.three {w : World} {g : Nat} (h : TabAt w g) : w.cell? ⟨g, 0, none⟩ = some (.int .u32 0) ∧ w.cell? ⟨g, 1, none⟩ = some (.int .u32 4067132163) ∧ w.cell? ⟨g, 128, none⟩ = some (.int .u32 2197175160) := by
  have h0 := h.cell 0 (by omega); have h1 := h.cell 1 (by omega); have h2 := h.cell 128 (by omega)
  rw [ent_vals.1] at h0; rw [ent_vals.2.1] at h1; rw [ent_vals.2.2] at h2
  exact ⟨h0, h1, h2⟩
theorem below_next {A B C : World} (h : Below A.heap.size A B) (k : Below B.heap.size B C) : Below A.heap.size A C := h.trans (k.mono h.size)

theorem open_ab (W : World) :
    Calls Try.prog 10 #[.string (⟨#[97, 98]⟩ ++ lowB (sum [97, 98]))] W fun e w' => e = .returned (.tuple #[.string ⟨#[97, 98]⟩, .bool true]) ∧ Below W.heap.size W w' :=
  open_sealed ⟨#[97, 98]⟩ (by decide) W
theorem seal_ab (W : World) :
    Calls Try.prog 16 #[.string ⟨#[97, 98]⟩] W fun e w' => e = .returned (.string (⟨#[97, 98]⟩ ++ lowB (sum [97, 98]))) ∧ Below W.heap.size W w' :=
  sum_Seal ⟨#[97, 98]⟩ (by decide) W

set_option maxHeartbeats 1000000 in
theorem law_head (W : World) :
    Calls Try.prog 7 #[] W fun e w' => e = .returned (.bool true) ∧ Below W.heap.size W w' := by
  obtain ⟨hz, hi⟩ := zero_of_info tab_info
  go_enter Try.func7, Try.ntmps7
  go_wp2_with (first
    | (go_at_call 8; refine (sum_Table _).mono ?_; rintro e w1 ⟨rfl, hb1⟩)
    | (refine wpList_store_row rfl _ _ _ rfl _ (tabCells 256) rfl rfl 24 _ (heap_alloc_last _ _) (by rw [tab_size]; kernel_rfl) (by rw [tab_size, tab_size]) (tab_one_cell _) ?_; rw [World.setRow_alloc_new])
    | (go_at_call 16; refine (seal_ab _).mono ?_; rintro e w2 ⟨rfl, hb2⟩; have hT2 : TabAt w2 w1.heap.size := TabAt.below (heap_alloc_last _ _) hb2; have hb12 : Below W.heap.size W w2 := below_next (hb1.alloc hb1.size _) hb2; clear hb1 hb2)
    | (go_at_call 10; (with_reducible refine (open_ab _).mono ?_); rintro e w3 ⟨rfl, hb3⟩; have hT3 := hT2.below hb3; have hb13 := below_next hb12 hb3; clear hT2 hb12 hb3)
    | (go_at_call 10; (with_reducible refine (open_zeros _).mono ?_); rintro e w4 ⟨rfl, hb4⟩; have hT4 := hT3.below hb4; have hb14 := below_next hb13 hb4; clear hT3 hb13 hb4)
    | (go_at_call 10; (with_reducible refine (open_abc _).mono ?_); rintro e w5 ⟨rfl, hb5⟩; have hb15 := below_next hb14 hb5; obtain ⟨hc0, hc1, hc2⟩ := (hT4.below hb5).three; clear hT4 hb14 hb5)
    | (go_at_call 12; (with_reducible refine (sum_empty _).mono ?_); rintro e w6 ⟨rfl, hb6⟩)
    | (go_at_call 12; (with_reducible refine (sum_digits _).mono ?_); rintro e w7 ⟨rfl, hb7⟩))
  go_ret
  exact ⟨rfl, below_next (below_next hb15 hb6) hb7⟩

end Go.Proofs.Ytgnejcjlmagphaa
