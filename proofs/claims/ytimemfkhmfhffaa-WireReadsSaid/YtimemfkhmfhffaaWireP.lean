/-
  An item put behind others.
-/
import Derived.Test.YtimemfkhmfhffaaWireI
namespace Go.Proofs.Ytimemfkhmfhffaa
open Go Go.RowKit Wire

/-- An item's bytes. -/
def encI (x : Thing) : List UInt8 := if x.kind % 4 = 0 then enc x.n else if x.kind % 4 = 1 then encT x.s.data.toList else if x.kind % 4 = 2 then encD x.r x.dn else encV x.vec

theorem things_cells (W : World) (x : Thing) {w : World} (h : w.heap[W.heap.size]? = some (.cells x.cells 35 (0, 0))) :
    w.cell? ⟨W.heap.size, 0, none⟩ = some (.int .u8 x.kind) ∧ w.cell? ⟨W.heap.size, 1, none⟩ = some (.int .u64 x.n) ∧ w.cell? ⟨W.heap.size, 2, none⟩ = some (.string x.s) ∧
      w.cell? ⟨W.heap.size, 3, none⟩ = some (.int .u8 x.r) ∧ w.cell? ⟨W.heap.size, 4, none⟩ = some (.int .u32 x.dn) ∧ w.cell? ⟨W.heap.size, 5, none⟩ = some (.int .u32 x.v0) ∧ w.cell? ⟨W.heap.size, 6, none⟩ = some (.int .u32 x.v1) ∧ w.cell? ⟨W.heap.size, 7, none⟩ = some (.int .u32 x.v2) ∧
      w.cell? ⟨W.heap.size, 8, none⟩ = some (.int .u32 x.v3) ∧ w.cell? ⟨W.heap.size, 9, none⟩ = some (.int .u32 x.v4) ∧ w.cell? ⟨W.heap.size, 10, none⟩ = some (.int .u32 x.v5) ∧ w.cell? ⟨W.heap.size, 11, none⟩ = some (.int .u32 x.v6) ∧ w.cell? ⟨W.heap.size, 12, none⟩ = some (.int .u32 x.v7) ∧ w.cell? ⟨W.heap.size, 13, none⟩ = some (.int .u64 x.most) :=
  ⟨(cell_of_heap h).trans rfl, (cell_of_heap h).trans rfl, (cell_of_heap h).trans rfl, (cell_of_heap h).trans rfl, (cell_of_heap h).trans rfl, (cell_of_heap h).trans rfl, (cell_of_heap h).trans rfl, (cell_of_heap h).trans rfl, (cell_of_heap h).trans rfl, (cell_of_heap h).trans rfl, (cell_of_heap h).trans rfl, (cell_of_heap h).trans rfl, (cell_of_heap h).trans rfl, (cell_of_heap h).trans rfl⟩

set_option maxHeartbeats 2000000 in
set_option maxRecDepth 100000 in
theorem put_0 (W : World) (B g : Nat) (x : Thing) (hok : x.ok) (hk : x.kind % 4 = 0) (l : List UInt8) (hw : WAt W B g l) (hB : B ≤ W.heap.size) (hl : l.length ≤ 800000) :
    Calls Try.prog 11 #[.pointer (some ⟨g, 0, none⟩), .agg x.cells] W fun e w' => e = .returned (.string (ba (enc x.n))) ∧ WAt w' B g (l ++ enc x.n) ∧ Keeps B (some g) W w' := by
  have hlt := hw.lt
  have hgW : some W.heap.size ≠ some g := by simp; omega
  have hb := (Below.refl W.heap.size W).alloc (Nat.le_refl _) (.cells x.cells 35)
  have hz := heap_alloc_last W (.cells x.cells 35)
  have hw1 := hw.kept hb
  have hK := hb.keeps (some g) B hB
  have hB1 := Nat.le_trans hB hb.size
  obtain ⟨h0, h1, h2, h3, h4, h5, h6, h7, h8, h9, h10, h11, h12, h13⟩ := things_cells W x hz
  have hput := wire_put_Num _ B g x.n l hw1 hB1 (by omega) hok.2.1
  have href := ref_Num x.n hok.2.1
  have hkm : (x.kind : Int).tmod 4 = 0 := by rw [Int.tmod_eq_emod_of_nonneg (by omega)]; omega
  have HZ : Hid _ := hz
  clear hz hw hb hok
  go_enter Try.func11, Try.ntmps11
  go_wp2_with (first
    | (go_at_call 23; refine hput.mono ?_; rintro e w1 ⟨rfl, hw1, hk1⟩; obtain ⟨_, j1, j2, j3, j4, j5, j6, j7, j8, j9, j10, j11, j12, _⟩ := things_cells W x (hk1.other _ _ _ _ HZ.out (by decide) hgW))
    | (go_at_call 28; refine (href _).mono ?_; rintro e w2 ⟨rfl, hb2⟩))
  go_ret
  exact ⟨rfl, hw1.kept hb2, hK.trans (hk1.trans (hb2.keeps (some g) B (Nat.le_trans hB1 hk1.size)))⟩

set_option maxHeartbeats 2000000 in
set_option maxRecDepth 100000 in
theorem put_1 (W : World) (B g : Nat) (x : Thing) (_ : x.ok) (hk : x.kind % 4 = 1) (l : List UInt8) (hw : WAt W B g l) (hB : B ≤ W.heap.size) (hl : l.length ≤ 800000) (hs : x.s.size ≤ 2000) :
    Calls Try.prog 11 #[.pointer (some ⟨g, 0, none⟩), .agg x.cells] W fun e w' => e = .returned (.string (ba (encT x.s.data.toList))) ∧ WAt w' B g (l ++ encT x.s.data.toList) ∧ Keeps B (some g) W w' := by
  have hlt := hw.lt
  have hgW : some W.heap.size ≠ some g := by simp; omega
  have hb := (Below.refl W.heap.size W).alloc (Nat.le_refl _) (.cells x.cells 35)
  have hz := heap_alloc_last W (.cells x.cells 35)
  have hw1 := hw.kept hb
  have hK := hb.keeps (some g) B hB
  have hB1 := Nat.le_trans hB hb.size
  obtain ⟨h0, h1, h2, h3, h4, h5, h6, h7, h8, h9, h10, h11, h12, h13⟩ := things_cells W x hz
  have hput := wire_put_Text _ B g x.s l hw1 hB1 (by omega) (by omega)
  have href := ref_Text x.s (by omega)
  have hkm : (x.kind : Int).tmod 4 = 1 := by rw [Int.tmod_eq_emod_of_nonneg (by omega)]; omega
  have HZ : Hid _ := hz
  clear hz hw hb
  go_enter Try.func11, Try.ntmps11
  go_wp2_with (first
    | (go_at_call 24; refine hput.mono ?_; rintro e w1 ⟨rfl, hw1, hk1⟩; obtain ⟨_, j1, j2, j3, j4, j5, j6, j7, j8, j9, j10, j11, j12, _⟩ := things_cells W x (hk1.other _ _ _ _ HZ.out (by decide) hgW))
    | (go_at_call 29; refine (href _).mono ?_; rintro e w2 ⟨rfl, hb2⟩))
  go_ret
  exact ⟨rfl, hw1.kept hb2, hK.trans (hk1.trans (hb2.keeps (some g) B (Nat.le_trans hB1 hk1.size)))⟩

set_option maxHeartbeats 2000000 in
set_option maxRecDepth 100000 in
theorem put_2 (W : World) (B g : Nat) (x : Thing) (hok : x.ok) (hk : x.kind % 4 = 2) (l : List UInt8) (hw : WAt W B g l) (hB : B ≤ W.heap.size) (hl : l.length ≤ 800000) :
    Calls Try.prog 11 #[.pointer (some ⟨g, 0, none⟩), .agg x.cells] W fun e w' => e = .returned (.string (ba (encD x.r x.dn))) ∧ WAt w' B g (l ++ encD x.r x.dn) ∧ Keeps B (some g) W w' := by
  have hlt := hw.lt
  have hgW : some W.heap.size ≠ some g := by simp; omega
  have hb := (Below.refl W.heap.size W).alloc (Nat.le_refl _) (.cells x.cells 35)
  have hz := heap_alloc_last W (.cells x.cells 35)
  have hw1 := hw.kept hb
  have hK := hb.keeps (some g) B hB
  have hB1 := Nat.le_trans hB hb.size
  obtain ⟨h0, h1, h2, h3, h4, h5, h6, h7, h8, h9, h10, h11, h12, h13⟩ := things_cells W x hz
  have hput := wire_put_Dot _ B g x.r x.dn l hw1 hB1 (by omega) hok.2.2.2.1 hok.2.2.2.2.1
  have href := ref_Dot x.r x.dn hok.2.2.2.1 hok.2.2.2.2.1
  have hkm : (x.kind : Int).tmod 4 = 2 := by rw [Int.tmod_eq_emod_of_nonneg (by omega)]; omega
  have HZ : Hid _ := hz
  clear hz hw hb hok
  go_enter Try.func11, Try.ntmps11
  go_wp2_with (first
    | (go_at_call 25; refine hput.mono ?_; rintro e w1 ⟨rfl, hw1, hk1⟩; obtain ⟨_, j1, j2, j3, j4, j5, j6, j7, j8, j9, j10, j11, j12, _⟩ := things_cells W x (hk1.other _ _ _ _ HZ.out (by decide) hgW))
    | (go_at_call 30; refine (href _).mono ?_; rintro e w2 ⟨rfl, hb2⟩))
  go_ret
  exact ⟨rfl, hw1.kept hb2, hK.trans (hk1.trans (hb2.keeps (some g) B (Nat.le_trans hB1 hk1.size)))⟩

set_option maxHeartbeats 2000000 in
set_option maxRecDepth 100000 in
theorem put_3 (W : World) (B g : Nat) (x : Thing) (hok : x.ok) (hk : x.kind % 4 = 3) (l : List UInt8) (hw : WAt W B g l) (hB : B ≤ W.heap.size) (hl : l.length ≤ 800000) :
    Calls Try.prog 11 #[.pointer (some ⟨g, 0, none⟩), .agg x.cells] W fun e w' => e = .returned (.string (ba (encV x.vec))) ∧ WAt w' B g (l ++ encV x.vec) ∧ Keeps B (some g) W w' := by
  have hlt := hw.lt
  have hgW : some W.heap.size ≠ some g := by simp; omega
  have hb := (Below.refl W.heap.size W).alloc (Nat.le_refl _) (.cells x.cells 35)
  have hz := heap_alloc_last W (.cells x.cells 35)
  have hw1 := hw.kept hb
  have hK := hb.keeps (some g) B hB
  have hB1 := Nat.le_trans hB hb.size
  obtain ⟨h0, h1, h2, h3, h4, h5, h6, h7, h8, h9, h10, h11, h12, h13⟩ := things_cells W x hz
  have hput := wire_put_Vector _ B g x.vec l hw1 hB1 (by omega) rfl hok.2.2.2.2.2.1
  have href := ref_Vector x.vec rfl hok.2.2.2.2.2.1
  have hkm : (x.kind : Int).tmod 4 = 3 := by rw [Int.tmod_eq_emod_of_nonneg (by omega)]; omega
  have HZ : Hid _ := hz
  clear hz hw hb hok
  go_enter Try.func11, Try.ntmps11
  go_wp2_with (first
    | (go_at_call 26; refine hput.mono ?_; rintro e w1 ⟨rfl, hw1, hk1⟩; obtain ⟨_, j1, j2, j3, j4, j5, j6, j7, j8, j9, j10, j11, j12, _⟩ := things_cells W x (hk1.other _ _ _ _ HZ.out (by decide) hgW))
    | (go_at_call 31; refine (href _).mono ?_; rintro e w2 ⟨rfl, hb2⟩))
  go_ret
  exact ⟨rfl, hw1.kept hb2, hK.trans (hk1.trans (hb2.keeps (some g) B (Nat.le_trans hB1 hk1.size)))⟩

theorem law_put (W : World) (B g : Nat) (x : Thing) (hok : x.ok) (hs : x.s.size ≤ 2000) (l : List UInt8) (hw : WAt W B g l) (hB : B ≤ W.heap.size) (hl : l.length ≤ 800000) :
    Calls Try.prog 11 #[.pointer (some ⟨g, 0, none⟩), .agg x.cells] W fun e w' => e = .returned (.string (ba (encI x))) ∧ WAt w' B g (l ++ encI x) ∧ Keeps B (some g) W w' := by
  unfold encI
  by_cases h0 : x.kind % 4 = 0
  · rw [if_pos h0]; exact put_0 W B g x hok h0 l hw hB hl
  · rw [if_neg h0]
    by_cases h1 : x.kind % 4 = 1
    · rw [if_pos h1]; exact put_1 W B g x hok h1 l hw hB hl hs
    · rw [if_neg h1]
      by_cases h2 : x.kind % 4 = 2
      · rw [if_pos h2]; exact put_2 W B g x hok h2 l hw hB hl
      · rw [if_neg h2]; exact put_3 W B g x hok (by omega) l hw hB hl

theorem encI_len (x : Thing) (hok : x.ok) : (encI x).length ≤ 81 + x.s.size := by
  unfold encI
  have h1 := enc_len hok.2.1
  have h3 := enc_len (n := x.r) (by have := hok.2.2.2.1; omega)
  have h4 := enc_len (n := x.dn) (by have := hok.2.2.2.2.1; omega)
  have h5 := encV_len hok.2.2.2.2.2.1
  have h6 : x.vec.length = 8 := rfl
  have h7 := enc_len (n := x.s.size) (by have := hok.2.2.1; omega)
  split
  · omega
  · split
    · unfold encT; rw [len_toList, List.length_append, len_toList]; omega
    · split
      · unfold encD; rw [List.length_append]; omega
      · omega

/-- All items' bytes. -/
def encAll (xs : List Thing) : List UInt8 := xs.flatMap encI
theorem encAll_take (xs : List Thing) (k : Nat) (x : Thing) (h : xs[k]? = some x) : encAll (xs.take (k + 1)) = encAll (xs.take k) ++ encI x := by
  have hk : k < xs.length := (List.getElem?_eq_some_iff.1 h).1
  have he : xs[k] = x := (List.getElem?_eq_some_iff.1 h).2
  unfold encAll
  rw [List.take_succ_eq_append_getElem hk, List.flatMap_append, he]
  simp
theorem encAll_len (xs : List Thing) (h : ∀ x ∈ xs, x.ok) : (encAll xs).length ≤ 81 * xs.length + textSum xs := by
  induction xs with
  | nil => simp [encAll]
  | cons x xs ih =>
    have h1 := ih (fun y hy => h y (by simp [hy]))
    have h2 := encI_len x (h x (by simp))
    unfold encAll textSum at h1 ⊢
    simp only [List.flatMap_cons, List.length_append, List.map_cons, List.sum_cons, List.length_cons]
    omega
theorem textSum_mem (xs : List Thing) (x : Thing) (h : x ∈ xs) : x.s.size ≤ textSum xs := by
  induction xs with
  | nil => cases h
  | cons y ys ih =>
    unfold textSum at ih ⊢
    simp only [List.map_cons, List.sum_cons]
    rcases List.mem_cons.1 h with rfl | h
    · omega
    · have := ih h; omega
theorem textSum_take_mono (xs : List Thing) (k : Nat) : textSum (xs.take k) ≤ textSum xs := by
  have : textSum xs = textSum (xs.take k) + textSum (xs.drop k) := by
    unfold textSum
    rw [← List.sum_append, ← List.map_append, List.take_append_drop]
  omega
theorem encAll_small (xs : List Thing) (h : ∀ x ∈ xs, x.ok) (hg : isGreat xs = false) (k : Nat) : (encAll (xs.take k)).length ≤ 11000 := by
  have h1 := encAll_len (xs.take k) (fun x hx => h x (List.mem_of_mem_take hx))
  have h2 := textSum_take_mono xs k
  have h3 : (xs.take k).length ≤ xs.length := by rw [List.length_take]; omega
  unfold isGreat at hg
  simp at hg
  omega

end Go.Proofs.Ytimemfkhmfhffaa
