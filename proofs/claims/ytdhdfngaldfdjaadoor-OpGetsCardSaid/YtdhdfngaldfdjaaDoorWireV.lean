/-
  Contracts of package wire: the writers, their other methods.
-/
import Derived.Test.YtdhdfngaldfdjaaDoorWireW
import Derived.Test.YtdhdfngaldfdjaaDoorClone
import Derived.Lib.SlBytesRow
import Derived.Lib.Strings
namespace Go.Proofs.YtdhdfngaldfdjaaDoor
open Go Go.RowKit Wire

set_option maxRecDepth 100000
set_option linter.unusedVariables false
set_option linter.unusedSimpArgs false
theorem wire_put_Num (W : World) (B g n : Nat) (l : List UInt8) (hw : WAt W B g l) (hB : B ≤ W.heap.size) (hl : l.length ≤ 1000000) (h64 : n < 18446744073709551616) :
    Calls Tryd.prog 33 #[.pointer (some ⟨g, 0, none⟩), .int .u64 n] W fun e w' => e = .returned (.tuple #[]) ∧ WAt w' B g (l ++ enc n) ∧ Keeps B (some g) W w' := by
  by_cases h : n < 128
  · exact num_small W B g n l hw hB hl h
  · exact num_great W B g n l hw hB hl h h64

/-- A text's bytes. -/
def encT (s : List UInt8) : List UInt8 := enc s.length ++ s

/-- A dot's bytes. -/
def encD (r n : Nat) : List UInt8 := enc r ++ enc n

set_option maxRecDepth 100000 in
theorem wire_put_Dot (W : World) (B g r n : Nat) (l : List UInt8) (hw : WAt W B g l) (hB : B ≤ W.heap.size) (hl : l.length ≤ 900000) (hr : r < 256) (hn : n < 4294967296) :
    Calls Tryd.prog 31 #[.pointer (some ⟨g, 0, none⟩), .agg #[.int .u8 r, .int .u32 n]] W fun e w' => e = .returned (.tuple #[]) ∧ WAt w' B g (l ++ encD r n) ∧ Keeps B (some g) W w' := by
  have hel := enc_len (n := r) (by omega)
  have hlt := hw.lt
  have hb1 : Below W.heap.size W (W.alloc (.cells #[.int .u8 (r : Int), .int .u32 (n : Int)] 24)) := (Below.refl _ _).alloc (Nat.le_refl _) _
  have hx : (W.alloc (.cells #[.int .u8 (r : Int), .int .u32 (n : Int)] 24)).heap[W.heap.size]? = some (.cells #[.int .u8 (r : Int), .int .u32 (n : Int)] 24 (0, 0)) := heap_alloc_last _ _
  have hnum := wire_put_Num _ B g r l (hw.kept hb1) (Nat.le_trans hB hb1.size) (by omega) (by omega)
  have hcv1 : IntKind.u64.wrap (r : Int) = r := by rw [wrap_u64]; omega
  have hcv2 : IntKind.u64.wrap (n : Int) = n := by rw [wrap_u64]; omega
  have hB1 := Nat.le_trans hB hb1.size
  have hgW : some W.heap.size ≠ some g := by simp; omega
  have hx0 : (W.alloc (.cells #[.int .u8 (r : Int), .int .u32 (n : Int)] 24)).cell? ⟨W.heap.size, 0, none⟩ = some (.int .u8 (r : Int)) := (cell_of_heap (j := 0) hx).trans rfl
  have HX : Hid _ := hx
  clear hx
  go_enter Tryd.func31, Tryd.ntmps31
  go_wp2_with (first
    | (go_at_call 33; refine hnum.mono ?_; rintro e w1 ⟨rfl, hw1, hk1⟩; have hy1 : w1.cell? ⟨W.heap.size, 1, none⟩ = some (.int .u32 (n : Int)) := (cell_of_heap (j := 1) (hk1.other _ _ _ _ HX.out (by decide) hgW)).trans rfl; clear hnum)
    | (go_at_call 33; refine (wire_put_Num _ B g n _ hw1 (Nat.le_trans hB1 hk1.size) (by simp; omega) (by omega)).mono ?_; rintro e w2 ⟨rfl, hw2, hk2⟩))
  go_end0
  refine ⟨rfl, by unfold encD; rw [← List.append_assoc]; exact hw2, ?_⟩
  exact (hb1.keeps (some g) B hB).trans (hk1.trans hk2)

/-- Eight numbers as an array's cells. -/
def vcells (v : List Nat) : Array Value := (v.map fun n : Nat => Value.int .u32 (n : Int)).toArray
theorem vcells_size (v : List Nat) : (vcells v).size = v.length := by simp [vcells]
theorem vcells_at (v : List Nat) (k : Nat) (h : k < v.length) : (vcells v)[k]? = some (.int .u32 (v[k] : Int)) := by simp [vcells, h]
theorem encV_take (v : List Nat) (k : Nat) (h : k < v.length) : encV (v.take (k + 1)) = encV (v.take k) ++ enc v[k] := by
  rw [List.take_succ_eq_append_getElem h, encV_snoc]
theorem encV_take_len (v : List Nat) (hv : ∀ n ∈ v, n < 4294967296) (k : Nat) : (encV (v.take k)).length ≤ 9 * v.length := by
  have := encV_len (v := v.take k) (fun n hn => hv n (List.mem_of_mem_take hn))
  have h2 : (v.take k).length ≤ v.length := by rw [List.length_take]; omega
  omega

theorem index_vec (v : List Nat) (h8 : v.length = 8) (k : Nat) (hk : k < 8) (w : World) :
    (Instr.index 26 (.agg (vcells v)) (.int .i64 (k : Int))).run Tryd.prog w = .ok (.int .u32 ((v[k]'(by omega) : Nat) : Int)) w := by
  have hn : (0 : Int) ≤ (k : Int) ∧ (k : Int) < 8 := by omega
  have hat := vcells_at v k (by omega)
  simp [Instr.index, run_underlying Tryd.underlying26, asIntOf, hn, hk, hat, go_sem]

set_option maxRecDepth 100000 in
theorem wire_put_Vector (W : World) (B g : Nat) (v : List Nat) (l : List UInt8) (hw : WAt W B g l) (hB : B ≤ W.heap.size) (hl : l.length ≤ 900000) (h8 : v.length = 8) (hv : ∀ n ∈ v, n < 4294967296) :
    Calls Tryd.prog 32 #[.pointer (some ⟨g, 0, none⟩), .agg (vcells v)] W fun e w' => e = .returned (.tuple #[]) ∧ WAt w' B g (l ++ encV v) ∧ Keeps B (some g) W w' := by
  have hlt := hw.lt
  have hb1 : Below W.heap.size W (W.alloc (.cells (vcells v) 26)) := (Below.refl _ _).alloc (Nat.le_refl _) _
  have hx : (W.alloc (.cells (vcells v) 26)).heap[W.heap.size]? = some (.cells (vcells v) 26 (0, 0)) := heap_alloc_last _ _
  have hw1 := hw.kept hb1
  have hk1 := hb1.keeps (some g) B hB
  have hsz := vcells_size v
  rw [h8] at hsz
  go_enter Tryd.func32, Tryd.ntmps32
  go_wp2_with (first | (refine wpList_load_row rfl _ _ rfl W.heap.size rfl _ _ _ _ hx Tryd.underlying26 rfl (by rw [hsz]; kernel_rfl) ?_))
  go_loopw [7] (fun i wr => ∃ k : Nat, k ≤ 8 ∧ i = .int .i64 k ∧ WAt wr B g (l ++ encV (v.take k)) ∧ Keeps B (some g) W wr) (fun i _ => 8 - (intOf i).toNat)
  case atStart => exact ⟨0, by omega, rfl, by rw [List.take_zero]; simpa [encV] using hw1, hk1⟩
  case round =>
    obtain ⟨k, hk, rfl, hwr, hkr⟩ := hrel
    by_cases hlt : k < 8
    · have hat := index_vec v h8 k hlt
      have hvk := hv v[k] (List.getElem_mem (by omega))
      have htk := encV_take v k (by omega)
      have hcv : IntKind.u64.wrap ((v[k]'(by omega) : Nat) : Int) = ((v[k]'(by omega) : Nat) : Int) := by rw [wrap_u64]; omega
      generalize v[k] = x at hat hvk hcv htk
      have HT : Hid (encV (v.take (k + 1)) = encV (v.take k) ++ enc x) := htk
      clear htk
      have hlen := encV_take_len v hv k
      go_wp2_with (go_at_call 33; refine (wire_put_Num _ B g x _ hwr (Nat.le_trans hB hkr.size) (by simp; omega) (by omega)).mono ?_; rintro e w2 ⟨rfl, hw2, hk2⟩)
      go_roundw
      case rel => exact ⟨k + 1, by omega, by go_num, by rw [HT.out, ← List.append_assoc]; exact hw2, hkr.trans hk2⟩
      case measure => simp [intOf]; omega
    · have : k = 8 := by omega
      subst this
      go_wp2
      go_end0
      rw [← h8, List.take_length] at hwr
      exact ⟨rfl, hwr, hkr⟩

theorem row_conv (w : World) (B : Nat) (v : Value) (l : List UInt8) (h : w.ownsRow B 5 1 v l.length (Lib.byteCells l)) :
    (convert 48 9 v).run Tryd.prog w = .ok (.string (ba l)) w := by
  rcases h.2 with ⟨rfl, h0⟩ | ⟨g', cap, cur, hv, hrest⟩
  · have : l = [] := List.eq_nil_of_length_eq_zero h0
    subst this
    first
      | rfl
      | (simp [convert, run_underlying Tryd.underlying48, run_underlying Tryd.underlying9, run_underlying Tryd.underlying5, go_sem]; done)
  · have hcells := h.cells (g := g') (by rw [hv]; rfl)
    rw [hv]
    have := Lib.run_convert_whole w 48 5 9 Tryd.underlying48 Tryd.underlying5 Tryd.underlying9 g' 0 (ba l) (fun i hi => by
      have := hcells i (.int .u8 (ba l)[i].toNat) (by simp [Lib.byteCells, ba_get l i hi])
      rw [Addr.add_lit] at this
      exact this) cap
    rw [ba_size] at this
    exact this

set_option maxRecDepth 100000 in
theorem wire_Bytes (W : World) (B g : Nat) (l : List UInt8) (hw : WAt W B g l) :
    Calls Tryd.prog 34 #[.pointer (some ⟨g, 0, none⟩)] W fun e w' => e = .returned (.string (ba l)) ∧ W = w' := by
  obtain ⟨v, hg, ho⟩ := hw
  have hc : W.cell? ⟨g, 0, none⟩ = some v := (cell_of_heap hg).trans rfl
  have hcv := row_conv W B v l ho
  have HG : Hid _ := hg
  clear hg
  go_enter Tryd.func34, Tryd.ntmps34
  go_wp2_with (first
    | (go_at_call 52; refine (none_made _ g v true HG.out).mono ?_; rintro e w1 ⟨rfl, rfl⟩))
  go_ret
  exact ⟨rfl, rfl⟩

/-! ### Writers that are none -/
theorem nil_Num (n : Nat) (W : World) : Calls Tryd.prog 33 #[.pointer none, .int .u64 n] W fun e w' => e = .returned (.tuple #[]) ∧ W = w' := by
  go_enter Tryd.func33, Tryd.ntmps33
  go_wp2_with (go_at_call 52; refine (none_nil _).mono ?_; rintro e w1 ⟨rfl, rfl⟩)
  refine bodyPost_ret (results_none rfl _ _ _) rfl ?_
  exact ⟨rfl, rfl⟩
theorem nil_Bytes (W : World) : Calls Tryd.prog 34 #[.pointer none] W fun e w' => e = .returned (.string ⟨#[]⟩) ∧ W = w' := by
  go_enter Tryd.func34, Tryd.ntmps34
  go_wp2_with (go_at_call 52; refine (none_nil _).mono ?_; rintro e w1 ⟨rfl, rfl⟩)
  go_ret
  exact ⟨rfl, rfl⟩
theorem nil_Dot (W : World) : Calls Tryd.prog 31 #[.pointer none, .agg #[.int .u8 0, .int .u32 0]] W fun e w' => e = .returned (.tuple #[]) ∧ Below W.heap.size W w' := by
  have hx : (W.alloc (.cells #[.int .u8 0, .int .u32 0] 24)).heap[W.heap.size]? = some (.cells #[.int .u8 0, .int .u32 0] 24 (0, 0)) := heap_alloc_last _ _
  have h0 := (cell_of_heap (j := 0) hx).trans rfl
  have h1 := (cell_of_heap (j := 1) hx).trans rfl
  clear hx
  go_enter Tryd.func31, Tryd.ntmps31
  go_wp2_with (go_at_call 33; refine (nil_Num 0 _).mono ?_; rintro e w1 ⟨rfl, rfl⟩)
  go_end0
  exact ⟨rfl, (Below.refl _ W).alloc (Nat.le_refl _) _⟩
theorem zero_vcells : vcells zeros8 = #[.int .u32 0, .int .u32 0, .int .u32 0, .int .u32 0, .int .u32 0, .int .u32 0, .int .u32 0, .int .u32 0] := rfl
theorem nil_Vector (W : World) : Calls Tryd.prog 32 #[.pointer none, .agg (vcells zeros8)] W fun e w' => e = .returned (.tuple #[]) ∧ Below W.heap.size W w' := by
  have hb1 : Below W.heap.size W (W.alloc (.cells (vcells zeros8) 26)) := (Below.refl _ _).alloc (Nat.le_refl _) _
  have hx : (W.alloc (.cells (vcells zeros8) 26)).heap[W.heap.size]? = some (.cells (vcells zeros8) 26 (0, 0)) := heap_alloc_last _ _
  have hsz : (vcells zeros8).size = 8 := rfl
  have hat : ∀ k : Nat, k < 8 → ∀ w : World, (Instr.index 26 (.agg (vcells zeros8)) (.int .i64 (k : Int))).run Tryd.prog w = .ok (.int .u32 0) w := fun k hk w => by
    have h := index_vec zeros8 rfl k hk w
    have e : zeros8[k]'(by simp [zeros8]; omega) = 0 := by
      have : ∀ x ∈ zeros8, x = 0 := by simp [zeros8]
      exact this _ (List.getElem_mem _)
    rw [e] at h; exact h
  generalize vcells zeros8 = V at *
  go_enter Tryd.func32, Tryd.ntmps32
  go_wp2_with (first | (refine wpList_load_row rfl _ _ rfl W.heap.size rfl _ _ _ _ hx Tryd.underlying26 rfl (by rw [hsz]; kernel_rfl) ?_))
  go_loopw [7] (fun i wr => ∃ k : Nat, k ≤ 8 ∧ i = .int .i64 k ∧ Below W.heap.size W wr) (fun i _ => 8 - (intOf i).toNat)
  case atStart => exact ⟨0, by omega, rfl, hb1⟩
  case round =>
    obtain ⟨k, hk, rfl, hbr⟩ := hrel
    by_cases hlt : k < 8
    · have ha := hat k hlt
      clear hat
      go_wp2_with (go_at_call 33; refine (nil_Num 0 _).mono ?_; rintro e w1 ⟨rfl, rfl⟩)
      go_roundw
      case rel => exact ⟨k + 1, by omega, by go_num, hbr⟩
      case measure => simp [intOf]; omega
    · have : k = 8 := by omega
      subst this
      clear hat
      go_wp2
      go_end0
      exact ⟨rfl, hbr⟩
theorem zero_Num (g n : Nat) (v : Value) (W : World) (hg : W.heap[g]? = some (.cells #[v, .bool false] 97 (0, 0))) : Calls Tryd.prog 33 #[.pointer (some ⟨g, 0, none⟩), .int .u64 n] W fun e w' => e = .returned (.tuple #[]) ∧ W = w' := by
  go_enter Tryd.func33, Tryd.ntmps33
  go_wp2_with (go_at_call 52; refine (none_made _ g v false hg).mono ?_; rintro e w1 ⟨rfl, rfl⟩)
  refine bodyPost_ret (results_none rfl _ _ _) rfl ?_
  exact ⟨rfl, rfl⟩
theorem zero_Bytes (g : Nat) (v : Value) (W : World) (hg : W.heap[g]? = some (.cells #[v, .bool false] 97 (0, 0))) : Calls Tryd.prog 34 #[.pointer (some ⟨g, 0, none⟩)] W fun e w' => e = .returned (.string ⟨#[]⟩) ∧ W = w' := by
  go_enter Tryd.func34, Tryd.ntmps34
  go_wp2_with (go_at_call 52; refine (none_made _ g v false hg).mono ?_; rintro e w1 ⟨rfl, rfl⟩)
  go_ret
  exact ⟨rfl, rfl⟩

end Go.Proofs.YtdhdfngaldfdjaaDoor
