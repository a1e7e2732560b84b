/-
  Contracts of the document's answer for package wire: numbers, texts, dots, vectors as bytes.
-/
import Derived.Test.YtdhdfngaldfdjaaDoorWireV
import Derived.Deep.RegionWith
namespace Go.Proofs.YtdhdfngaldfdjaaDoor
open Go Go.RowKit Wire

set_option maxRecDepth 100000
set_option linter.unusedVariables false
set_option linter.unusedSimpArgs false
theorem below_next {A B C : World} (h : Below A.heap.size A B) (k : Below B.heap.size B C) : Below A.heap.size A C := h.trans (k.mono h.size)

theorem conv_one (w : World) (b y : Nat) (hy : y < 256) (hc : w.cell? ⟨b, 0, none⟩ = some (.int .u8 (y : Int))) :
    (convert 48 9 (.slice (some ⟨b, 0, none⟩) 1 1)).run Tryd.prog w = .ok (.string (ba [UInt8.ofNat y])) w := by
  have := Lib.run_convert_whole (P := Tryd.prog) w 48 5 9 Tryd.underlying48 Tryd.underlying5 Tryd.underlying9 b 0 (ba [UInt8.ofNat y]) (fun i hi => by
    have hi' : i < 1 := hi
    obtain rfl : i = 0 := by omega
    rw [Nat.zero_add, hc]
    have : (ba [UInt8.ofNat y])[0].toNat = y := Wire.u8_ofNat hy
    exact congrArg (fun z : Nat => some (Value.int .u8 (z : Int))) this.symm) 1
  exact this
theorem conv_new (w : World) (y : Nat) (hy : y < 256) :
    (convert 48 9 (.slice (some ⟨w.heap.size, 0, none⟩) 1 1)).run Tryd.prog (w.alloc (.cells #[.int .u8 (y : Int)] 5)) = .ok (.string (ba [UInt8.ofNat y])) (w.alloc (.cells #[.int .u8 (y : Int)] 5)) :=
  conv_one _ _ y hy ((cell_of_heap (heap_alloc_last _ _)).trans rfl)

theorem ref_digits (n : Nat) : ∀ (_ : n < 18446744073709551616) (W : World),
    Calls Tryd.prog 54 #[.int .u64 n] W fun e w' => e = .returned (.string (ba (dig n))) ∧ Below W.heap.size W w' := by
  induction n using Nat.strongRecOn with
  | ind n ih =>
    intro hn W
    by_cases h0 : n = 0
    · subst h0
      go_enter Tryd.func54, Tryd.ntmps54
      go_wp2
      go_ret
      exact ⟨by rw [dig_zero]; rfl, Below.refl _ _⟩
    · have hih := ih (n / 256) (by omega) (by omega)
      have hdn := dig_pos h0
      clear ih
      obtain ⟨q, hq⟩ : ∃ q : Nat, q = n / 256 := ⟨_, rfl⟩
      obtain ⟨y, hy⟩ : ∃ y : Nat, y = n % 256 := ⟨_, rfl⟩
      have hy2 : y < 256 := by omega
      have hql : q < 18446744073709551616 := by omega
      have hd1 : (n : Int).tdiv 256 = (q : Int) := by rw [Int.tdiv_eq_ediv_of_nonneg (by omega), hq]; rfl
      have hm1 : (n : Int).tmod 256 = (y : Int) := by rw [Int.tmod_eq_emod_of_nonneg (by omega), hy]; rfl
      have hw1 : IntKind.u64.wrap (q : Int) = q := by rw [wrap_u64]; omega
      have hw2 : IntKind.u8.wrap (y : Int) = y := by rw [wrap_u8]; omega
      have hw3 : IntKind.u64.wrap (y : Int) = y := by rw [wrap_u64]; omega
      rw [← hq] at hih hdn
      rw [← hy] at hdn
      have HD : Hid (dig n = dig q ++ [UInt8.ofNat y]) := hdn
      clear hdn hq hy
      go_enter Tryd.func54, Tryd.ntmps54
      have hn1 : (convert 48 9 (.slice (some ⟨W.heap.size, 0, none⟩) 1 1)).run Tryd.prog (W.alloc (.cells #[.int .u8 (y : Int)] 5)).drew = .ok (.string (ba [UInt8.ofNat y])) (W.alloc (.cells #[.int .u8 (y : Int)] 5)).drew :=
        conv_one _ _ y hy2 ((cell_of_heap (heap_alloc_last W _)).trans rfl)
      have hn2 := fun w => conv_new w y hy2
      have hs1 : (ba (dig q)).size ≤ 8 := by rw [ba_size]; exact dig_len8 hql
      have hs2 : (ba [UInt8.ofNat y]).size = 1 := rfl
      go_wp2
      go_region_with (go_at_call 54; refine (hih _).mono ?_; rintro e w1 ⟨rfl, hb1⟩; try have hq := conv_one w1 W.heap.size y hy2 ((cell_of_heap ((hb1.block W.heap.size (by simp)).trans (heap_alloc_last W (.cells #[.int .u8 (y : Int)] 5)))).trans rfl))
      all_goals
        have hB1 : Below W.heap.size W (W.alloc (.cells #[.int .u8 (y : Int)] 5)).drew := ((Below.refl _ W).alloc (Nat.le_refl _) _).drew
        clear hn1 hn2 hs1 hs2
        go_wp2
        go_ret
        rw [ba_append, ← HD.out]
        first
          | exact ⟨rfl, hB1.trans (hb1.mono hB1.size)⟩
          | exact ⟨rfl, (show Below W.heap.size W w1 from ⟨hb1.os, hb1.tape, hb1.output, hb1.size, hb1.block⟩).alloc hb1.size _⟩

set_option maxRecDepth 100000 in
theorem ref_Num (n : Nat) (hn : n < 18446744073709551616) (W : World) :
    Calls Tryd.prog 37 #[.int .u64 n] W fun e w' => e = .returned (.string (ba (enc n))) ∧ Below W.heap.size W w' := by
  have hn2 := fun w => conv_new w
  by_cases h : n < 128
  · have hcv : IntKind.u8.wrap (n : Int) = n := by rw [wrap_u8]; omega
    have hn1 := conv_new W n (by omega)
    clear hn2
    go_enter Tryd.func37, Tryd.ntmps37
    go_wp2
    go_ret
    exact ⟨by rw [enc_small h]; rfl, (Below.refl _ W).alloc (Nat.le_refl _) _⟩
  · have hd := ref_digits n hn
    have hg := enc_great h
    have h8 := dig_len8 hn
    have hsz := ba_size (dig n)
    obtain ⟨c, hc⟩ : ∃ c : Nat, c = (dig n).length := ⟨_, rfl⟩
    rw [← hc] at hsz h8 hg
    clear hc
    obtain ⟨d, hd2⟩ : ∃ d : Nat, d = 128 + c := ⟨_, rfl⟩
    rw [← hd2] at hg
    have hcv : IntKind.u8.wrap (IntKind.i64.wrap (128 + (c : Int))) = (d : Int) := by rw [wrap_u8]; simp [IntKind.wrap, IntKind.bits, IntKind.signed]; omega
    have hcv' : IntKind.u8.wrap (128 + (c : Int)) = (d : Int) := by rw [wrap_u8]; omega
    have hs2 : (ba [UInt8.ofNat d]).size = 1 := rfl
    have hnc := fun w => conv_new w d (by omega)
    clear hd2
    generalize dig n = D at hd hg hsz
    have HG : Hid (enc n = UInt8.ofNat d :: D) := hg
    clear hg hn2
    go_enter Tryd.func37, Tryd.ntmps37
    go_wp2_with (go_at_call 54; refine (hd _).mono ?_; rintro e w1 ⟨rfl, hb1⟩)
    go_ret
    exact ⟨by rw [ba_append, HG.out]; rfl, hb1.alloc hb1.size _⟩

theorem ref_Dot (r n : Nat) (hr : r < 256) (hn : n < 4294967296) (W : World) :
    Calls Tryd.prog 35 #[.agg #[.int .u8 r, .int .u32 n]] W fun e w' => e = .returned (.string (ba (encD r n))) ∧ Below W.heap.size W w' := by
  have hcv1 : IntKind.u64.wrap (r : Int) = r := by rw [wrap_u64]; omega
  have hcv2 : IntKind.u64.wrap (n : Int) = n := by rw [wrap_u64]; omega
  have hl1 : (ba (enc r)).size ≤ 9 := by rw [ba_size]; exact enc_len (by omega)
  have hl2 : (ba (enc n)).size ≤ 9 := by rw [ba_size]; exact enc_len (by omega)
  have hblk : ∀ p : Later (W.heap.size + 1) (W.alloc (.cells #[.int .u8 (r : Int), .int .u32 (n : Int)] 24)), p.val.heap[W.heap.size]? = some (.cells #[.int .u8 (r : Int), .int .u32 (n : Int)] 24 (0, 0)) := fun p => (p.ok.block _ (by omega)).trans (heap_alloc_last _ _)
  have h0 : ∀ p : Later (W.heap.size + 1) (W.alloc (.cells #[.int .u8 (r : Int), .int .u32 (n : Int)] 24)), p.val.cell? ⟨W.heap.size, 0, none⟩ = some (.int .u8 (r : Int)) := fun p => (cell_of_heap (j := 0) (hblk p)).trans rfl
  have h1 : ∀ p : Later (W.heap.size + 1) (W.alloc (.cells #[.int .u8 (r : Int), .int .u32 (n : Int)] 24)), p.val.cell? ⟨W.heap.size, 1, none⟩ = some (.int .u32 (n : Int)) := fun p => (cell_of_heap (j := 1) (hblk p)).trans rfl
  have hbw : Below W.heap.size W (W.alloc (.cells #[.int .u8 (r : Int), .int .u32 (n : Int)] 24)) := (Below.refl _ W).alloc (Nat.le_refl _) _
  clear hblk
  go_enter Tryd.func35, Tryd.ntmps35
  go_wp2_with fail
  refine wp_region_later (W.heap.size + 1) (by kernel_rfl) (by kernel_rfl) ?_
  repeat (go_big_quiet_step (first | (go_at_call 37; exact Calls.later_of (by simp) (ref_Num _ (by omega) _))))
  refine wpQuiet_nil ?_
  rintro _ ⟨p, rfl⟩
  go_wp2
  go_ret
  exact ⟨by unfold encD; rw [ba_append]; rfl, hbw.trans (p.ok.mono (by omega))⟩

set_option maxRecDepth 100000 in
theorem ref_Vector (v : List Nat) (h8 : v.length = 8) (hv : ∀ n ∈ v, n < 4294967296) (W : World) :
    Calls Tryd.prog 36 #[.agg (vcells v)] W fun e w' => e = .returned (.string (ba (encV v))) ∧ Below W.heap.size W w' := by
  have hb1 : Below W.heap.size W (W.alloc (.cells (vcells v) 26)) := (Below.refl _ _).alloc (Nat.le_refl _) _
  have hx : (W.alloc (.cells (vcells v) 26)).heap[W.heap.size]? = some (.cells (vcells v) 26 (0, 0)) := heap_alloc_last _ _
  go_enter Tryd.func36, Tryd.ntmps36
  go_wp2
  go_loopw [3, 4] (fun t i wr => ∃ k : Nat, k ≤ 8 ∧ i = .int .i64 k ∧ t = .string (ba (encV (v.take k))) ∧ Below W.heap.size W wr ∧ wr.heap[W.heap.size]? = some (.cells (vcells v) 26 (0, 0))) (fun _ i _ => 8 - (intOf i).toNat)
  case atStart => exact ⟨0, by omega, rfl, rfl, hb1, hx⟩
  case round =>
    obtain ⟨k, hk, rfl, rfl, hbr, hr⟩ := hrel
    by_cases hlt : k < 8
    · have hc : wr.cell? ⟨W.heap.size, k, none⟩ = some (.int .u32 ((v[k]'(by omega) : Nat) : Int)) := (cell_of_heap hr).trans (vcells_at v k (by omega))
      have hvk := hv v[k] (List.getElem_mem (by omega))
      have htk := encV_take v k (by omega)
      have hcv : IntKind.u64.wrap ((v[k]'(by omega) : Nat) : Int) = ((v[k]'(by omega) : Nat) : Int) := by rw [wrap_u64]; omega
      generalize v[k] = x at hc hvk hcv htk
      have HT : Hid (encV (v.take (k + 1)) = encV (v.take k) ++ enc x) := htk
      have HR : Hid _ := hr
      clear htk hr hx
      have hl1 : (ba (encV (v.take k))).size ≤ 9 * v.length := by rw [ba_size]; exact encV_take_len v hv k
      have hl2 : (ba (enc x)).size ≤ 9 := by rw [ba_size]; exact enc_len (by omega)
      go_wp2_with (go_at_call 37; refine (ref_Num x (by omega) _).mono ?_; rintro e w2 ⟨rfl, hb2⟩)
      go_roundw
      case rel => exact ⟨k + 1, by omega, by go_num, by rw [HT.out, ba_append], below_next hbr hb2, (hb2.block _ (lt_of_some HR.out)).trans HR.out⟩
      case measure => simp [intOf]; omega
    · have : k = 8 := by omega
      subst this
      clear hx hr
      go_wp2
      go_ret
      exact ⟨by rw [← h8, List.take_length]; rfl, hbr⟩

end Go.Proofs.YtdhdfngaldfdjaaDoor
