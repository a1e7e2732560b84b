/-
  The document's Lacks.
-/
import Derived.Test.YtckfdjfcikljaaaVN
namespace Go.Proofs.Ytckfdjfcikljaaa
set_option linter.unusedVariables false
set_option linter.unusedSimpArgs false
open Go Go.RowKit Go.Maps Go.Sort

theorem meas64 (q B : Nat) (h : (q : Int) ≤ B) (h5 : wrap64 ((q : Int) + 1) = (q : Int) + 1) : B + 2 - (intOf (.int .i64 (wrap64 ((q : Int) + 1)))).toNat < B + 2 - (intOf (.int .i64 (q : Int))).toNat := by
  rw [h5]
  show B + 2 - ((q : Int) + 1).toNat < B + 2 - (q : Int).toNat
  clear h5
  omega
theorem below_append {w w2 : World} {B n : Nat} {v : Value} {xs : List Value} {o : Obj} (h : B ≤ w.heap.size) (hr : w.ownsRow B 26 2 v n xs) (hg : (w.alloc o).grownBy w2 v.ownBlock) : Below B w w2 :=
  ((Below.refl _ _).alloc h o).grown hg (size_alloc_le h _) (fun j e => ((hr.alloc o).lt j e).1)
theorem w64 {z : Int} (h : -9223372036854775808 ≤ z) (h' : z < 9223372036854775808) : wrap64 z = z := by
  simp only [wrap64]; omega
theorem w64_four (x y c : Nat) (hx : x < 4294967296) (hy : y < 4294967296) (hc : c ≤ 34359738360) : wrap64 (x : Int) = x ∧ wrap64 (y : Int) = y ∧ wrap64 ((x : Int) - y) = (x : Int) - y ∧ wrap64 ((c : Int) + ((x : Int) - y)) = (c : Int) + ((x : Int) - y) ∧ wrap64 (c : Int) = c :=
  ⟨w64 (by omega) (by omega), w64 (by omega) (by omega), w64 (by omega) (by omega), w64 (by omega) (by omega), w64 (by omega) (by omega)⟩
theorem bounds_le {n : Nat} (h : n + 1 ≤ 100000) : n + 1 ≤ maxLen ∧ (n + 1) * 8 ≤ 140737488355328 := ⟨by unfold maxLen; omega, by omega⟩

set_option maxHeartbeats 1000000 in
set_option maxRecDepth 100000 in
theorem ref_Lacks (a b : Vec) (ha : okV a) (hb : okV b) (w : World) :
    Calls Try.prog 20 #[.agg #[.int .u32 (a 0 : Int), .int .u32 (a 1 : Int), .int .u32 (a 2 : Int), .int .u32 (a 3 : Int), .int .u32 (a 4 : Int), .int .u32 (a 5 : Int), .int .u32 (a 6 : Int), .int .u32 (a 7 : Int)], .agg #[.int .u32 (b 0 : Int), .int .u32 (b 1 : Int), .int .u32 (b 2 : Int), .int .u32 (b 3 : Int), .int .u32 (b 4 : Int), .int .u32 (b 5 : Int), .int .u32 (b 6 : Int), .int .u32 (b 7 : Int)]] w (LackPost w a b) := by
  have H0 := hid (And.intro (box2_0 w a b) (And.intro (box2_1 w a b) (below_al2 w (.cells #[.int .u32 (a 0 : Int), .int .u32 (a 1 : Int), .int .u32 (a 2 : Int), .int .u32 (a 3 : Int), .int .u32 (a 4 : Int), .int .u32 (a 5 : Int), .int .u32 (a 6 : Int), .int .u32 (a 7 : Int)] 24) (.cells #[.int .u32 (b 0 : Int), .int .u32 (b 1 : Int), .int .u32 (b 2 : Int), .int .u32 (b 3 : Int), .int .u32 (b 4 : Int), .int .u32 (b 5 : Int), .int .u32 (b 6 : Int), .int .u32 (b 7 : Int)] 24))))
  have HO := hid (And.intro ha hb)
  clear ha hb
  obtain ⟨i0, hi, hz0, hz1, hz2⟩ := info_parts infoDot
  go_enter Try.func20, Try.ntmps20
  go_wp2
  go_loopw [6, 7] (fun n i wr => ∃ k : Nat, k ≤ 8 ∧ i = .int .i64 k ∧ n = .int .i64 (cntTo a b k : Int) ∧ RefS w a b (.slice none 0 0) [] wr) (fun _ i _ => 8 - (intOf i).toNat)
  case atStart => exact ⟨0, by omega, rfl, rfl, ⟨H0.out.1, H0.out.2.1, by simp, World.ownsRow_nil _ _ _ _, H0.out.2.2⟩⟩
  case round =>
    obtain ⟨k, hk, rfl, rfl, hS⟩ := hrel
    by_cases hlt : k < 8
    · have c0 := cellV hS.x hlt
      have c1 := cellV hS.y hlt
      have hbk := HO.out.2.1 k
      have hcl := cntTo_le (a := a) HO.out.2 k
      have hcs : cntTo a b (k + 1) = cntTo a b k + (b k - a k) := rfl
      obtain ⟨c, hc⟩ : ∃ c, c = cntTo a b k := ⟨_, rfl⟩
      rw [← hc] at hcl ⊢
      have hak := HO.out.1.1 k
      have HX := hid (And.intro hS (And.intro hcs hc))
      have hcl' : c ≤ 34359738360 := by omega
      clear hS hcs hc hcl
      by_cases hneg : (b k : Int) - a k < 0
      · have HN := hid (show b k - a k = 0 by omega)
        obtain ⟨e1, e2, e3, _, e4⟩ := w64_four (b k) (a k) c hbk hak hcl'
        clear hcl' hak hbk
        go_wp2
        go_quiet (fail)
        go_wp2
        have HE := hid e4
        clear e1 e2 e3 e4
        go_roundw
        case rel =>
          refine ⟨k + 1, by omega, by go_num, ?_, HX.out.1.keep (below_drewN _ _ _)⟩
          try rw [HE.out]
          rw [HX.out.2.1, HN.out, ← HX.out.2.2]; simp
        case measure => simp [intOf]; omega
      · obtain ⟨D, hD⟩ : ∃ D : Nat, (b k : Int) - a k = D := ⟨b k - a k, by omega⟩
        have HN := hid (show b k - a k = D by omega)
        obtain ⟨e1, e2, e3, e4, _⟩ := w64_four (b k) (a k) c hbk hak hcl'
        rw [hD] at e4
        have HE3 := hid hD
        clear hcl' hak hbk hneg hD
        go_wp2
        go_quiet (fail)
        go_wp2
        have HE := hid e4
        clear e1 e2 e3 e4
        go_roundw
        case rel =>
          refine ⟨k + 1, by omega, by go_num, ?_, HX.out.1.keep (below_drewN _ _ _)⟩
          rw [HX.out.2.1, ← HX.out.2.2, HN.out]
          rw [HE3.out, if_neg (by omega), HE.out]; simp
        case measure => simp [intOf]; omega
    · obtain rfl : k = 8 := by omega
      obtain ⟨c, hc⟩ : ∃ c, c = cntTo a b 8 := ⟨_, rfl⟩
      rw [← hc]
      have HC := hid hc
      have HS := hid hS
      clear hc hS
      by_cases hbig : c ≤ 65536
      · have hE := hid (show lackL a b = lackTo a b 8 ∧ lackE a b = 0 by simp [lackL, lackE, ← HC.out, hbig])
        have hbig' : ¬ (65536 : Int) < c := by omega
        go_wp2
        go_loopw [8, 9] (fun out i wr => ∃ k : Nat, k ≤ 8 ∧ i = .int .i64 k ∧ RefS w a b out (lackTo a b k) wr) (fun _ i _ => 8 - (intOf i).toNat)
        case atStart => exact ⟨0, by omega, rfl, HS.out⟩
        case round =>
          obtain ⟨k, hk, rfl, hS⟩ := hrel
          by_cases hlt : k < 8
          · have c0 := cellV hS.x hlt
            have hak := HO.out.1.1 k
            have hw1 : wrap64 ((a k : Int) + 1) = (a k : Int) + 1 ∧ wrap64 (a k : Int) = (a k : Int) := ⟨w64 (by omega) (by omega), w64 (by omega) (by omega)⟩
            obtain ⟨hw1, hw3⟩ := hw1
            have HS := hid hS
            clear hS hak
            go_wp2
            have HW := hid hw1
            clear hw1 hw3
            rw [show decide ((k : Int) < 8) = true from decide_eq_true (by omega)]
            go_loopw [8, 10] (fun out i wr => ∃ m q : Nat, m ≤ b k - a k ∧ q = a k + 1 + m ∧ i = .int .i64 (q : Int) ∧ RefS w a b out (lackTo a b k ++ dotsFrom k (a k + 1) m) wr) (fun _ i _ => b k + 2 - (intOf i).toNat)
            case atStart => exact ⟨0, a k + 1, by omega, by omega, by first | (rw [HW.out]; simp) | simp, by simpa [dotsFrom] using HS.out⟩
            case round =>
              obtain ⟨m, q, hm, hq, rfl, hS⟩ := hrel
              have c1 := cellV hS.y hlt
              by_cases hml : m < b k - a k
              · have hbk := HO.out.2.1 k
                have hle : (q : Int) ≤ b k := by omega
                have hw6 : IntKind.u32.wrap (q : Int) = q := by rw [wrap_u32]; omega
                have hw8 : IntKind.u8.wrap (k : Int) = k := by rw [wrap_u8]; omega
                have hlen : (lackTo a b k ++ dotsFrom k (a k + 1) m).length + 1 ≤ 100000 := by
                  rw [List.length_append, lackTo_length, dotsFrom_length]
                  have h1 := cntTo_mono a b (show k + 1 ≤ 8 by omega)
                  rw [← HC.out] at h1
                  simp only [cntTo] at h1
                  omega
                have hw45 : wrap64 (b k : Int) = (b k : Int) ∧ wrap64 ((q : Int) + 1) = (q : Int) + 1 := ⟨w64 (by omega) (by omega), w64 (by omega) (by omega)⟩
                obtain ⟨hw4, hw5⟩ := hw45
                have HS := hid hS
                have HL := hid (And.intro hlen (And.intro hml (And.intro hq hbk)))
                have HL2 := hid (bounds_le hlen)
                have hs1 := hS.big
                have HLE := hid hle
                clear hS hlen hml hbk hq hm
                go_wp2_with (first
                  | (at_builtin; refine wpList_append_own _ rfl (.tmp 46) (.tmp 52) 40 rfl (w.heap.size + 2) 26 i0 (.agg #[.int .u8 0, .int .u32 0]) 2 8 Try.underlying40 hi hz0 hz1 hz2 rfl Nat.zero_lt_two u8 _ _ rfl (HS.out.row.alloc _) ⟨wr.heap.size, 0, none⟩ 1 1 [.int .u8 (k : Int), .int .u32 (q : Int)] rfl rfl (cells_two_new _ _ _ _) (one_two _ _) HL2.out.1 HL2.out.2 (size_alloc_le hs1 _) ?_; intro v2 w2 hown2 hgrow2 _; have hB2 := below_append hs1 HS.out.row hgrow2; have HO2 := hid hown2; have HB2 := hid hB2; clear hown2 hgrow2 hB2)
                  | go_in)
                have HW5 := hid hw5
                clear hw4 hw5 hw6 hw8 c1 hle
                go_roundw
                case rel =>
                  refine ⟨m + 1, q + 1, ?_, ?_, ?_, ?_⟩
                  · have := HL.out.2.1; omega
                  · have := HL.out.2.2.1; omega
                  · first | (rw [HW5.out]; rfl) | rfl
                  · exact HS.out.step HO2.out (by rw [lackTo_more]; simp; omega) (by rw [lackTo_more, flat_snoc, HL.out.2.2.1]) HB2.out
                case measure => exact meas64 q (b k) HLE.out HW5.out
              · obtain rfl : m = b k - a k := by omega
                have hle : ¬ (q : Int) ≤ b k := by omega
                have hw4 : wrap64 (b k : Int) = (b k : Int) := by have := HO.out.2.1 k; exact w64 (by omega) (by omega)
                have HS := hid hS
                clear hS hq
                go_wp2
                clear hw4
                go_roundw
                case rel => exact ⟨k + 1, by omega, by go_num, HS.out⟩
                case measure => simp [intOf]; omega
          · obtain rfl : k = 8 := by omega
            have HS := hid hS
            clear hS
            go_wp2
            go_ret2
            refine ⟨_, by rw [hE.out.2]; rfl, ?_, HS.out.below⟩
            rw [hE.out.1]
            exact ownsRow_base HS.out.row (by omega)
      · have hE := hid (show lackL a b = [] ∧ lackE a b = 3 by simp [lackL, lackE, ← HC.out, hbig])
        have hbig' : (65536 : Int) < c := by omega
        go_wp2
        go_ret2
        refine ⟨_, by rw [hE.out.2]; rfl, ?_, HS.out.below⟩
        rw [hE.out.1]
        exact World.ownsRow_nil _ _ _ _
end Go.Proofs.Ytckfdjfcikljaaa
