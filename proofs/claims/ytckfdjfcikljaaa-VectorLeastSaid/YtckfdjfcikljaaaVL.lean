/-
  The dots that one vector covers and another one does not.
-/
import Derived.Test.YtckfdjfcikljaaaVC
import Derived.Deep.RegionHeld3
namespace Go.Proofs.Ytckfdjfcikljaaa
set_option linter.unusedVariables false
set_option linter.unusedSimpArgs false
open Go Go.RowKit Go.Maps Go.Sort

def lackTo (a b : Vec) : Nat → List Dot
  | 0 => []
  | k + 1 => lackTo a b k ++ dotsFrom k (a k + 1) (b k - a k)
theorem lackTo_length (a b : Vec) : ∀ k, (lackTo a b k).length = cntTo a b k
  | 0 => rfl
  | k + 1 => by simp only [lackTo, cntTo, List.length_append, dotsFrom_length, lackTo_length a b k]
theorem lackTo_none {a b : Vec} {k : Nat} (h : b k ≤ a k) : lackTo a b (k + 1) = lackTo a b k := by
  simp only [lackTo]
  rw [show b k - a k = 0 by omega]
  simp [dotsFrom]
theorem lackTo_ok {a b : Vec} (hb : okV b) : ∀ k, k ≤ 8 → ∀ d ∈ lackTo a b k, d.ok
  | 0, _, d, h => by simp [lackTo] at h
  | k + 1, hk, d, h => by
    simp only [lackTo] at h
    rcases List.mem_append.1 h with h | h
    · exact lackTo_ok hb k (by omega) d h
    · simp only [dotsFrom, List.mem_map, List.mem_range] at h
      obtain ⟨i, hi, rfl⟩ := h
      have := hb.1 k
      exact ⟨by show k < 256; omega, by show a k + 1 + i < 4294967296; omega⟩
def lackL (a b : Vec) : List Dot := if cntTo a b 8 ≤ 65536 then lackTo a b 8 else []
def lackE (a b : Vec) : Int := if cntTo a b 8 ≤ 65536 then 0 else 3
theorem lackL_ok {a b : Vec} (hb : okV b) : ∀ d ∈ lackL a b, d.ok := by
  unfold lackL
  split
  · exact lackTo_ok hb 8 (by omega)
  · simp
def LackPost (w : World) (a b : Vec) (e : Ending) (w' : World) : Prop :=
  ∃ v, e = .returned (.tuple #[v, .int .i64 (lackE a b)]) ∧ w'.ownsRow w.heap.size 26 2 v (lackL a b).length (flat (lackL a b)) ∧ Below w.heap.size w w'

theorem rng_lack {a b : Vec} {k : Nat} (hk : k < 8) (h : a k < b k) (hc : b k - a k ≤ 65536) : rngD k (a k + 1) (b k) = dotsFrom k (a k + 1) (b k - a k) ∧ rngE k (a k + 1) (b k) = 0 := by
  have hm : mayD (k, a k + 1) = true := by simp [mayD, hk]
  have e : b k - (a k + 1) + 1 = b k - a k := by omega
  unfold rngD rngE
  rw [e, hm, if_pos ⟨rfl, by omega, hc⟩, if_pos rfl, if_neg (by omega)]
  exact ⟨rfl, rfl⟩

theorem range_lack {a b : Vec} (hb : okV b) {k : Nat} (hk : k < 8) (h : a k < b k) (hc : b k - a k ≤ 65536) (w : World) :
    Calls Try.prog 34 #[.int .u8 (k : Int), .int .u32 ((a k : Int) + 1), .int .u32 (b k : Int)] w
      fun e w' => ∃ v, e = .returned (.tuple #[v, .int .i64 0]) ∧ w'.ownsRow w.heap.size 26 2 v (dotsFrom k (a k + 1) (b k - a k)).length (flat (dotsFrom k (a k + 1) (b k - a k))) ∧ Below w.heap.size w w' := by
  have hbk := hb.1 k
  obtain ⟨e1, e2⟩ := rng_lack hk h hc
  have := dot_Range k (a k + 1) (b k) (by omega) (by omega) hbk w
  refine Calls.mono this ?_
  rintro e w' ⟨v, he, hr, hB⟩
  rw [e1] at hr
  rw [e2] at he
  exact ⟨v, he, hr, hB⟩
theorem dotsFrom_ok {k f n : Nat} (hk : k < 8) (h : f + n ≤ 4294967296) : ∀ d ∈ dotsFrom k f n, d.ok := by
  intro d h
  simp only [dotsFrom, List.mem_map, List.mem_range] at h
  obtain ⟨i, hi, rfl⟩ := h
  exact ⟨by show k < 256; omega, by show f + i < 4294967296; omega⟩

/-- What the loop holds on to. -/
structure LackS (w : World) (a b : Vec) (out : Value) (k : Nat) (W : World) : Prop where
  x : W.heap[w.heap.size]? = some (.cells (vc a) 24 (0, 0))
  y : W.heap[w.heap.size + 1]? = some (.cells (vc b) 24 (0, 0))
  big : w.heap.size + 2 ≤ W.heap.size
  row : W.ownsRow (w.heap.size + 2) 26 2 out (lackTo a b k).length (flat (lackTo a b k))
  below : Below w.heap.size w W
theorem LackS.keep {w : World} {a b : Vec} {out : Value} {k : Nat} {W W' : World} (h : LackS w a b out k W) (hB : Below W.heap.size W W') : LackS w a b out k W' :=
  ⟨heap_keep h.x hB, heap_keep h.y hB, Nat.le_trans h.big hB.size, owns_below h.row hB, h.below.trans (hB.mono h.below.size)⟩

theorem lackS_none {w : World} {a b : Vec} {out : Value} {k : Nat} {W : World} (h : b k ≤ a k) (hs : LackS w a b out k W) : LackS w a b out (k + 1) W := by
  have hr := hs.row
  rw [← lackTo_none h] at hr
  exact ⟨hs.x, hs.y, hs.big, hr, hs.below⟩

theorem lackS_step {w : World} {a b : Vec} {out v3 : Value} {k : Nat} {W W' : World} (hs : LackS w a b out k W) (h : W'.ownsRow (w.heap.size + 2) 26 2 v3 (lackTo a b k ++ dotsFrom k (a k + 1) (b k - a k)).length (flat (lackTo a b k ++ dotsFrom k (a k + 1) (b k - a k)))) (hB : Below (w.heap.size + 2) W W') : LackS w a b v3 (k + 1) W' :=
  ⟨(hB.block _ (by omega)).trans hs.x, (hB.block _ (by omega)).trans hs.y, Nat.le_trans hs.big hB.size, h, hs.below.trans (hB.mono (by omega))⟩

set_option maxHeartbeats 4000000 in
set_option maxRecDepth 100000 in
theorem vec_Lacks (a b : Vec) (ha : okV a) (hb : okV b) (w : World) :
    Calls Try.prog 19 #[.agg #[.int .u32 (a 0 : Int), .int .u32 (a 1 : Int), .int .u32 (a 2 : Int), .int .u32 (a 3 : Int), .int .u32 (a 4 : Int), .int .u32 (a 5 : Int), .int .u32 (a 6 : Int), .int .u32 (a 7 : Int)], .agg #[.int .u32 (b 0 : Int), .int .u32 (b 1 : Int), .int .u32 (b 2 : Int), .int .u32 (b 3 : Int), .int .u32 (b 4 : Int), .int .u32 (b 5 : Int), .int .u32 (b 6 : Int), .int .u32 (b 7 : Int)]] w (LackPost w a b) := by
  have H0 := hid (And.intro (box2_0 w a b) (And.intro (box2_1 w a b) (below_al2 w (.cells #[.int .u32 (a 0 : Int), .int .u32 (a 1 : Int), .int .u32 (a 2 : Int), .int .u32 (a 3 : Int), .int .u32 (a 4 : Int), .int .u32 (a 5 : Int), .int .u32 (a 6 : Int), .int .u32 (a 7 : Int)] 24) (.cells #[.int .u32 (b 0 : Int), .int .u32 (b 1 : Int), .int .u32 (b 2 : Int), .int .u32 (b 3 : Int), .int .u32 (b 4 : Int), .int .u32 (b 5 : Int), .int .u32 (b 6 : Int), .int .u32 (b 7 : Int)] 24))))
  have hcnt := fun W => count_Lacks a b ha hb W
  have hcb := cntTo_le (a := a) hb 8
  have HO := hid (And.intro ha hb)
  clear ha hb
  obtain ⟨c, hc⟩ : ∃ c, c = cntTo a b 8 := ⟨_, rfl⟩
  rw [← hc] at hcnt hcb
  have HC := hid hc
  have hc64 : c < 18446744073709551616 := by omega
  clear hcb hc
  by_cases hbig : c ≤ 65536
  · have hE := hid (show lackL a b = lackTo a b 8 ∧ lackE a b = 0 by simp [lackL, lackE, ← HC.out, hbig])
    have hbig' : ¬ (65536 : Int) < c := by omega
    obtain ⟨i0, hi, hz0, hz1, hz2⟩ := info_parts infoDot
    have hmk := fun (W : World) => run_makeSlice (P := Try.prog) W 40 26 i0 (.agg #[.int .u8 0, .int .u32 0]) Try.underlying40 hi hz0 .i64 .u64 0 (c : Int) (by omega) (by omega) (by rw [hz1]; simp; omega) (by rw [hz2]; omega) (by omega)
    simp only [Int.toNat_zero, Int.toNat_natCast] at hmk
    go_enter Try.func19, Try.ntmps19
    go_wp2_with (go_at_call 33; (with_reducible refine (hcnt _).mono ?_); rintro e w1 ⟨rfl, hB⟩)
    have hB2 := hid (And.intro (heap_keep H0.out.1 hB) (And.intro (heap_keep H0.out.2.1 hB) (And.intro (H0.out.2.2.trans (hB.mono H0.out.2.2.size)) (show w.heap.size + 2 ≤ w1.heap.size by have := hB.size; simp at this; omega))))
    clear hB hmk
    have hmade : ∀ z : Nat, (w1.alloc (.cells (madeCells (Value.agg #[.int .u8 0, .int .u32 0]).cells (c * 2)) 26)).ownsRow (w.heap.size + 2) 26 2 (.slice (some ⟨w1.heap.size, 0, none⟩) 0 c) 0 [] := fun _ => by
      exact World.ownsRow_made w1 _ c hB2.out.2.2.2 (by unfold maxLen; omega) (made_size c)
    have HM := hid hmade
    clear hmade
    go_loopw [7, 18] (fun out i wr => ∃ k : Nat, k ≤ 8 ∧ i = .int .i64 k ∧ LackS w a b out k wr) (fun _ i _ => 8 - (intOf i).toNat)
    case atStart => exact ⟨0, by omega, rfl, ⟨heap_al hB2.out.1 _, heap_al hB2.out.2.1 _, by have := hB2.out.2.2.2; simp; omega, HM.out 0, hB2.out.2.2.1.alloc hB2.out.2.2.1.size _⟩⟩
    case round =>
      obtain ⟨k, hk, rfl, hS⟩ := hrel
      by_cases hlt : k < 8
      · have c0 := cellV hS.x hlt
        have c1 := cellV hS.y hlt
        have HS := hid hS
        clear hS
        by_cases hle : b k ≤ a k
        · have hle' : (b k : Int) ≤ a k := by omega
          go_wp2
          go_quiet (fail)
          go_wp2
          go_roundw
          case rel => exact ⟨k + 1, by omega, by go_num, (lackS_none hle HS.out).keep (below_drewN _ _ _)⟩
          case measure => simp [intOf]; omega
        · have hle' : ¬ (b k : Int) ≤ a k := by omega
          have hk1 : cntTo a b (k + 1) ≤ c := by rw [HC.out]; exact cntTo_mono a b (by omega)
          have hd : b k - a k ≤ 65536 := by simp only [cntTo] at hk1; omega
          have hrng := fun W => range_lack HO.out.2 hlt (by omega) hd W
          have hak := HO.out.1.1 k
          have hbk := HO.out.2.1 k
          have hm1 : IntKind.u32.wrap ((a k : Int) + 1) = (a k : Int) + 1 := by rw [wrap_u32]; omega
          have hm2 : IntKind.u8.wrap (k : Int) = k := by rw [wrap_u8]; omega
          have HD := hid (And.intro hle (And.intro hd (And.intro hak (And.intro hbk hk1))))
          clear hle hd hk1 hak hbk
          go_wp2
          go_quiet (fail)
          go_wp2
          have HSq : ∀ q, LackS w a b u7 k (wr.drewN q).drew := fun q => (HS.out.keep (below_drewN _ _ q)).keep (below_dr _)
          go_region_held3 (fun w' => w'.cell? ⟨w.heap.size, k, none⟩ = some (.int .u32 (a k : Int)) ∧ w'.cell? ⟨w.heap.size + 1, k, none⟩ = some (.int .u32 (b k : Int)) ∧ LackS w a b u7 k w')
            ((go_split_ands; first
              | exact ⟨by assumption, by assumption, by assumption⟩
              | exact ⟨cell_keep (by assumption) (by assumption), cell_keep (by assumption) (by assumption), LackS.keep (by assumption) (by assumption)⟩
              | (refine ⟨?_, ?_, HSq _⟩ <;> go_keep)))
            (first | (go_at_call 34; ((with_reducible refine (hrng _).mono ?_); rintro e w2 ⟨v2, rfl, hr2, hB3⟩)))
          all_goals (
            obtain ⟨_, _, hS2⟩ := ‹_ ∧ _ ∧ LackS w a b u7 k _›
            obtain ⟨a2, cap2, rfl, hI2⟩ := owns_isDots hr2 (dotsFrom_ok hlt (by have := HD.out.1; have := HD.out.2.2.2.1; omega))
            have hlb : (lackTo a b k).length + (dotsFrom k (a k + 1) (b k - a k)).length ≤ 10000000 := by
              rw [lackTo_length, dotsFrom_length]
              have h1 := HD.out.2.2.2.2
              simp only [cntTo] at h1
              omega
            have HS2 := hid (And.intro hS2 (And.intro hI2 hlb))
            clear hr2 hB3 hS2 hI2 hlb HSq
            obtain ⟨len2, hlen2⟩ : ∃ len2, len2 = (dotsFrom k (a k + 1) (b k - a k)).length := ⟨_, rfl⟩
            rw [← hlen2] at HS2 ⊢
            go_wp2_with (first
              | (at_builtin; refine wpList_append_dots rfl (.tmp 44) (.tmp 45) rfl (w.heap.size + 2) u7 (lackTo a b k) rfl HS2.out.1.row a2 len2 cap2 (dotsFrom k (a k + 1) (b k - a k)) rfl HS2.out.2.1 HS2.out.2.2 HS2.out.1.big ?_; intro v3 w3 hown3 hB4; have HO3 := hid (And.intro hown3 hB4); clear hown3 hB4)
              | go_in)
            go_roundw
            case rel => exact ⟨k + 1, by omega, by go_num, lackS_step HS2.out.1 HO3.out.1 HO3.out.2⟩
            case measure => simp [intOf]; omega)
      · obtain rfl : k = 8 := by omega
        have hrow := hS.row
        have hbel := hS.below
        clear hS
        go_wp2
        go_ret2
        refine ⟨_, by rw [hE.out.2]; rfl, ?_, hbel⟩
        rw [hE.out.1]
        exact ownsRow_base hrow (by omega)
  · have hE := hid (show lackL a b = [] ∧ lackE a b = 3 by simp [lackL, lackE, ← HC.out, hbig])
    have hbig' : (65536 : Int) < c := by omega
    go_enter Try.func19, Try.ntmps19
    go_wp2_with (go_at_call 33; (with_reducible refine (hcnt _).mono ?_); rintro e w1 ⟨rfl, hB⟩)
    go_ret2
    refine ⟨_, by rw [hE.out.2]; rfl, ?_, st2 hB⟩
    rw [hE.out.1]
    exact World.ownsRow_nil _ _ _ _

end Go.Proofs.Ytckfdjfcikljaaa
