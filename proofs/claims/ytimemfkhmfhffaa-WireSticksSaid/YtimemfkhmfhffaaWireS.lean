/-
  The walk of the law 'WireSticks'.
-/
import Derived.Test.YtimemfkhmfhffaaWireL
namespace Go.Proofs.Ytimemfkhmfhffaa
open Go Go.RowKit Wire

set_option maxHeartbeats 20000000 in
set_option maxRecDepth 100000 in
theorem law_WireSticks (s : ByteArray) (hsm : s.size ≤ maxLen) (a : Option Addr) (len cap : Nat) (xs : List Thing) (W : World) (h : IsThings W a len cap xs) :
    Calls Try.prog 7 #[.string s, .slice a len cap] W fun e w' => e = .returned (.bool true) ∧ Below W.heap.size W w' := by
  have hcap : len ≤ 9223372036854775807 := by have := h.2.1; have := h.2.2.1; unfold maxLen at this; omega
  have hsm' : s.size ≤ 9223372036854775807 := by unfold maxLen at hsm; omega
  clear hsm
  by_cases hbig : 3000 < s.size
  · clear h
    go_enter Try.func7, Try.ntmps7
    go_wp2_with (go_at_call 9; refine (law_head _).mono ?_; rintro e w2 ⟨rfl, hb2⟩)
    go_ret
    exact ⟨rfl, hb2⟩
  by_cases hlong : 100 < len
  · clear h
    go_enter Try.func7, Try.ntmps7
    go_wp2_with (go_at_call 9; refine (law_head _).mono ?_; rintro e w2 ⟨rfl, hb2⟩)
    go_ret
    exact ⟨rfl, hb2⟩
  have HH : Hid (IsThings W a len cap xs) := h
  clear h
  have hl0 := fun g w (hr : RAt w (some g) (some s.data.toList)) => wire_Left (some g) _ w hr
  have hls : ((some s.data.toList).getD []).length = s.size := by simp
  rw [hls] at hl0
  clear hls
  go_enter Try.func7, Try.ntmps7
  go_wp2_with (first
    | (go_at_call 13; refine (wire_Open s (by omega) _).mono ?_; rintro e w1 ⟨g, rfl, hgW, hr1, hb1⟩; have hl1 := hl0 g w1 hr1; simp only [rptr, Option.map] at hl1; have HR1 : Hid (RAt w1 (some g) (some s.data.toList)) := hr1; clear hr1 hl0)
    | (go_at_call 16; (with_reducible refine hl1.mono ?_); rintro e w2 ⟨rfl, rfl⟩))
  go_loopw [6] (fun i wr => ∃ (k : Nat) (st : St), k ≤ len ∧ i = .int .i64 k ∧ RAt wr (some g) st ∧ Small st ∧ Below W.heap.size W wr) (fun i _ => len - (intOf i).toNat)
  case atStart => exact ⟨0, some s.data.toList, by omega, rfl, HR1.out, by show s.data.toList.length ≤ 1000000; rw [len_toList]; omega, hb1⟩
  case round =>
    obtain ⟨k, st, hk, rfl, hr, hs, hbr⟩ := hrel
    clear hl1
    by_cases hlt : k < len
    · obtain ⟨ad, rfl⟩ := HH.out.some_of (by omega)
      obtain ⟨x, Bx, O, sp, hx, hok, hA, c0, c1, c2, c3, c4, c5, c6, c7, c8, c9, c10, c11, c12, c13⟩ := (HH.out.below hbr).at k hlt
      have hmo := hok.2.2.2.2.2.2
      clear hx hok c1 c2 c3 c4 c5 c6 c7 c8 c9 c10 c11 c12
      by_cases k0 : x.kind % 4 = 0
      · have hkm : (x.kind : Int).tmod 4 = 0 := by rw [Int.tmod_eq_emod_of_nonneg (by omega)]; omega
        cases st with
        | none =>
          have hrd : Calls Try.prog 18 #[.pointer (some ⟨g, 0, none⟩), .int .u64 x.most] wr fun e w' => e = .returned (.int .u64 0) ∧ RAt w' (some g) none ∧ Keeps wr.heap.size (some g) wr w' := wire_Num (some g) none x.most hs wr hr
          have hss : Small none := small_none
          have hfb := wire_Fine (some g) none wr hr
          have hlb := wire_Left (some g) none wr hr
          have hfa := fun w2 (h2 : RAt w2 (some g) none) => wire_Fine (some g) none w2 h2
          have hla := fun w2 (h2 : RAt w2 (some g) none) => wire_Left (some g) none w2 h2
          have hea := fun w2 (h2 : RAt w2 (some g) none) => wire_End (some g) none w2 h2
          simp only [rptr, Option.map, Option.isSome, Option.getD] at hfb hlb hfa hla hea hrd
          have hend : endOf none = 5 := rfl
          rw [hend] at hea
          simp only [List.length_nil] at hla
          simp only [List.length_nil] at hlb
          have HR : Hid (RAt wr (some g) none) := hr
          have HB : Hid (Below W.heap.size W wr) := hbr
          have HS : Hid (Small none) := hss
          clear hr hbr hss hs
          go_wp2_with (first
            | (go_at_call 15; (with_reducible refine hfb.mono ?_); rintro e w1 ⟨rfl, rfl⟩)
            | (go_at_call 16; (with_reducible refine hlb.mono ?_); rintro e w1 ⟨rfl, rfl⟩)
            | (go_at_call 18; (with_reducible refine hrd.mono ?_); rintro e w2 ⟨rfl, h2, hk2⟩; have hfa2 := hfa w2 h2; have hla2 := hla w2 h2; have hea2 := hea w2 h2; have H2 : Hid (RAt w2 (some g) none) := h2; clear hfa hla hea h2 hrd)
            | (go_at_call 15; (with_reducible refine hfa2.mono ?_); rintro e w1 ⟨rfl, rfl⟩)
            | (go_at_call 16; (with_reducible refine hla2.mono ?_); rintro e w1 ⟨rfl, rfl⟩)
            | (go_at_call 17; (with_reducible refine hea2.mono ?_); rintro e w1 ⟨rfl, rfl⟩))
          all_goals
            go_roundw
            case rel => exact ⟨k + 1, none, by omega, by go_num, H2.out, HS.out, HB.out.trans ((hk2.mono HB.out.size).below (fun q hq => by cases hq; exact hgW))⟩
            case measure => simp [intOf]; omega
        | some l =>
          have hrd0 := wire_Num (some g) (some l) x.most hs wr hr
          cases ho : (takeNum (some l) x.most).2 with
          | none =>
            have hz : (takeNum (some l) x.most).1 = 0 := takeNum_fail ho
            rw [hz, ho] at hrd0
            have hrd : Calls Try.prog 18 #[.pointer (some ⟨g, 0, none⟩), .int .u64 x.most] wr fun e w' => e = .returned (.int .u64 0) ∧ RAt w' (some g) none ∧ Keeps wr.heap.size (some g) wr w' := hrd0
            have hss : Small none := small_none
            clear hrd0 hz ho
            have hfb := wire_Fine (some g) (some l) wr hr
            have hlb := wire_Left (some g) (some l) wr hr
            have hfa := fun w2 (h2 : RAt w2 (some g) none) => wire_Fine (some g) none w2 h2
            have hla := fun w2 (h2 : RAt w2 (some g) none) => wire_Left (some g) none w2 h2
            have hea := fun w2 (h2 : RAt w2 (some g) none) => wire_End (some g) none w2 h2
            simp only [rptr, Option.map, Option.isSome, Option.getD] at hfb hlb hfa hla hea hrd
            have hend : endOf none = 5 := rfl
            rw [hend] at hea
            simp only [List.length_nil] at hla
            have HR : Hid (RAt wr (some g) (some l)) := hr
            have HB : Hid (Below W.heap.size W wr) := hbr
            have HS : Hid (Small none) := hss
            clear hr hbr hss hs
            go_wp2_with (first
              | (go_at_call 15; (with_reducible refine hfb.mono ?_); rintro e w1 ⟨rfl, rfl⟩)
              | (go_at_call 16; (with_reducible refine hlb.mono ?_); rintro e w1 ⟨rfl, rfl⟩)
              | (go_at_call 18; (with_reducible refine hrd.mono ?_); rintro e w2 ⟨rfl, h2, hk2⟩; have hfa2 := hfa w2 h2; have hla2 := hla w2 h2; have hea2 := hea w2 h2; have H2 : Hid (RAt w2 (some g) none) := h2; clear hfa hla hea h2 hrd)
              | (go_at_call 15; (with_reducible refine hfa2.mono ?_); rintro e w1 ⟨rfl, rfl⟩)
              | (go_at_call 16; (with_reducible refine hla2.mono ?_); rintro e w1 ⟨rfl, rfl⟩)
              | (go_at_call 17; (with_reducible refine hea2.mono ?_); rintro e w1 ⟨rfl, rfl⟩))
            all_goals
              go_roundw
              case rel => exact ⟨k + 1, none, by omega, by go_num, H2.out, HS.out, HB.out.trans ((hk2.mono HB.out.size).below (fun q hq => by cases hq; exact hgW))⟩
              case measure => simp [intOf]; omega
          | some r =>
            have hlt2 : r.length < l.length := takeNum_left ho
            rw [ho] at hrd0
            have hss : Small (some r) := by have h' : l.length ≤ 1000000 := hs; show r.length ≤ 1000000; omega
            have hrd : Calls Try.prog 18 #[.pointer (some ⟨g, 0, none⟩), .int .u64 x.most] wr fun e w' => e = .returned (.int .u64 ((takeNum (some l) x.most).1 : Nat)) ∧ RAt w' (some g) (some r) ∧ Keeps wr.heap.size (some g) wr w' := hrd0
            generalize (takeNum (some l) x.most).1 = nz at hrd
            clear hrd0 ho
            have hfb := wire_Fine (some g) (some l) wr hr
            have hlb := wire_Left (some g) (some l) wr hr
            have hfa := fun w2 (h2 : RAt w2 (some g) (some r)) => wire_Fine (some g) (some r) w2 h2
            have hla := fun w2 (h2 : RAt w2 (some g) (some r)) => wire_Left (some g) (some r) w2 h2
            have hea := fun w2 (h2 : RAt w2 (some g) (some r)) => wire_End (some g) (some r) w2 h2
            simp only [rptr, Option.map, Option.isSome, Option.getD] at hfb hlb hfa hla hea hrd
            have HR : Hid (RAt wr (some g) (some l)) := hr
            have HB : Hid (Below W.heap.size W wr) := hbr
            have HS : Hid (Small (some r)) := hss
            clear hr hbr hss hs
            go_wp2_with (first
              | (go_at_call 15; (with_reducible refine hfb.mono ?_); rintro e w1 ⟨rfl, rfl⟩)
              | (go_at_call 16; (with_reducible refine hlb.mono ?_); rintro e w1 ⟨rfl, rfl⟩)
              | (go_at_call 18; (with_reducible refine hrd.mono ?_); rintro e w2 ⟨rfl, h2, hk2⟩; have hfa2 := hfa w2 h2; have hla2 := hla w2 h2; have hea2 := hea w2 h2; have H2 : Hid (RAt w2 (some g) (some r)) := h2; clear hfa hla hea h2 hrd)
              | (go_at_call 15; (with_reducible refine hfa2.mono ?_); rintro e w1 ⟨rfl, rfl⟩)
              | (go_at_call 16; (with_reducible refine hla2.mono ?_); rintro e w1 ⟨rfl, rfl⟩)
              | (go_at_call 17; (with_reducible refine hea2.mono ?_); rintro e w1 ⟨rfl, rfl⟩))
            all_goals
              go_roundw
              case rel => exact ⟨k + 1, (some r), by omega, by go_num, H2.out, HS.out, HB.out.trans ((hk2.mono HB.out.size).below (fun q hq => by cases hq; exact hgW))⟩
              case measure => simp [intOf]; omega
      by_cases k1 : x.kind % 4 = 1
      · have hkm : (x.kind : Int).tmod 4 = 1 := by rw [Int.tmod_eq_emod_of_nonneg (by omega)]; omega
        obtain ⟨y, hy⟩ : ∃ y : Nat, y = x.most % 3000 := ⟨_, rfl⟩
        have hy2 : y < 3000 := by omega
        have hmm : (x.most : Int).tmod 3000 = (y : Int) := by rw [Int.tmod_eq_emod_of_nonneg (by omega), hy]; rfl
        have hw1 : IntKind.u64.wrap (y : Int) = y := by rw [wrap_u64]; omega
        have hw2 : IntKind.i64.wrap (y : Int) = y := by simp [IntKind.wrap, IntKind.bits, IntKind.signed]; omega
        clear hy
        cases st with
        | none =>
          have hrd : Calls Try.prog 19 #[.pointer (some ⟨g, 0, none⟩), .int .i64 (y : Int)] wr fun e w' => e = .returned (.string ⟨#[]⟩) ∧ RAt w' (some g) none ∧ Keeps wr.heap.size (some g) wr w' := text_none (some g) (y : Int) (by omega) (by omega) wr hr
          have hss : Small none := small_none
          have hfb := wire_Fine (some g) none wr hr
          have hlb := wire_Left (some g) none wr hr
          have hfa := fun w2 (h2 : RAt w2 (some g) none) => wire_Fine (some g) none w2 h2
          have hla := fun w2 (h2 : RAt w2 (some g) none) => wire_Left (some g) none w2 h2
          have hea := fun w2 (h2 : RAt w2 (some g) none) => wire_End (some g) none w2 h2
          simp only [rptr, Option.map, Option.isSome, Option.getD] at hfb hlb hfa hla hea hrd
          have hend : endOf none = 5 := rfl
          rw [hend] at hea
          simp only [List.length_nil] at hla
          simp only [List.length_nil] at hlb
          have HR : Hid (RAt wr (some g) none) := hr
          have HB : Hid (Below W.heap.size W wr) := hbr
          have HS : Hid (Small none) := hss
          clear hr hbr hss hs
          go_wp2_with (first
            | (go_at_call 15; (with_reducible refine hfb.mono ?_); rintro e w1 ⟨rfl, rfl⟩)
            | (go_at_call 16; (with_reducible refine hlb.mono ?_); rintro e w1 ⟨rfl, rfl⟩)
            | (go_at_call 19; (with_reducible refine hrd.mono ?_); rintro e w2 ⟨rfl, h2, hk2⟩; have hfa2 := hfa w2 h2; have hla2 := hla w2 h2; have hea2 := hea w2 h2; have H2 : Hid (RAt w2 (some g) none) := h2; clear hfa hla hea h2 hrd)
            | (go_at_call 15; (with_reducible refine hfa2.mono ?_); rintro e w1 ⟨rfl, rfl⟩)
            | (go_at_call 16; (with_reducible refine hla2.mono ?_); rintro e w1 ⟨rfl, rfl⟩)
            | (go_at_call 17; (with_reducible refine hea2.mono ?_); rintro e w1 ⟨rfl, rfl⟩))
          all_goals
            go_roundw
            case rel => exact ⟨k + 1, none, by omega, by go_num, H2.out, HS.out, HB.out.trans ((hk2.mono HB.out.size).below (fun q hq => by cases hq; exact hgW))⟩
            case measure => simp [intOf]; omega
        | some l =>
          have hrd0 := wire_Text (some g) (some l) (y : Int) (by omega) (by omega) hs wr hr
          cases ho : (takeText (some l) (y : Int)).2 with
          | none =>
            have hz : (takeText (some l) (y : Int)).1 = [] := takeText_fail ho
            rw [hz, ho] at hrd0
            have hrd : Calls Try.prog 19 #[.pointer (some ⟨g, 0, none⟩), .int .i64 (y : Int)] wr fun e w' => e = .returned (.string ⟨#[]⟩) ∧ RAt w' (some g) none ∧ Keeps wr.heap.size (some g) wr w' := hrd0
            have hss : Small none := small_none
            clear hrd0 hz ho
            have hfb := wire_Fine (some g) (some l) wr hr
            have hlb := wire_Left (some g) (some l) wr hr
            have hfa := fun w2 (h2 : RAt w2 (some g) none) => wire_Fine (some g) none w2 h2
            have hla := fun w2 (h2 : RAt w2 (some g) none) => wire_Left (some g) none w2 h2
            have hea := fun w2 (h2 : RAt w2 (some g) none) => wire_End (some g) none w2 h2
            simp only [rptr, Option.map, Option.isSome, Option.getD] at hfb hlb hfa hla hea hrd
            have hend : endOf none = 5 := rfl
            rw [hend] at hea
            simp only [List.length_nil] at hla
            have HR : Hid (RAt wr (some g) (some l)) := hr
            have HB : Hid (Below W.heap.size W wr) := hbr
            have HS : Hid (Small none) := hss
            clear hr hbr hss hs
            go_wp2_with (first
              | (go_at_call 15; (with_reducible refine hfb.mono ?_); rintro e w1 ⟨rfl, rfl⟩)
              | (go_at_call 16; (with_reducible refine hlb.mono ?_); rintro e w1 ⟨rfl, rfl⟩)
              | (go_at_call 19; (with_reducible refine hrd.mono ?_); rintro e w2 ⟨rfl, h2, hk2⟩; have hfa2 := hfa w2 h2; have hla2 := hla w2 h2; have hea2 := hea w2 h2; have H2 : Hid (RAt w2 (some g) none) := h2; clear hfa hla hea h2 hrd)
              | (go_at_call 15; (with_reducible refine hfa2.mono ?_); rintro e w1 ⟨rfl, rfl⟩)
              | (go_at_call 16; (with_reducible refine hla2.mono ?_); rintro e w1 ⟨rfl, rfl⟩)
              | (go_at_call 17; (with_reducible refine hea2.mono ?_); rintro e w1 ⟨rfl, rfl⟩))
            all_goals
              go_roundw
              case rel => exact ⟨k + 1, none, by omega, by go_num, H2.out, HS.out, HB.out.trans ((hk2.mono HB.out.size).below (fun q hq => by cases hq; exact hgW))⟩
              case measure => simp [intOf]; omega
          | some r =>
            have hlt2 : r.length < l.length := takeText_left ho
            rw [ho] at hrd0
            have hss : Small (some r) := by have h' : l.length ≤ 1000000 := hs; show r.length ≤ 1000000; omega
            have hrd : Calls Try.prog 19 #[.pointer (some ⟨g, 0, none⟩), .int .i64 (y : Int)] wr fun e w' => e = .returned (.string (ba (takeText (some l) (y : Int)).1)) ∧ RAt w' (some g) (some r) ∧ Keeps wr.heap.size (some g) wr w' := hrd0
            generalize ba (takeText (some l) (y : Int)).1 = sz at hrd
            clear hrd0 ho
            have hfb := wire_Fine (some g) (some l) wr hr
            have hlb := wire_Left (some g) (some l) wr hr
            have hfa := fun w2 (h2 : RAt w2 (some g) (some r)) => wire_Fine (some g) (some r) w2 h2
            have hla := fun w2 (h2 : RAt w2 (some g) (some r)) => wire_Left (some g) (some r) w2 h2
            have hea := fun w2 (h2 : RAt w2 (some g) (some r)) => wire_End (some g) (some r) w2 h2
            simp only [rptr, Option.map, Option.isSome, Option.getD] at hfb hlb hfa hla hea hrd
            have HR : Hid (RAt wr (some g) (some l)) := hr
            have HB : Hid (Below W.heap.size W wr) := hbr
            have HS : Hid (Small (some r)) := hss
            clear hr hbr hss hs
            go_wp2_with (first
              | (go_at_call 15; (with_reducible refine hfb.mono ?_); rintro e w1 ⟨rfl, rfl⟩)
              | (go_at_call 16; (with_reducible refine hlb.mono ?_); rintro e w1 ⟨rfl, rfl⟩)
              | (go_at_call 19; (with_reducible refine hrd.mono ?_); rintro e w2 ⟨rfl, h2, hk2⟩; have hfa2 := hfa w2 h2; have hla2 := hla w2 h2; have hea2 := hea w2 h2; have H2 : Hid (RAt w2 (some g) (some r)) := h2; clear hfa hla hea h2 hrd)
              | (go_at_call 15; (with_reducible refine hfa2.mono ?_); rintro e w1 ⟨rfl, rfl⟩)
              | (go_at_call 16; (with_reducible refine hla2.mono ?_); rintro e w1 ⟨rfl, rfl⟩)
              | (go_at_call 17; (with_reducible refine hea2.mono ?_); rintro e w1 ⟨rfl, rfl⟩))
            all_goals
              go_roundw
              case rel => exact ⟨k + 1, (some r), by omega, by go_num, H2.out, HS.out, HB.out.trans ((hk2.mono HB.out.size).below (fun q hq => by cases hq; exact hgW))⟩
              case measure => simp [intOf]; omega
      by_cases k2 : x.kind % 4 = 2
      · have hkm : (x.kind : Int).tmod 4 = 2 := by rw [Int.tmod_eq_emod_of_nonneg (by omega)]; omega
        cases st with
        | none =>
          have hrd : Calls Try.prog 20 #[.pointer (some ⟨g, 0, none⟩)] wr fun e w' => e = .returned (.agg #[.int .u8 0, .int .u32 0]) ∧ RAt w' (some g) none ∧ Keeps wr.heap.size (some g) wr w' := wire_Dot (some g) none hs wr hr
          have hss : Small none := small_none
          have hfb := wire_Fine (some g) none wr hr
          have hlb := wire_Left (some g) none wr hr
          have hfa := fun w2 (h2 : RAt w2 (some g) none) => wire_Fine (some g) none w2 h2
          have hla := fun w2 (h2 : RAt w2 (some g) none) => wire_Left (some g) none w2 h2
          have hea := fun w2 (h2 : RAt w2 (some g) none) => wire_End (some g) none w2 h2
          simp only [rptr, Option.map, Option.isSome, Option.getD] at hfb hlb hfa hla hea hrd
          have hend : endOf none = 5 := rfl
          rw [hend] at hea
          simp only [List.length_nil] at hla
          simp only [List.length_nil] at hlb
          have HR : Hid (RAt wr (some g) none) := hr
          have HB : Hid (Below W.heap.size W wr) := hbr
          have HS : Hid (Small none) := hss
          clear hr hbr hss hs
          go_wp2_with (first
            | (go_at_call 15; (with_reducible refine hfb.mono ?_); rintro e w1 ⟨rfl, rfl⟩)
            | (go_at_call 16; (with_reducible refine hlb.mono ?_); rintro e w1 ⟨rfl, rfl⟩)
            | (go_at_call 20; (with_reducible refine hrd.mono ?_); rintro e w2 ⟨rfl, h2, hk2⟩; have hfa2 := hfa w2 h2; have hla2 := hla w2 h2; have hea2 := hea w2 h2; have H2 : Hid (RAt w2 (some g) none) := h2; clear hfa hla hea h2 hrd)
            | (go_at_call 15; (with_reducible refine hfa2.mono ?_); rintro e w1 ⟨rfl, rfl⟩)
            | (go_at_call 16; (with_reducible refine hla2.mono ?_); rintro e w1 ⟨rfl, rfl⟩)
            | (go_at_call 17; (with_reducible refine hea2.mono ?_); rintro e w1 ⟨rfl, rfl⟩))
          all_goals
            go_roundw
            case rel => exact ⟨k + 1, none, by omega, by go_num, H2.out, HS.out, HB.out.trans ((hk2.mono HB.out.size).below (fun q hq => by cases hq; exact hgW))⟩
            case measure => simp [intOf]; omega
        | some l =>
          have hrd0 := wire_Dot (some g) (some l) hs wr hr
          cases ho : (takeDot (some l)).2 with
          | none =>
            have hz : (takeDot (some l)).1 = (0, 0) := takeDot_fail ho
            rw [hz, ho] at hrd0
            have hrd : Calls Try.prog 20 #[.pointer (some ⟨g, 0, none⟩)] wr fun e w' => e = .returned (.agg #[.int .u8 0, .int .u32 0]) ∧ RAt w' (some g) none ∧ Keeps wr.heap.size (some g) wr w' := hrd0
            have hss : Small none := small_none
            clear hrd0 hz ho
            have hfb := wire_Fine (some g) (some l) wr hr
            have hlb := wire_Left (some g) (some l) wr hr
            have hfa := fun w2 (h2 : RAt w2 (some g) none) => wire_Fine (some g) none w2 h2
            have hla := fun w2 (h2 : RAt w2 (some g) none) => wire_Left (some g) none w2 h2
            have hea := fun w2 (h2 : RAt w2 (some g) none) => wire_End (some g) none w2 h2
            simp only [rptr, Option.map, Option.isSome, Option.getD] at hfb hlb hfa hla hea hrd
            have hend : endOf none = 5 := rfl
            rw [hend] at hea
            simp only [List.length_nil] at hla
            have HR : Hid (RAt wr (some g) (some l)) := hr
            have HB : Hid (Below W.heap.size W wr) := hbr
            have HS : Hid (Small none) := hss
            clear hr hbr hss hs
            go_wp2_with (first
              | (go_at_call 15; (with_reducible refine hfb.mono ?_); rintro e w1 ⟨rfl, rfl⟩)
              | (go_at_call 16; (with_reducible refine hlb.mono ?_); rintro e w1 ⟨rfl, rfl⟩)
              | (go_at_call 20; (with_reducible refine hrd.mono ?_); rintro e w2 ⟨rfl, h2, hk2⟩; have hfa2 := hfa w2 h2; have hla2 := hla w2 h2; have hea2 := hea w2 h2; have H2 : Hid (RAt w2 (some g) none) := h2; clear hfa hla hea h2 hrd)
              | (go_at_call 15; (with_reducible refine hfa2.mono ?_); rintro e w1 ⟨rfl, rfl⟩)
              | (go_at_call 16; (with_reducible refine hla2.mono ?_); rintro e w1 ⟨rfl, rfl⟩)
              | (go_at_call 17; (with_reducible refine hea2.mono ?_); rintro e w1 ⟨rfl, rfl⟩))
            all_goals
              go_roundw
              case rel => exact ⟨k + 1, none, by omega, by go_num, H2.out, HS.out, HB.out.trans ((hk2.mono HB.out.size).below (fun q hq => by cases hq; exact hgW))⟩
              case measure => simp [intOf]; omega
          | some r =>
            have hlt2 : r.length < l.length := takeDot_left ho
            rw [ho] at hrd0
            have hss : Small (some r) := by have h' : l.length ≤ 1000000 := hs; show r.length ≤ 1000000; omega
            have hrd : Calls Try.prog 20 #[.pointer (some ⟨g, 0, none⟩)] wr fun e w' => e = .returned (.agg #[.int .u8 ((takeDot (some l)).1.1 : Int), .int .u32 ((takeDot (some l)).1.2 : Int)]) ∧ RAt w' (some g) (some r) ∧ Keeps wr.heap.size (some g) wr w' := hrd0
            generalize (takeDot (some l)).1.1 = d1 at hrd
            generalize (takeDot (some l)).1.2 = d2 at hrd
            clear hrd0 ho
            have hfb := wire_Fine (some g) (some l) wr hr
            have hlb := wire_Left (some g) (some l) wr hr
            have hfa := fun w2 (h2 : RAt w2 (some g) (some r)) => wire_Fine (some g) (some r) w2 h2
            have hla := fun w2 (h2 : RAt w2 (some g) (some r)) => wire_Left (some g) (some r) w2 h2
            have hea := fun w2 (h2 : RAt w2 (some g) (some r)) => wire_End (some g) (some r) w2 h2
            simp only [rptr, Option.map, Option.isSome, Option.getD] at hfb hlb hfa hla hea hrd
            have HR : Hid (RAt wr (some g) (some l)) := hr
            have HB : Hid (Below W.heap.size W wr) := hbr
            have HS : Hid (Small (some r)) := hss
            clear hr hbr hss hs
            go_wp2_with (first
              | (go_at_call 15; (with_reducible refine hfb.mono ?_); rintro e w1 ⟨rfl, rfl⟩)
              | (go_at_call 16; (with_reducible refine hlb.mono ?_); rintro e w1 ⟨rfl, rfl⟩)
              | (go_at_call 20; (with_reducible refine hrd.mono ?_); rintro e w2 ⟨rfl, h2, hk2⟩; have hfa2 := hfa w2 h2; have hla2 := hla w2 h2; have hea2 := hea w2 h2; have H2 : Hid (RAt w2 (some g) (some r)) := h2; clear hfa hla hea h2 hrd)
              | (go_at_call 15; (with_reducible refine hfa2.mono ?_); rintro e w1 ⟨rfl, rfl⟩)
              | (go_at_call 16; (with_reducible refine hla2.mono ?_); rintro e w1 ⟨rfl, rfl⟩)
              | (go_at_call 17; (with_reducible refine hea2.mono ?_); rintro e w1 ⟨rfl, rfl⟩))
            all_goals
              go_roundw
              case rel => exact ⟨k + 1, (some r), by omega, by go_num, H2.out, HS.out, HB.out.trans ((hk2.mono HB.out.size).below (fun q hq => by cases hq; exact hgW))⟩
              case measure => simp [intOf]; omega
      have k3 : x.kind % 4 = 3 := by omega
      have hkm : (x.kind : Int).tmod 4 = 3 := by rw [Int.tmod_eq_emod_of_nonneg (by omega)]; omega
      have heq8 := eq_zero8
      cases st with
      | none =>
        have hrd : Calls Try.prog 21 #[.pointer (some ⟨g, 0, none⟩)] wr fun e w' => e = .returned (.agg #[.int .u32 0, .int .u32 0, .int .u32 0, .int .u32 0, .int .u32 0, .int .u32 0, .int .u32 0, .int .u32 0]) ∧ RAt w' (some g) none ∧ Keeps wr.heap.size (some g) wr w' := (by have := wire_Vector (some g) none hs wr hr; rw [takeVec_none] at this; exact this)
        have hss : Small none := small_none
        have hfb := wire_Fine (some g) none wr hr
        have hlb := wire_Left (some g) none wr hr
        have hfa := fun w2 (h2 : RAt w2 (some g) none) => wire_Fine (some g) none w2 h2
        have hla := fun w2 (h2 : RAt w2 (some g) none) => wire_Left (some g) none w2 h2
        have hea := fun w2 (h2 : RAt w2 (some g) none) => wire_End (some g) none w2 h2
        simp only [rptr, Option.map, Option.isSome, Option.getD] at hfb hlb hfa hla hea hrd
        have hend : endOf none = 5 := rfl
        rw [hend] at hea
        simp only [List.length_nil] at hla
        simp only [List.length_nil] at hlb
        have HR : Hid (RAt wr (some g) none) := hr
        have HB : Hid (Below W.heap.size W wr) := hbr
        have HS : Hid (Small none) := hss
        clear hr hbr hss hs
        go_wp2_with (first
          | (go_at_call 15; (with_reducible refine hfb.mono ?_); rintro e w1 ⟨rfl, rfl⟩)
          | (go_at_call 16; (with_reducible refine hlb.mono ?_); rintro e w1 ⟨rfl, rfl⟩)
          | (go_at_call 21; (with_reducible refine hrd.mono ?_); rintro e w2 ⟨rfl, h2, hk2⟩; have hfa2 := hfa w2 h2; have hla2 := hla w2 h2; have hea2 := hea w2 h2; have H2 : Hid (RAt w2 (some g) none) := h2; clear hfa hla hea h2 hrd)
          | (go_at_call 15; (with_reducible refine hfa2.mono ?_); rintro e w1 ⟨rfl, rfl⟩)
          | (go_at_call 16; (with_reducible refine hla2.mono ?_); rintro e w1 ⟨rfl, rfl⟩)
          | (go_at_call 17; (with_reducible refine hea2.mono ?_); rintro e w1 ⟨rfl, rfl⟩))
        all_goals
          go_roundw
          case rel => exact ⟨k + 1, none, by omega, by go_num, H2.out, HS.out, HB.out.trans ((hk2.mono HB.out.size).below (fun q hq => by cases hq; exact hgW))⟩
          case measure => simp [intOf]; omega
      | some l =>
        have hrd0 := wire_Vector (some g) (some l) hs wr hr
        cases ho : (takeVec (some l)).2 with
        | none =>
          have hz : (takeVec (some l)).1 = zeros8 := takeVec_fail ho
          rw [hz, ho] at hrd0
          have hrd : Calls Try.prog 21 #[.pointer (some ⟨g, 0, none⟩)] wr fun e w' => e = .returned (.agg #[.int .u32 0, .int .u32 0, .int .u32 0, .int .u32 0, .int .u32 0, .int .u32 0, .int .u32 0, .int .u32 0]) ∧ RAt w' (some g) none ∧ Keeps wr.heap.size (some g) wr w' := hrd0
          have hss : Small none := small_none
          clear hrd0 hz ho
          have hfb := wire_Fine (some g) (some l) wr hr
          have hlb := wire_Left (some g) (some l) wr hr
          have hfa := fun w2 (h2 : RAt w2 (some g) none) => wire_Fine (some g) none w2 h2
          have hla := fun w2 (h2 : RAt w2 (some g) none) => wire_Left (some g) none w2 h2
          have hea := fun w2 (h2 : RAt w2 (some g) none) => wire_End (some g) none w2 h2
          simp only [rptr, Option.map, Option.isSome, Option.getD] at hfb hlb hfa hla hea hrd
          have hend : endOf none = 5 := rfl
          rw [hend] at hea
          simp only [List.length_nil] at hla
          have HR : Hid (RAt wr (some g) (some l)) := hr
          have HB : Hid (Below W.heap.size W wr) := hbr
          have HS : Hid (Small none) := hss
          clear hr hbr hss hs
          go_wp2_with (first
            | (go_at_call 15; (with_reducible refine hfb.mono ?_); rintro e w1 ⟨rfl, rfl⟩)
            | (go_at_call 16; (with_reducible refine hlb.mono ?_); rintro e w1 ⟨rfl, rfl⟩)
            | (go_at_call 21; (with_reducible refine hrd.mono ?_); rintro e w2 ⟨rfl, h2, hk2⟩; have hfa2 := hfa w2 h2; have hla2 := hla w2 h2; have hea2 := hea w2 h2; have H2 : Hid (RAt w2 (some g) none) := h2; clear hfa hla hea h2 hrd)
            | (go_at_call 15; (with_reducible refine hfa2.mono ?_); rintro e w1 ⟨rfl, rfl⟩)
            | (go_at_call 16; (with_reducible refine hla2.mono ?_); rintro e w1 ⟨rfl, rfl⟩)
            | (go_at_call 17; (with_reducible refine hea2.mono ?_); rintro e w1 ⟨rfl, rfl⟩))
          all_goals
            go_roundw
            case rel => exact ⟨k + 1, none, by omega, by go_num, H2.out, HS.out, HB.out.trans ((hk2.mono HB.out.size).below (fun q hq => by cases hq; exact hgW))⟩
            case measure => simp [intOf]; omega
        | some r =>
          have hlt2 : r.length < l.length := takeVec_left ho
          rw [ho] at hrd0
          have hss : Small (some r) := by have h' : l.length ≤ 1000000 := hs; show r.length ≤ 1000000; omega
          have hrd : Calls Try.prog 21 #[.pointer (some ⟨g, 0, none⟩)] wr fun e w' => e = .returned (.agg (vcells (takeVec (some l)).1)) ∧ RAt w' (some g) (some r) ∧ Keeps wr.heap.size (some g) wr w' := hrd0
          have heqv : ∀ w, (Op.equalIn 10000 33 (.agg (vcells (takeVec (some l)).1)) (.agg #[.int .u32 0, .int .u32 0, .int .u32 0, .int .u32 0, .int .u32 0, .int .u32 0, .int .u32 0, .int .u32 0])).run Try.prog w = .ok (decide ((takeVec (some l)).1 = zeros8)) w := fun w => eq_vec _ zeros8 (takeVec_len _) rfl w
          generalize decide ((takeVec (some l)).1 = zeros8) = bz at heqv
          generalize vcells (takeVec (some l)).1 = vz at hrd heqv
          clear hrd0 ho
          have hfb := wire_Fine (some g) (some l) wr hr
          have hlb := wire_Left (some g) (some l) wr hr
          have hfa := fun w2 (h2 : RAt w2 (some g) (some r)) => wire_Fine (some g) (some r) w2 h2
          have hla := fun w2 (h2 : RAt w2 (some g) (some r)) => wire_Left (some g) (some r) w2 h2
          have hea := fun w2 (h2 : RAt w2 (some g) (some r)) => wire_End (some g) (some r) w2 h2
          simp only [rptr, Option.map, Option.isSome, Option.getD] at hfb hlb hfa hla hea hrd
          have HR : Hid (RAt wr (some g) (some l)) := hr
          have HB : Hid (Below W.heap.size W wr) := hbr
          have HS : Hid (Small (some r)) := hss
          clear hr hbr hss hs
          go_wp2_with (first
            | (go_at_call 15; (with_reducible refine hfb.mono ?_); rintro e w1 ⟨rfl, rfl⟩)
            | (go_at_call 16; (with_reducible refine hlb.mono ?_); rintro e w1 ⟨rfl, rfl⟩)
            | (go_at_call 21; (with_reducible refine hrd.mono ?_); rintro e w2 ⟨rfl, h2, hk2⟩; have hfa2 := hfa w2 h2; have hla2 := hla w2 h2; have hea2 := hea w2 h2; have H2 : Hid (RAt w2 (some g) (some r)) := h2; clear hfa hla hea h2 hrd)
            | (go_at_call 15; (with_reducible refine hfa2.mono ?_); rintro e w1 ⟨rfl, rfl⟩)
            | (go_at_call 16; (with_reducible refine hla2.mono ?_); rintro e w1 ⟨rfl, rfl⟩)
            | (go_at_call 17; (with_reducible refine hea2.mono ?_); rintro e w1 ⟨rfl, rfl⟩))
          all_goals
            go_roundw
            case rel => exact ⟨k + 1, (some r), by omega, by go_num, H2.out, HS.out, HB.out.trans ((hk2.mono HB.out.size).below (fun q hq => by cases hq; exact hgW))⟩
            case measure => simp [intOf]; omega
    · have : k = len := by omega
      subst this
      have hfb := wire_Fine (some g) st wr hr
      have hlb := wire_Left (some g) st wr hr
      have heb := wire_End (some g) st wr hr
      have HB : Hid (Below W.heap.size W wr) := hbr
      clear hr hbr hs
      cases st with
      | none =>
        have hend : endOf none = 5 := rfl
        rw [hend] at heb
        simp only [rptr, Option.map, Option.isSome, Option.getD, List.length_nil] at hfb hlb heb
        go_wp2_with (first
          | (go_at_call 15; (with_reducible refine hfb.mono ?_); rintro e w1 ⟨rfl, rfl⟩)
          | (go_at_call 16; (with_reducible refine hlb.mono ?_); rintro e w1 ⟨rfl, rfl⟩)
          | (go_at_call 17; (with_reducible refine heb.mono ?_); rintro e w1 ⟨rfl, rfl⟩)
          | (go_at_call 9; refine (law_head _).mono ?_; rintro e w5 ⟨rfl, hb5⟩))
        go_ret
        exact ⟨rfl, below_next HB.out hb5⟩
      | some l =>
        by_cases hl : l.length = 0
        · have hend : endOf (some l) = 0 := by unfold endOf; rw [if_pos (by rw [List.eq_nil_of_length_eq_zero hl])]
          rw [hend] at heb
          simp only [rptr, Option.map, Option.isSome, Option.getD, hl] at hfb hlb heb
          go_wp2_with (first
            | (go_at_call 15; (with_reducible refine hfb.mono ?_); rintro e w1 ⟨rfl, rfl⟩)
            | (go_at_call 16; (with_reducible refine hlb.mono ?_); rintro e w1 ⟨rfl, rfl⟩)
            | (go_at_call 17; (with_reducible refine heb.mono ?_); rintro e w1 ⟨rfl, rfl⟩)
            | (go_at_call 9; refine (law_head _).mono ?_; rintro e w5 ⟨rfl, hb5⟩))
          go_ret
          exact ⟨rfl, below_next HB.out hb5⟩
        · have hend : endOf (some l) = 5 := by unfold endOf; rw [if_neg (by intro e; cases e; exact hl rfl)]
          rw [hend] at heb
          simp only [rptr, Option.map, Option.isSome, Option.getD] at hfb hlb heb
          have hlz : ((l.length : Int) == 0) = false := by rw [beq_eq_false_iff_ne]; omega
          have hlz' : ¬ l.length = 0 := hl
          go_wp2_with (first
            | (go_at_call 15; (with_reducible refine hfb.mono ?_); rintro e w1 ⟨rfl, rfl⟩)
            | (go_at_call 16; (with_reducible refine hlb.mono ?_); rintro e w1 ⟨rfl, rfl⟩)
            | (go_at_call 17; (with_reducible refine heb.mono ?_); rintro e w1 ⟨rfl, rfl⟩)
            | (go_at_call 9; refine (law_head _).mono ?_; rintro e w5 ⟨rfl, hb5⟩))
          go_ret
          exact ⟨rfl, below_next HB.out hb5⟩

end Go.Proofs.Ytimemfkhmfhffaa
