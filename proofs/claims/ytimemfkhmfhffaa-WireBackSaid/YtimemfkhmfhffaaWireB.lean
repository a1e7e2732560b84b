/-
  The walk of the law 'WireBack'.
-/
import Derived.Test.YtimemfkhmfhffaaWireL
import Derived.Deep.RegionWith
namespace Go.Proofs.Ytimemfkhmfhffaa
open Go Go.RowKit Wire

theorem encAll_drop (xs : List Thing) (k : Nat) (x : Thing) (h : xs[k]? = some x) : encAll (xs.drop k) = encI x ++ encAll (xs.drop (k + 1)) := by
  have hk : k < xs.length := (List.getElem?_eq_some_iff.1 h).1
  have he : xs[k] = x := (List.getElem?_eq_some_iff.1 h).2
  unfold encAll
  rw [List.drop_eq_getElem_cons hk, List.flatMap_cons, he]
theorem textSum_drop_mono (xs : List Thing) (k : Nat) : textSum (xs.drop k) ≤ textSum xs := by
  have : textSum xs = textSum (xs.take k) + textSum (xs.drop k) := by
    unfold textSum
    rw [← List.sum_append, ← List.map_append, List.take_append_drop]
  omega
theorem encAll_drop_small (xs : List Thing) (h : ∀ x ∈ xs, x.ok) (hg : isGreat xs = false) (k : Nat) : Small (some (encAll (xs.drop k))) := by
  have h1 := encAll_len (xs.drop k) (fun x hx => h x (List.mem_of_mem_drop hx))
  have h2 := textSum_drop_mono xs k
  have h3 : (xs.drop k).length ≤ xs.length := by rw [List.length_drop]; omega
  unfold isGreat at hg
  simp at hg
  show (encAll (xs.drop k)).length ≤ 1000000
  omega

set_option maxHeartbeats 20000000 in
set_option maxRecDepth 100000 in
theorem law_WireBack (a : Option Addr) (len cap : Nat) (xs : List Thing) (W : World) (h : IsThings W a len cap xs) :
    Calls Try.prog 5 #[.slice a len cap] W fun e w' => e = .returned (.bool true) ∧ Below W.heap.size W w' := by
  have hgr := law_great a len cap xs W h
  have hcap : len ≤ 9223372036854775807 := by have := h.2.1; have := h.2.2.1; unfold maxLen at this; omega
  by_cases hg : isGreat xs = true
  · rw [hg] at hgr
    clear h
    go_enter Try.func5, Try.ntmps5
    go_wp2_with (first
      | (go_at_call 8; refine hgr.mono ?_; rintro e w1 ⟨rfl, rfl⟩)
      | (go_at_call 9; refine (law_head _).mono ?_; rintro e w2 ⟨rfl, hb2⟩))
    go_ret
    exact ⟨rfl, hb2⟩
  · have hg : isGreat xs = false := by simpa using hg
    rw [hg] at hgr
    have hb0 : Below W.heap.size W (W.alloc (.cells #[.slice none 0 0, .bool true] 58)) := (Below.refl _ W).alloc (Nat.le_refl _) _
    have hw0 : WAt (W.alloc (.cells #[.slice none 0 0, .bool true] 58)) W.heap.size W.heap.size [] := WAt.at_nil _ _ _ (heap_alloc_last _ _)
    have HH : Hid (IsThings W a len cap xs) := h
    have HW0 : Hid _ := hw0
    clear h hw0
    go_enter Try.func5, Try.ntmps5
    go_wp2_with (first
      | (go_at_call 8; refine hgr.mono ?_; rintro e w1 ⟨rfl, rfl⟩)
      | (go_at_call 10; refine (wire_New _).mono ?_; rintro e w2 ⟨rfl, rfl⟩))
    go_loopw [4] (fun i wr => ∃ k : Nat, k ≤ len ∧ i = .int .i64 k ∧ WAt wr W.heap.size W.heap.size (encAll (xs.take k)) ∧ Below W.heap.size W wr) (fun i _ => len - (intOf i).toNat)
    case atStart => exact ⟨0, by omega, rfl, HW0.out, hb0⟩
    case round =>
      obtain ⟨k, hk, rfl, hwr, hbr⟩ := hrel
      have hsm := encAll_small xs HH.out.2.2.2.1 hg k
      by_cases hlt : k < len
      · obtain ⟨ad, rfl⟩ := HH.out.some_of (by omega)
        obtain ⟨x, Bx, O, sp, hx, hok, hA, c0, c1, c2, c3, c4, c5, c6, c7, c8, c9, c10, c11, c12, c13⟩ := (HH.out.below hbr).at k hlt
        have hxs : x.s.size ≤ 2000 := by
          have h1 := textSum_mem xs x (List.mem_of_getElem? hx)
          unfold isGreat at hg; simp at hg; omega
        have hput := law_put wr W.heap.size W.heap.size x hok hxs _ hwr hbr.size (by omega)
        have hnx := encAll_take xs k x hx
        have HN : Hid _ := hnx
        have HB : Hid (Below W.heap.size W wr) := hbr
        clear hnx hbr hwr hok hx hsm
        go_wp2_with (first
          | (go_at_call 11; refine hput.mono ?_; rintro e w3 ⟨rfl, hw3, hk3⟩))
        go_roundw
        case rel => exact ⟨k + 1, by omega, by go_num, by rw [HN.out]; exact hw3, HB.out.trans (hk3.below (fun q hq => by cases hq; exact Nat.le_refl _))⟩
        case measure => simp [intOf]; omega
      · have : k = len := by omega
        subst this
        have hall : xs.take k = xs := by rw [← HH.out.1, List.take_length]
        rw [hall] at hwr hsm
        have hby := wire_Bytes wr _ _ _ hwr
        have hop := wire_Open (ba (encAll xs)) (by rw [ba_size]; omega) wr
        rw [ba_list] at hop
        have HB0 : Hid (Below W.heap.size W wr) := hbr
        clear hwr hsm hbr hall
        go_wp2_with (first
          | (go_at_call 12; refine hby.mono ?_; rintro e w4 ⟨rfl, rfl⟩)
          | (go_at_call 13; refine hop.mono ?_; rintro e w5 ⟨g, rfl, hgw, hr5, hb5⟩; have HR5 : Hid (RAt w5 (some g) (some (encAll xs))) := hr5; clear hr5 hop hby))
        have hgW : W.heap.size ≤ g := Nat.le_trans HB0.out.size hgw
        have hB5 : Below W.heap.size W w5 := below_next HB0.out hb5
        clear hb5
        rename World => wr0
        go_loopw [6] (fun i wr => ∃ k' : Nat, k' ≤ k ∧ i = .int .i64 k' ∧ RAt wr (some g) (some (encAll (xs.drop k'))) ∧ Below W.heap.size W wr) (fun i _ => k - (intOf i).toNat)
        case atStart => exact ⟨0, by omega, rfl, HR5.out, hB5⟩
        case round =>
          obtain ⟨kk, hkk, rfl, hr, hbr⟩ := hrel
          clear hk hB5 HB0
          by_cases hlt2 : kk < k
          · obtain ⟨ad, rfl⟩ := HH.out.some_of (by omega)
            obtain ⟨x, Bx, O, sp, hx, hok, hA, c0, c1, c2, c3, c4, c5, c6, c7, c8, c9, c10, c11, c12, c13⟩ := (HH.out.below hbr).at kk hlt2
            have hxs : x.s.size ≤ 2000 := by
              have h1 := textSum_mem xs x (List.mem_of_getElem? hx)
              unfold isGreat at hg; simp at hg; omega
            have hdr := encAll_drop xs kk x hx
            have hsm := encAll_drop_small xs HH.out.2.2.2.1 hg kk
            have hal : Below wr.heap.size wr (wr.alloc (.cells x.cells 35)) := (Below.refl _ wr).alloc (Nat.le_refl _) _
            have HR : Hid (RAt (wr.alloc (.cells x.cells 35)).drew (some g) (some (encAll (xs.drop kk)))) := RAt.drew (RAt.keep hr hal)
            have HX : Hid ((wr.alloc (.cells x.cells 35)).drew.heap[wr.heap.size]? = some (.cells x.cells 35 (0, 0))) := heap_alloc_last wr _
            have hgne : some wr.heap.size ≠ some g := hr.lt.1
            have HB : Hid (Below W.heap.size W (wr.alloc (.cells x.cells 35)).drew) := (hbr.alloc hbr.size _).drew
            have hBx : W.heap.size ≤ (wr.alloc (.cells x.cells 35)).drew.heap.size := HB.out.size
            clear hx hbr hr hal
            by_cases k0 : x.kind % 4 = 0
            · have hI : encI x = enc x.n := by unfold encI; rw [if_pos k0]
              have hrd : ∀ w1, RAt w1 (some g) (some (encAll (xs.drop kk))) → Calls Try.prog 18 #[.pointer (some ⟨g, 0, none⟩), .int .u64 (x.n : Int)] w1 fun e w' => e = .returned (.int .u64 (x.n : Int)) ∧ RAt w' (some g) (some (encAll (xs.drop (kk + 1)))) ∧ Keeps w1.heap.size (some g) w1 w' := fun w1 h1 => by
                        have := wire_Num (some g) _ x.n hsm w1 h1
                        rw [hdr, hI, takeNum_enc (Nat.le_refl _) hok.2.1] at this
                        exact this
              have hkm : (x.kind : Int).tmod 4 = 0 := by rw [Int.tmod_eq_emod_of_nonneg (by omega)]; omega
              clear hI hok hdr hsm
              go_wp2
              go_region_with ((go_at_call 18; refine (hrd _ HR.out).mono ?_; rintro e w2 ⟨rfl, h2, hk2⟩; have hcells := things_cells wr x (w := w2) (hk2.other _ _ _ _ HX.out (by decide) hgne); obtain ⟨j0, j1, j2, j3, j4, j5, j6, j7, j8, j9, j10, j11, j12, j13⟩ := hcells; have hfa2 := wire_Fine (some g) _ w2 h2; simp only [rptr, Option.map, Option.isSome] at hfa2; have H2 : Hid (RAt w2 (some g) (some (encAll (xs.drop (kk + 1))))) := h2; clear h2))
              all_goals
                go_wp2_with (go_at_call 15; (with_reducible refine hfa2.mono ?_); rintro e w3 ⟨rfl, rfl⟩)
                go_roundw
                case rel => exact ⟨kk + 1, by omega, by go_num, H2.out, HB.out.trans ((hk2.mono hBx).below (fun q hq => by cases hq; exact hgW))⟩
                case measure => simp [intOf]; omega
            by_cases k1 : x.kind % 4 = 1
            · have hI : encI x = encT x.s.data.toList := by unfold encI; rw [if_neg k0, if_pos k1]
              have hrd : ∀ w1, RAt w1 (some g) (some (encAll (xs.drop kk))) → Calls Try.prog 19 #[.pointer (some ⟨g, 0, none⟩), .int .i64 (x.s.size : Int)] w1 fun e w' => e = .returned (.string x.s) ∧ RAt w' (some g) (some (encAll (xs.drop (kk + 1)))) ∧ Keeps w1.heap.size (some g) w1 w' := fun w1 h1 => by
                        have := wire_Text (some g) _ (x.s.size : Int) (by omega) (by omega) hsm w1 h1
                        rw [hdr, hI, encT, List.append_assoc, takeText_enc (by rw [len_toList]; exact Int.le_refl _) (by rw [len_toList]; omega), ba_of] at this
                        exact this
              have hkm : (x.kind : Int).tmod 4 = 1 := by rw [Int.tmod_eq_emod_of_nonneg (by omega)]; omega
              clear hI hok hdr hsm
              go_wp2
              go_region_with ((go_at_call 19; refine (hrd _ HR.out).mono ?_; rintro e w2 ⟨rfl, h2, hk2⟩; have hcells := things_cells wr x (w := w2) (hk2.other _ _ _ _ HX.out (by decide) hgne); obtain ⟨j0, j1, j2, j3, j4, j5, j6, j7, j8, j9, j10, j11, j12, j13⟩ := hcells; have hfa2 := wire_Fine (some g) _ w2 h2; simp only [rptr, Option.map, Option.isSome] at hfa2; have H2 : Hid (RAt w2 (some g) (some (encAll (xs.drop (kk + 1))))) := h2; clear h2))
              all_goals
                go_wp2_with (go_at_call 15; (with_reducible refine hfa2.mono ?_); rintro e w3 ⟨rfl, rfl⟩)
                go_roundw
                case rel => exact ⟨kk + 1, by omega, by go_num, H2.out, HB.out.trans ((hk2.mono hBx).below (fun q hq => by cases hq; exact hgW))⟩
                case measure => simp [intOf]; omega
            by_cases k2 : x.kind % 4 = 2
            · have hI : encI x = encD x.r x.dn := by unfold encI; rw [if_neg k0, if_neg k1, if_pos k2]
              have hrd : ∀ w1, RAt w1 (some g) (some (encAll (xs.drop kk))) → Calls Try.prog 20 #[.pointer (some ⟨g, 0, none⟩)] w1 fun e w' => e = .returned (.agg #[.int .u8 (x.r : Int), .int .u32 (x.dn : Int)]) ∧ RAt w' (some g) (some (encAll (xs.drop (kk + 1)))) ∧ Keeps w1.heap.size (some g) w1 w' := fun w1 h1 => by
                        have := wire_Dot (some g) _ hsm w1 h1
                        rw [hdr, hI, encD, List.append_assoc, takeDot_enc hok.2.2.2.1 hok.2.2.2.2.1] at this
                        exact this
              have hkm : (x.kind : Int).tmod 4 = 2 := by rw [Int.tmod_eq_emod_of_nonneg (by omega)]; omega
              clear hI hok hdr hsm
              go_wp2
              go_region_with ((go_at_call 20; refine (hrd _ HR.out).mono ?_; rintro e w2 ⟨rfl, h2, hk2⟩; have hcells := things_cells wr x (w := w2) (hk2.other _ _ _ _ HX.out (by decide) hgne); obtain ⟨j0, j1, j2, j3, j4, j5, j6, j7, j8, j9, j10, j11, j12, j13⟩ := hcells; have hfa2 := wire_Fine (some g) _ w2 h2; simp only [rptr, Option.map, Option.isSome] at hfa2; have H2 : Hid (RAt w2 (some g) (some (encAll (xs.drop (kk + 1))))) := h2; clear h2))
              all_goals
                go_wp2_with (go_at_call 15; (with_reducible refine hfa2.mono ?_); rintro e w3 ⟨rfl, rfl⟩)
                go_roundw
                case rel => exact ⟨kk + 1, by omega, by go_num, H2.out, HB.out.trans ((hk2.mono hBx).below (fun q hq => by cases hq; exact hgW))⟩
                case measure => simp [intOf]; omega
            have k3 : x.kind % 4 = 3 := by omega
            have hI : encI x = encV x.vec := by unfold encI; rw [if_neg k0, if_neg k1, if_neg k2]
            have hrd : ∀ w1, RAt w1 (some g) (some (encAll (xs.drop kk))) → Calls Try.prog 21 #[.pointer (some ⟨g, 0, none⟩)] w1 fun e w' => e = .returned (.agg #[.int .u32 (x.v0 : Int), .int .u32 (x.v1 : Int), .int .u32 (x.v2 : Int), .int .u32 (x.v3 : Int), .int .u32 (x.v4 : Int), .int .u32 (x.v5 : Int), .int .u32 (x.v6 : Int), .int .u32 (x.v7 : Int)]) ∧ RAt w' (some g) (some (encAll (xs.drop (kk + 1)))) ∧ Keeps w1.heap.size (some g) w1 w' := fun w1 h1 => by
                      have := wire_Vector (some g) _ hsm w1 h1
                      rw [hdr, hI, takeVec_enc rfl hok.2.2.2.2.2.1] at this
                      exact this
            have hkm : (x.kind : Int).tmod 4 = 3 := by rw [Int.tmod_eq_emod_of_nonneg (by omega)]; omega
            have heqv : ∀ w, (Op.equalIn 10000 33 (.agg #[.int .u32 (x.v0 : Int), .int .u32 (x.v1 : Int), .int .u32 (x.v2 : Int), .int .u32 (x.v3 : Int), .int .u32 (x.v4 : Int), .int .u32 (x.v5 : Int), .int .u32 (x.v6 : Int), .int .u32 (x.v7 : Int)]) (.agg #[.int .u32 (x.v0 : Int), .int .u32 (x.v1 : Int), .int .u32 (x.v2 : Int), .int .u32 (x.v3 : Int), .int .u32 (x.v4 : Int), .int .u32 (x.v5 : Int), .int .u32 (x.v6 : Int), .int .u32 (x.v7 : Int)])).run Try.prog w = .ok true w := fun w => (eq_vec x.vec x.vec rfl rfl w).trans (by rw [decide_eq_true rfl])
            clear hI hok hdr hsm
            go_wp2
            go_region_with ((go_at_call 21; refine (hrd _ HR.out).mono ?_; rintro e w2 ⟨rfl, h2, hk2⟩; have hcells := things_cells wr x (w := w2) (hk2.other _ _ _ _ HX.out (by decide) hgne); obtain ⟨j0, j1, j2, j3, j4, j5, j6, j7, j8, j9, j10, j11, j12, j13⟩ := hcells; have hfa2 := wire_Fine (some g) _ w2 h2; simp only [rptr, Option.map, Option.isSome] at hfa2; have H2 : Hid (RAt w2 (some g) (some (encAll (xs.drop (kk + 1))))) := h2; clear h2))
            all_goals
              go_wp2_with (go_at_call 15; (with_reducible refine hfa2.mono ?_); rintro e w3 ⟨rfl, rfl⟩)
              go_roundw
              case rel => exact ⟨kk + 1, by omega, by go_num, H2.out, HB.out.trans ((hk2.mono hBx).below (fun q hq => by cases hq; exact hgW))⟩
              case measure => simp [intOf]; omega
          · have : kk = k := by omega
            subst this
            have hall : xs.drop kk = [] := by rw [← HH.out.1]; exact List.drop_length
            rw [hall] at hr
            have hlb := wire_Left (some g) _ wr hr
            have heb := wire_End (some g) _ wr hr
            rw [show endOf (some (encAll [])) = 0 by rfl] at heb
            have hl0 : ((some (encAll [])).getD []).length = 0 := rfl
            rw [hl0] at hlb
            simp only [rptr, Option.map] at hlb heb
            have HB : Hid (Below W.heap.size W wr) := hbr
            clear hr hbr hall
            go_wp2_with (first
              | (go_at_call 16; (with_reducible refine hlb.mono ?_); rintro e w7 ⟨rfl, rfl⟩)
              | (go_at_call 17; (with_reducible refine heb.mono ?_); rintro e w7 ⟨rfl, rfl⟩)
              | (go_at_call 9; refine (law_head _).mono ?_; rintro e w8 ⟨rfl, hb8⟩))
            go_ret
            exact ⟨rfl, below_next HB.out hb8⟩

end Go.Proofs.Ytimemfkhmfhffaa
