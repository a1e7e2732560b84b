/-
  vector.Tops.
-/
import Derived.Test.YtckfdjfcikljaaaVJ
import Derived.Test.YtckfdjfcikljaaaVK
import Derived.Maps.AppendAt
namespace Go.Proofs.Ytckfdjfcikljaaa
set_option linter.unusedVariables false
set_option linter.unusedSimpArgs false
open Go Go.RowKit Go.Maps

theorem zeroUnit (w : World) : (zeroValue 63).run Try.prog w = .ok (.agg #[]) w := Try.zeroValue63 w
theorem box_grown {wr w1 : World} {x : Vec} {b : Nat} {o : Obj} (hb : b < wr.heap.size) (h : ((wr.alloc (.cells #[.int .u32 (x 0 : Int), .int .u32 (x 1 : Int), .int .u32 (x 2 : Int), .int .u32 (x 3 : Int), .int .u32 (x 4 : Int), .int .u32 (x 5 : Int), .int .u32 (x 6 : Int), .int .u32 (x 7 : Int)] 24)).alloc o).grownBy w1 (some b)) : w1.heap[wr.heap.size]? = some (.cells (vc x) 24 (0, 0)) :=
  (h.block wr.heap.size (by simp; omega) (fun e => by cases e; omega)).trans (heap_al (heap_alloc_last' _ _) _)
theorem row_grown {wr w1 : World} {b n : Nat} {v : Value} {xs : List Value} {o o' : Obj} (hr : wr.ownsRow (b + 1) 24 8 v n xs) (h : ((wr.alloc o).alloc o').grownBy w1 (some b)) : w1.ownsRow (b + 1) 24 8 v n xs :=
  ((hr.alloc o).alloc o').kept h (.inr fun e => by have := (hr.lt b e).1; omega)
theorem below_grown {w wr w1 : World} {o o' : Obj} (hB : Below w.heap.size w wr) (h : ((wr.alloc o).alloc o').grownBy w1 (some w.heap.size)) : Below w.heap.size w w1 :=
  ((hB.alloc hB.size _).alloc (by have := hB.size; simp; omega) _).grown h (by have := hB.size; simp; omega) (fun k e => by cases e; exact Nat.le_refl _)
theorem size2 {w1 w2 : World} {b : Nat} {l : List Vec} (h : SetV w1 b l) (hB : Below w1.heap.size w1 w2) : b + 1 ≤ w2.heap.size := Nat.le_trans h.lt hB.size
theorem size3 {w1 w2 w3 : World} {b : Nat} {l : List Vec} (h : SetV w1 b l) (hB : Below w1.heap.size w1 w2) (hB' : Below (b + 1) w2 w3) : b + 1 ≤ w3.heap.size := Nat.le_trans (size2 h hB) hB'.size
theorem row_ne {wr : World} {B n : Nat} {v : Value} {xs : List Value} (h : wr.ownsRow B 24 8 v n xs) : v.ownBlock ≠ some wr.heap.size := fun e => by have := (h.lt _ e).2; omega
theorem below_appendV {w w2 : World} {B n : Nat} {v : Value} {xs : List Value} {o : Obj} (h : B ≤ w.heap.size) (hr : w.ownsRow B 24 8 v n xs) (hg : (w.alloc o).grownBy w2 v.ownBlock) : Below B w w2 :=
  ((Below.refl _ _).alloc h o).grown hg (size_alloc_le h _) (fun j e => ((hr.alloc o).lt j e).1)
theorem cells_new8 (W : World) (x : Vec) : ∀ j z, (vc x).toList[j]? = some z → (W.alloc (.cells #[.int .u32 (x 0 : Int), .int .u32 (x 1 : Int), .int .u32 (x 2 : Int), .int .u32 (x 3 : Int), .int .u32 (x 4 : Int), .int .u32 (x 5 : Int), .int .u32 (x 6 : Int), .int .u32 (x 7 : Int)] 24)).cell? ((⟨W.heap.size, 0, none⟩ : Addr).add j) = some z := by
  intro j z h
  rw [add8]
  have hj : j < 8 := by have := (List.getElem?_eq_some_iff.1 h).1; rw [Array.length_toList, vc_size] at this; exact this
  rw [cellV (heap_alloc_last' W (.cells #[.int .u32 (x 0 : Int), .int .u32 (x 1 : Int), .int .u32 (x 2 : Int), .int .u32 (x 3 : Int), .int .u32 (x 4 : Int), .int .u32 (x 5 : Int), .int .u32 (x 6 : Int), .int .u32 (x 7 : Int)] 24)) hj, ← h]
  have := vc_get x hj
  simpa using this.symm
theorem vc_one (x : Vec) : ∀ u ∈ (vc x).toList, u.oneCell' = true := by
  intro u hu
  simp [vc] at hu
  rcases hu with rfl | rfl | rfl | rfl | rfl | rfl | rfl | rfl <;> rfl
theorem take_snoc {l : List Vec} {k : Nat} {x : Vec} (hx : l[k]? = some x) : l.take k ++ [x] = l.take (k + 1) := by
  rw [List.take_succ_eq_append_getElem (List.getElem?_eq_some_iff.1 hx).1, (List.getElem?_eq_some_iff.1 hx).2]
theorem app_bounds {n : Nat} (h : n + 1 ≤ 100001) : n + 1 ≤ maxLen ∧ (n + 1) * 32 ≤ 140737488355328 := ⟨by unfold maxLen; omega, by omega⟩
theorem take_mem {l : List Vec} {k : Nat} {x : Vec} (h : x ∈ l.take k) : l.take k ++ [x] = l.take k ++ [x] := rfl

/-- What Tops holds on to. -/
structure TopS (w : World) (l : List Vec) (out : Value) (k : Nat) (W : World) : Prop where
  set : SetV W w.heap.size (l.take k)
  row : W.ownsRow (w.heap.size + 1) 24 8 out (topsAt l k).length (flatV (topsAt l k))
  below : Below w.heap.size w W
theorem TopS.same {w : World} {l : List Vec} {out : Value} {k : Nat} {W : World} (hs : SetV W w.heap.size (l.take (k + 1))) (hr : W.ownsRow (w.heap.size + 1) 24 8 out (topsAt l k).length (flatV (topsAt l k))) (hB : Below w.heap.size w W) (he : topsAt l (k + 1) = topsAt l k) : TopS w l out (k + 1) W := by
  refine ⟨hs, ?_, hB⟩
  rw [he]; exact hr

set_option maxHeartbeats 4000000 in
set_option maxRecDepth 100000 in
theorem vec_Tops (v : Value) (l : List Vec) (w : World) (hv : VecsV w v l) (hl : l.length ≤ 100000) :
    Calls Try.prog 29 #[v] w fun e w' => ∃ u, e = .returned u ∧ VecsV w' u (topsAt l l.length) ∧ Below w.heap.size w w' := by
  obtain ⟨ad, len, cap, rfl, hI⟩ := hv
  have hcap : len ≤ 9223372036854775807 := by have := hI.1; omega
  have hlen := hI.1
  have hok := hI.2.2.2.1
  have HI := hid hI
  clear hI
  have hmm := @run_makeMap Try.prog
  obtain ⟨i0, hi, hz0, hz1, hz2⟩ := info_parts infoVec
  go_enter Try.func29, Try.ntmps29
  go_wp2
  go_loopw [4, 12] (fun out i wr => ∃ k : Nat, k ≤ len ∧ i = .int .i64 k ∧ TopS w l out k wr) (fun _ i _ => len - (intOf i).toNat)
  case atStart => exact ⟨0, by omega, rfl, ⟨⟨0, _, World.ownsMap_made _ _ _ _, by simp, keysAre_nil⟩, World.ownsRow_nil _ _ _ _, below_al _ _⟩⟩
  case round =>
    obtain ⟨k, hk, rfl, hset, hrow, hB⟩ := hrel
    by_cases hlt : k < len
    · cases ad with
      | none => have := HI.out.none_len; omega
      | some ad =>
        obtain ⟨x, B, O, sp, hx, hxo, hA, -, c0, c1, c2, c3, c4, c5, c6, c7⟩ := (HI.out.keep hB).at k hlt
        have hlw := hset.lt
        have HR := hid hrow
        have HT := hid (And.intro (topsAt_ok hok k (by omega)) (show (topsAt l k).length ≤ 1000000 by have := topsAt_length l k; omega))
        have HSET := hid hset
        obtain ⟨nn, D, hown, hnn, hK⟩ := hset
        have hnl : nn < 1000001 := by rw [List.length_take] at hnn; omega
        have hkey := keyOf_vec hxo
        have hmem := hK.memB hxo
        have hst := topsAt_succ hx
        have HX := hid (And.intro hx hxo)
        have HO := hid (And.intro hown (And.intro hnn hK))
        have HKY := hid hkey
        clear hrow hown hnn hK hkey hx hxo
        unfold stepT at hst
        by_cases hm : memB (l.take k) x = true
        · rw [if_pos hm] at hst
          rw [hm] at hmem
          have HST := hid hst
          have HM := hid hm
          clear hst hm
          go_wp2_with (first
            | (at_lookup; refine wpList_lookup_own_unit _ rfl _ _ 62 rfl 24 63 vecKeyed Try.underlying62 (zeroUnit _) w.heap.size nn D rfl (HO.out.1.alloc _) _ _ rfl HKY.out ?_)
            | go_in)
          have hxm := (memB_iff (fun u hu => hok u (List.mem_of_mem_take hu)) HX.out.2).1 HM.out
          have hs2 : ∀ a b, SetV ((wr.alloc a).alloc b) w.heap.size (l.take (k + 1)) := fun a b => by rw [← take_snoc HX.out.1]; exact SetV.again (HSET.out.keep (below_al2 wr a b) hlw) hxm
          have HE := hid hs2
          clear hs2
          go_roundw
          case rel => exact ⟨k + 1, by omega, by go_num, TopS.same (HE.out _ _) ((HR.out.alloc _).alloc _) (hB.trans ((below_al2 wr _ _).mono hB.size)) HST.out⟩
          case measure => simp [intOf]; omega
        · rw [if_neg hm] at hst
          have hm' : memB (l.take k) x = false := by simpa using hm
          rw [hm'] at hmem
          clear hm hm'
          by_cases ha : ((topsAt l k).any fun u => aboveB u x) = true
          · rw [if_pos ha] at hst
            have HST := hid hst
            have hcA := fun W hv hl hc => contains_A wr.heap.size x u4 (topsAt l k) W hv hl hc
            simp only [ha] at hcA
            clear hst ha
            go_wp2_with (first
              | (at_lookup; refine wpList_lookup_own_unit _ rfl _ _ 62 rfl 24 63 vecKeyed Try.underlying62 (zeroUnit _) w.heap.size nn D rfl (HO.out.1.alloc _) _ _ rfl HKY.out ?_)
              | (at_mapUpdate; refine wpList_mapUpdate_own _ rfl _ _ _ 62 rfl 24 63 vecKeyed Try.underlying62 (unitElem (H := Unit)) w.heap.size nn D rfl ((HO.out.1.alloc _).alloc _) (by unfold maxLen; omega) _ _ _ rfl rfl HKY.out _ [] unitElem_mk ?_; intro w1 hown1 hgrow1; have HS1 := hid (SetV.store HO.out.2.1 HO.out.2.2 HX.out.2 hown1); have hbox1 := box_grown hlw hgrow1; obtain ⟨b0, b1, b2, b3, b4, b5, b6, b7⟩ := cells8 hbox1; have HR1 := hid (row_grown HR.out hgrow1); have HB1 := hid (below_grown hB hgrow1); have HBX1 := hid hbox1; clear hown1 hgrow1 hbox1)
              | (go_at_call 39; (with_reducible refine (hcA _ (owns_vecsV HR1.out HT.out.1) HT.out.2 HBX1.out).mono ?_); rintro e w2 ⟨rfl, hB2⟩; have hbox2 := heap_keep HBX1.out hB2; obtain ⟨d0, d1, d2, d3, d4, d5, d6, d7⟩ := cells8 hbox2; have HB2 := hid hB2; have HBX2 := hid hbox2; clear hB2 hbox2)
              | go_in)
            go_roundw
            case rel => exact ⟨k + 1, by omega, by go_num, TopS.same (by rw [← take_snoc HX.out.1]; exact HS1.out.keep HB2.out HS1.out.lt) (owns_belowV HR1.out HB2.out) (HB1.out.trans (HB2.out.mono HB1.out.size)) HST.out⟩
            case measure => simp [intOf]; omega
          · rw [if_neg ha] at hst
            have ha' : ((topsAt l k).any fun u => aboveB u x) = false := by simpa using ha
            have HST := hid hst
            have hcA := fun W hv hl hc => contains_A wr.heap.size x u4 (topsAt l k) W hv hl hc
            simp only [ha'] at hcA
            have HL := hid (app_bounds (show ((topsAt l k).filter fun u => !aboveB x u).length + 1 ≤ 100001 by have h1 := List.length_filter_le (fun u => !aboveB x u) (topsAt l k); have := topsAt_length l k; omega))
            clear hst ha ha'
            go_wp2_with (first
              | (at_lookup; refine wpList_lookup_own_unit _ rfl _ _ 62 rfl 24 63 vecKeyed Try.underlying62 (zeroUnit _) w.heap.size nn D rfl (HO.out.1.alloc _) _ _ rfl HKY.out ?_)
              | (at_mapUpdate; refine wpList_mapUpdate_own _ rfl _ _ _ 62 rfl 24 63 vecKeyed Try.underlying62 (unitElem (H := Unit)) w.heap.size nn D rfl ((HO.out.1.alloc _).alloc _) (by unfold maxLen; omega) _ _ _ rfl rfl HKY.out _ [] unitElem_mk ?_; intro w1 hown1 hgrow1; have HS1 := hid (SetV.store HO.out.2.1 HO.out.2.2 HX.out.2 hown1); have hbox1 := box_grown hlw hgrow1; obtain ⟨b0, b1, b2, b3, b4, b5, b6, b7⟩ := cells8 hbox1; have HR1 := hid (row_grown HR.out hgrow1); have HB1 := hid (below_grown hB hgrow1); have HBX1 := hid hbox1; clear hown1 hgrow1 hbox1)
              | (go_at_call 39; (with_reducible refine (hcA _ (owns_vecsV HR1.out HT.out.1) HT.out.2 HBX1.out).mono ?_); rintro e w2 ⟨rfl, hB2⟩; have hbox2 := heap_keep HBX1.out hB2; obtain ⟨d0, d1, d2, d3, d4, d5, d6, d7⟩ := cells8 hbox2; have HB2 := hid hB2; have HBX2 := hid hbox2; clear hB2 hbox2)
              | (go_at_call 41; (with_reducible refine (delete_own wr.heap.size (w.heap.size + 1) x _ (topsAt l k) _ (owns_belowV HR1.out HB2.out) HT.out.2 HT.out.1 (size2 HS1.out HB2.out) HBX2.out (row_ne HR.out)).mono ?_); rintro e w3 ⟨v3, rfl, hr3, hB3, hbox3⟩; obtain ⟨g0, g1, g2, g3, g4, g5, g6, g7⟩ := cells8 hbox3; have HR3 := hid hr3; have HB3 := hid hB3; have hs3 := size3 HS1.out HB2.out hB3; clear hr3 hB3 hbox3)
              | (at_builtin; refine wpList_append_own _ rfl (.tmp 32) (.tmp 34) 49 rfl (w.heap.size + 1) 24 i0 (.agg #[.int .u32 0, .int .u32 0, .int .u32 0, .int .u32 0, .int .u32 0, .int .u32 0, .int .u32 0, .int .u32 0]) 8 32 Try.underlying49 hi hz0 hz1 hz2 rfl (by decide) v3 _ _ rfl (HR3.out.alloc _) ⟨w3.heap.size, 0, none⟩ 1 1 (vc x).toList rfl rfl (cells_new8 _ _) (vc_one x) HL.out.1 HL.out.2 (size_alloc_le hs3 _) ?_; intro v4 w4 hown4 hgrow4 _; have hB4 := below_appendV hs3 HR3.out hgrow4; have HR4 := hid hown4; have HB4 := hid hB4; clear hown4 hgrow4 hB4)
              | go_in)
            go_roundw
            case rel =>
              refine ⟨k + 1, by omega, by go_num, ⟨?_, ?_, ?_⟩⟩
              · rw [← take_snoc HX.out.1]
                exact (((HS1.out.keep HB2.out HS1.out.lt).keep HB3.out (Nat.lt_succ_self _)).keep HB4.out (Nat.lt_succ_self _))
              · rw [HST.out, flatV_append]
                have h4 := HR4.out
                simpa [flatV] using h4
              · exact ((HB1.out.trans (HB2.out.mono HB1.out.size)).trans (HB3.out.mono (Nat.le_succ _))).trans (HB4.out.mono (Nat.le_succ _))
            case measure => simp [intOf]; omega
    · obtain rfl : k = len := by omega
      have hr := owns_vecsV hrow (topsAt_ok hok _ (by omega))
      rw [show k = l.length from hlen.symm] at hr
      have HR := hid hr
      clear hr hrow hset
      go_wp2
      go_ret
      exact ⟨_, rfl, HR.out, hB⟩

end Go.Proofs.Ytckfdjfcikljaaa
