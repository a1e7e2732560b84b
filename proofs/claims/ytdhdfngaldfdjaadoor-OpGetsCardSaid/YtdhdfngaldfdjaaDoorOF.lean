/-
  op.linesFit.
-/
import Derived.Test.YtdhdfngaldfdjaaDoorOE
import Derived.Test.YtdhdfngaldfdjaaDoorOD
import Derived.Test.YtdhdfngaldfdjaaDoorSetC
import Derived.LoopTactic
namespace Go.Proofs.YtdhdfngaldfdjaaDoor.V
set_option linter.unusedVariables false
set_option linter.unusedSimpArgs false
set_option maxRecDepth 100000
open Go Go.RowKit Go.Maps

def linesM (o : OpM) (l : List Claim) (h : Nat) : Bool := if h &&& 1024 = 0 then decide (l.length = 0) else okLB o.dep l
theorem zeroUnit (w : World) : (zeroValue 93).run Tryd.prog w = .ok (.agg #[]) w := Tryd.zeroValue93 w

theorem SetAt.store {w1 : World} {b n : Nat} {D : Dat} {l : List Dot} (hn : n ≤ l.length) (hk : KeysAre D l) {x : Dot} (hx : x.ok) (h : w1.ownsMap Tryd.prog 24 unitElem b (n + 1) (D.put (dk x) (.agg []))) : SetAt w1 b (l ++ [x]) :=
  ⟨_, _, h, by simp; omega, hk.put (x := x) hx _⟩
theorem claim_box (wr : World) (x : Claim) (o' : Obj) : ((wr.alloc (.cells #[.int .u8 (x.1.1 : Int), .int .u32 (x.1.2 : Int), .int .u8 (x.2.1 : Int), .int .u32 (x.2.2 : Int)] 68)).alloc o').heap[wr.heap.size]? = some (.cells (cl x) 68 (0, 0)) := heap_al (heap_alloc_last' _ _) _
theorem cells4 {w : World} {b : Nat} {x : Claim} {t : TypeId} {fr : Nat × Nat} (h : w.heap[b]? = some (.cells (cl x) t fr)) :
    w.cell? ⟨b, 0, none⟩ = some (.int .u8 (x.1.1 : Int)) ∧ w.cell? ⟨b, 1, none⟩ = some (.int .u32 (x.1.2 : Int)) ∧ w.cell? ⟨b, 2, none⟩ = some (.int .u8 (x.2.1 : Int)) ∧ w.cell? ⟨b, 3, none⟩ = some (.int .u32 (x.2.2 : Int)) := by
  have e : ∀ k, w.cell? ⟨b, k, none⟩ = (cl x)[k]? := fun k => by simp [World.cell?, h]
  exact ⟨(e 0).trans rfl, (e 1).trans rfl, (e 2).trans rfl, (e 3).trans rfl⟩
theorem owns_keepM {w w' : World} {B b n : Nat} {D : Dat} (h : w.ownsMap Tryd.prog 24 unitElem b n D) (hB : Below B w w') (hb : b < B) : w'.ownsMap Tryd.prog 24 unitElem b n D := by
  obtain ⟨es, clock, h1, h2⟩ := h
  exact ⟨es, clock, (hB.block b hb).trans h1, h2⟩
theorem OpAt.al2 {w : World} {b : Nat} {o : OpM} (h : OpAt w b o) (x y : Obj) : OpAt ((w.alloc x).alloc y) b o := (h.al x).al y

set_option maxHeartbeats 1000000 in
theorem op_linesFit (o : OpM) (l : List Claim) (h : Nat) (hh : h < 65536) (w : World) (hv : ClaimsV w o.lv l) :
    Calls Tryd.prog 23 #[.agg (oc o), .int .u16 (h : Int)] w
      fun e w' => e = .returned (.bool (linesM o l h)) ∧ Below w.heap.size w w' := by
  have b1 : bits .and .u16 (h : Int) 1024 = ((h &&& 1024 : Nat) : Int) := and_u16 h 1024 hh (by omega)
  obtain ⟨ad, len, cap, hlv, hI⟩ := hv
  have g28 : (oc o)[28]? = some (.slice ad len cap) := by rw [← hlv]; rfl
  have hlen := hI.1
  unfold linesM
  generalize h &&& 1024 = x1 at b1 ⊢
  have HE := hid (below_al w (.cells (oc o) 30))
  by_cases h0 : x1 = 0
  · rw [if_pos h0, hlen]
    subst h0
    have HI := hid hI
    clear hI hlv hlen
    by_cases hl : len = 0
    · rw [decide_eq_true hl]
      subst hl
      go_enter Tryd.func23, Tryd.ntmps23
      go_wp2
      go_ret
      exact ⟨rfl, HE.out⟩
    · rw [decide_eq_false hl]
      have hl' : ((len : Int) == 0) = false := by simp [hl]
      clear hl
      go_enter Tryd.func23, Tryd.ntmps23
      go_wp2
      go_ret
      exact ⟨rfl, HE.out⟩
  · rw [if_neg h0]
    have h1 : ((x1 : Int) == 0) = false := by simp [h0]
    clear h0
    by_cases hl1 : 1 ≤ len
    · have t1 : decide ((len : Int) < 1) = false := decide_eq_false (by omega)
      by_cases hl16 : len ≤ 16
      · have t2 : decide (16 < (len : Int)) = false := decide_eq_false (by omega)
        have hcap : len ≤ 9223372036854775807 := by omega
        have hmm := @run_makeMap Tryd.prog
        have HI := hid hI
        have HL := hid (And.intro hlen (And.intro hl1 hl16))
        clear hI hlv hlen hl1
        go_enter Tryd.func23, Tryd.ntmps23
        go_wp2
        have hlw := HE.out.size
        go_loopw [31] (fun i wr => ∃ k : Nat, k ≤ len ∧ i = .int .i64 k ∧ OkTo o.dep l k ∧ SetAt wr (w.heap.size + 1) ((l.take k).map Prod.fst) ∧ OpAt wr w.heap.size o ∧ Below w.heap.size w wr) (fun i _ => len - (intOf i).toNat)
        case atStart => exact ⟨0, by omega, rfl, OkTo.zero _ _, ⟨0, _, by have h := World.ownsMap_made (P := Tryd.prog) (k := 24) (R := unitElem (H := Unit)) (w.alloc (.cells (oc o) 30)); simpa using h, by simp, keysAre_nil⟩, (opAt_new w o).al _, below_al2 _ _ _⟩
        case round =>
          obtain ⟨k, hk, rfl, hto, hset, hop, hBr⟩ := hrel
          by_cases hlt : k < len
          · cases ad with
            | none => have := HI.out.none_len; omega
            | some ad =>
              obtain ⟨x, B, O, sp, hx, hxo, hA, c0, c1, c2, c3⟩ := (HI.out.keep hBr).at k hlt
              have hsl := hset.lt
              obtain ⟨nn, D, hown, hnn, hK⟩ := hset
              have hnl : nn < 1000001 := by rw [List.length_map, List.length_take] at hnn; omega
              have hkey := keyOf_dot hxo.1
              have hmem := hK.2.2 x.1 hxo.1
              have k1 := fun W => op_Covers o x.1 W
              have k2 := fun W => op_Covers o x.2 W
              have HP := hid hop
              have HX := hid (And.intro hx (And.intro hxo hto))
              have HO := hid (And.intro hown (And.intro hnn hK))
              have HKY := hid hkey
              have HSL := hid hsl
              clear hop hx hxo hto hown hnn hK hkey hsl
              by_cases hm : x.1 ∈ (l.take k).map Prod.fst
              · have hhas : Maps.has D (dk x.1) = true := hmem.2 hm
                clear hmem k1 k2
                have HM := hid hm
                clear hm
                go_wp2_with (first
                  | (at_lookup; refine wpList_lookup_own_unit _ rfl _ _ 92 rfl 24 93 dotKeyed Tryd.underlying92 (zeroUnit _) (w.heap.size + 1) nn D rfl (HO.out.1.alloc _) _ _ rfl HKY.out ?_)
                  | go_in)
                go_ret
                exact ⟨by rw [okLB_false (not_okL_dup HX.out.1 HM.out)]; rfl, hBr.trans ((below_al2 wr _ _).mono hBr.size)⟩
              · have hhas : Maps.has D (dk x.1) = false := by
                  cases hb : Maps.has D (dk x.1)
                  · rfl
                  · exact absurd (hmem.1 hb) hm
                have HM := hid hm
                clear hm hmem
                cases hc1 : covB o.dep x.1
                · rw [hc1] at k1
                  have HC1 := hid hc1
                  clear hc1 k2
                  go_wp2_with (first
                    | (at_lookup; refine wpList_lookup_own_unit _ rfl _ _ 92 rfl 24 93 dotKeyed Tryd.underlying92 (zeroUnit _) (w.heap.size + 1) nn D rfl (HO.out.1.alloc _) _ _ rfl HKY.out ?_)
                    | (refine load_op rfl _ rfl w.heap.size rfl _ (HP.out.al2 _ _) ?_)
                    | (go_at_call 9; (with_reducible refine (k1 _).mono ?_); rintro e w2 ⟨rfl, hB2⟩; have HP2 := hid ((HP.out.al2 _ _).keep hB2); have HX2 := hid (heap_keep (claim_box wr x _) hB2); obtain ⟨d0, d1, d2, d3⟩ := cells4 HX2.out; have HB2 := hid (below_next (below_al2 wr _ _) hB2); clear hB2)
                    | go_in)
                  go_ret
                  exact ⟨by rw [okLB_false (not_okL_cov HX.out.1 (.inl HC1.out))]; rfl, hBr.trans (HB2.out.mono hBr.size)⟩
                · rw [hc1] at k1
                  have HC1 := hid hc1
                  clear hc1
                  cases hc2 : covB o.dep x.2
                  · rw [hc2] at k2
                    have HC2 := hid hc2
                    clear hc2
                    go_wp2_with (first
                      | (at_lookup; refine wpList_lookup_own_unit _ rfl _ _ 92 rfl 24 93 dotKeyed Tryd.underlying92 (zeroUnit _) (w.heap.size + 1) nn D rfl (HO.out.1.alloc _) _ _ rfl HKY.out ?_)
                      | (refine load_op rfl _ rfl w.heap.size rfl _ (HP.out.al2 _ _) ?_)
                      | (refine load_op rfl _ rfl w.heap.size rfl _ (HP2.out) ?_)
                      | (go_at_call 9; (with_reducible refine (k1 _).mono ?_); rintro e w2 ⟨rfl, hB2⟩; have HP2 := hid ((HP.out.al2 _ _).keep hB2); have HX2 := hid (heap_keep (claim_box wr x _) hB2); obtain ⟨d0, d1, d2, d3⟩ := cells4 HX2.out; have HB2 := hid (below_next (below_al2 wr _ _) hB2); clear hB2)
                      | (go_at_call 9; (with_reducible refine (k2 _).mono ?_); rintro e w3 ⟨rfl, hB3⟩; have HB3 := hid (below_next HB2.out hB3); have HX3 := hid (heap_keep HX2.out hB3); have HP3 := hid (HP2.out.keep hB3); obtain ⟨f0, f1, f2, f3⟩ := cells4 HX3.out; clear hB3)
                      | go_in)
                    go_ret
                    exact ⟨by rw [okLB_false (not_okL_cov HX.out.1 (.inr HC2.out))]; rfl, hBr.trans (HB3.out.mono hBr.size)⟩
                  · rw [hc2] at k2
                    have HC2 := hid hc2
                    clear hc2
                    go_wp2_with (first
                      | (at_lookup; refine wpList_lookup_own_unit _ rfl _ _ 92 rfl 24 93 dotKeyed Tryd.underlying92 (zeroUnit _) (w.heap.size + 1) nn D rfl (HO.out.1.alloc _) _ _ rfl HKY.out ?_)
                      | (refine load_op rfl _ rfl w.heap.size rfl _ (HP.out.al2 _ _) ?_)
                      | (refine load_op rfl _ rfl w.heap.size rfl _ (HP2.out) ?_)
                      | (go_at_call 9; (with_reducible refine (k1 _).mono ?_); rintro e w2 ⟨rfl, hB2⟩; have HP2 := hid ((HP.out.al2 _ _).keep hB2); have HX2 := hid (heap_keep (claim_box wr x _) hB2); obtain ⟨d0, d1, d2, d3⟩ := cells4 HX2.out; have HB2 := hid (below_next (below_al2 wr _ _) hB2); clear hB2)
                      | (go_at_call 9; (with_reducible refine (k2 _).mono ?_); rintro e w3 ⟨rfl, hB3⟩; have HB3 := hid (below_next HB2.out hB3); have HX3 := hid (heap_keep HX2.out hB3); have HP3 := hid (HP2.out.keep hB3); obtain ⟨f0, f1, f2, f3⟩ := cells4 HX3.out; clear hB3)
                      | (at_mapUpdate; refine wpList_mapUpdate_own _ rfl _ _ _ 92 rfl 24 93 dotKeyed Tryd.underlying92 (unitElem (H := Unit)) (w.heap.size + 1) nn D rfl (owns_keepM HO.out.1 HB3.out HSL.out) (by unfold maxLen; omega) _ _ _ rfl rfl HKY.out _ [] unitElem_mk ?_; intro w4 hown4 hgrow4; have HG := hid (And.intro hown4 hgrow4); clear hown4 hgrow4)
                      | go_in)
                    go_roundw
                    case rel =>
                      have hlw3 : w.heap.size + 1 < w3.heap.size := Nat.lt_of_lt_of_le HSL.out HB3.out.size
                      refine ⟨k + 1, by omega, by go_num, HX.out.2.2.succ HX.out.1 HC1.out HC2.out HM.out, ?_, ?_, ?_⟩
                      · rw [← take_snocC HX.out.1, List.map_append]
                        exact SetAt.store HO.out.2.1 HO.out.2.2 HX.out.2.1.1 HG.out.1
                      · exact (HG.out.2.block _ (by omega) (by simp)).trans HP3.out
                      · exact (hBr.trans (HB3.out.mono hBr.size)).grown HG.out.2 (by omega) (fun k e => by cases e; omega)
                    case measure => simp [intOf]; omega
          · obtain rfl : k = len := by omega
            have HT := hid hto
            clear hto hset hop
            go_wp2
            go_ret
            exact ⟨by rw [okLB_true (okL_of (by rw [HL.out.1]; omega) (by rw [HL.out.1]; exact HL.out.2.1) (by rw [HL.out.1]; exact HL.out.2.2) HT.out)]; rfl, hBr⟩
      · rw [okLB_false (fun hk => hl16 (by rw [← hlen]; exact hk.2.1))]
        have t2 : decide (16 < (len : Int)) = true := decide_eq_true (by omega)
        have HI := hid hI
        clear hI hlv hlen hl16 hl1
        go_enter Tryd.func23, Tryd.ntmps23
        go_wp2
        go_ret
        exact ⟨rfl, HE.out⟩
    · rw [okLB_false (fun hk => hl1 (by rw [← hlen]; exact hk.1))]
      have t1 : decide ((len : Int) < 1) = true := decide_eq_true (by omega)
      have HI := hid hI
      clear hI hlv hlen hl1
      go_enter Tryd.func23, Tryd.ntmps23
      go_wp2
      go_ret
      exact ⟨rfl, HE.out⟩

end Go.Proofs.YtdhdfngaldfdjaaDoor.V
