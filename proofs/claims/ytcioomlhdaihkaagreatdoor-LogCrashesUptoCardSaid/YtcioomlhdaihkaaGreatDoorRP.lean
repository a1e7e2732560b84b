/-
  Contracts of package record and of the document's record: what is put.
-/
import Derived.Test.YtcioomlhdaihkaaGreatDoorWR
namespace Go.Proofs.YtcioomlhdaihkaaGreatDoor.Q
set_option linter.unusedVariables false
set_option linter.unusedSimpArgs false
set_option maxRecDepth 100000
open Go Go.RowKit Wire

set_option maxRecDepth 100000
set_option linter.unusedVariables false
set_option linter.unusedSimpArgs false
theorem below_next {A B C : World} (h : Below A.heap.size A B) (k : Below B.heap.size B C) : Below A.heap.size A C := h.trans (k.mono h.size)
theorem add_block (a : Addr) (i : Nat) : (a.add i).block = a.block := by unfold Addr.add; split <;> rfl

set_option maxHeartbeats 1000000 in
theorem bu_String_none (B b : Nat) (w : World) (hbk : w.heap[b]? = some (.cells #[.pointer none, .slice none 0 0] 102 (0, 0))) :
    Calls Tryz.prog 77 #[.pointer (some ⟨b, 0, none⟩)] w fun e w' => e = .returned (.string (ba [])) ∧ Below B w w' := by
  have hUS : ∀ W, (Builtin.unsafeString_ #[114, 3] 9 #[.pointer none, .int .i64 0]).run Tryz.prog W = .ok (.string .empty) W := fun W => Lib.run_unsafeString_none W _ _ _ none
  have c1 : w.drew.cell? ⟨b, 1, none⟩ = some (.slice none 0 0) := by
    have : w.drew.heap[b]? = some (.cells #[.pointer none, .slice none 0 0] 102 (0, 0)) := hbk
    exact (cell_of_heap this).trans rfl
  have hSD : (Builtin.unsafeSliceData_ #[83] 114 #[.slice none 0 0]).run Tryz.prog w.drew = .ok (.pointer none) w.drew := rfl
  go_enter Tryz.func77, Tryz.ntmps77
  go_wp2
  go_region
  all_goals (go_wp2; go_ret; exact ⟨rfl, Below.drew (Below.refl B w)⟩)

/-- A slice of strings. -/
structure IsSV (w : World) (ad : Option Addr) (len cap : Nat) (l : List Bs) : Prop where
  hlen : l.length = len
  hle : len ≤ cap
  hmax : cap ≤ maxLen
  hnil : ad = none → len = 0 ∧ cap = 0
  hcell : ∀ i x, l[i]? = some x → ∃ a, ad = some a ∧ w.cell? (a.add i) = some (.string (ba x))
def SV (w : World) (v : Value) (l : List Bs) : Prop := ∃ ad len cap, v = .slice ad len cap ∧ IsSV w ad len cap l
theorem IsSV.keep {w w' : World} {ad : Option Addr} {len cap : Nat} {l : List Bs} (h : IsSV w ad len cap l) (hb : Below w.heap.size w w') : IsSV w' ad len cap l :=
  ⟨h.hlen, h.hle, h.hmax, h.hnil, fun i x hx => by
    obtain ⟨a, ha, hc⟩ := h.hcell i x hx
    exact ⟨a, ha, (hb.cell (World.block_lt_of_cell? w _ hc)).trans hc⟩⟩
theorem SV.keep {w w' : World} {v : Value} {l : List Bs} (h : SV w v l) (hb : Below w.heap.size w w') : SV w' v l := by
  obtain ⟨ad, len, cap, rfl, h⟩ := h
  exact ⟨ad, len, cap, rfl, h.keep hb⟩
theorem SV.nil (w : World) : SV w (.slice none 0 0) [] := ⟨none, 0, 0, rfl, rfl, Nat.le_refl _, Nat.zero_le _, fun _ => ⟨rfl, rfl⟩, fun i x hx => by simp at hx⟩
theorem IsSV.at {w : World} {ad : Addr} {len cap : Nat} {l : List Bs} (h : IsSV w (some ad) len cap l) {k : Nat} (hk : k < len) : ∃ x, l[k]? = some x ∧ w.cell? (ad.add k) = some (.string (ba x)) := by
  have hkl : k < l.length := by rw [h.hlen]; exact hk
  refine ⟨l[k], List.getElem?_eq_getElem hkl, ?_⟩
  obtain ⟨a, ha, hc⟩ := h.hcell k _ (List.getElem?_eq_getElem hkl)
  cases ha
  exact hc

/-! ### What is too long -/
theorem record_tooLong (x : Bs) (hx : x.length ≤ 1000000) (w : World) :
    Calls Tryz.prog 71 #[.string (ba x)] w fun e w' => e = .returned (.bool (decide (65536 < x.length))) ∧ w = w' := by
  have hs : (ba x).size = x.length := ba_size x
  have hd : decide ((65536 : Int) < (x.length : Int)) = decide (65536 < x.length) := decide_eq_decide.2 ⟨fun h => by omega, fun h => by omega⟩
  go_enter Tryz.func71, Tryz.ntmps71
  go_wp2
  go_ret
  exact ⟨by first | rfl | (rw [hd]) | (simp [hd]), rfl⟩

def long (l : List Bs) : Bool := l.any (fun x => decide (65536 < x.length))
def tlV : Value := .func (.func 71) #[] #[]
set_option maxHeartbeats 400000 in
theorem sl_IndexFunc (l : List Bs) (v : Value) (w : World) (hv : SV w v l) (hsm : ∀ x ∈ l, x.length ≤ 1000000) :
    Calls Tryz.prog 91 #[v, tlV] w fun e w' => ∃ r : Int, e = .returned (.int .i64 r) ∧ decide (0 ≤ r) = long l ∧ Below w.heap.size w w' := by
  obtain ⟨ad, len, cap, rfl, hI⟩ := hv
  have HI := hid hI
  have HS := hid hsm
  have hm : len ≤ 9223372036854775807 := by have h1 := hI.hle; have h2 := hI.hmax; unfold maxLen at h2; omega
  clear hI hsm
  unfold tlV
  go_enter Tryz.func91, Tryz.ntmps91
  go_wp2
  go_loopw [8] (fun i wr => ∃ k : Nat, k ≤ len ∧ i = .int .i64 k ∧ Hid (Below w.heap.size w wr) ∧ Hid (∀ j x, j < k → l[j]? = some x → x.length ≤ 65536)) (fun i _ => len - (intOf i).toNat)
  case atStart => exact ⟨0, by omega, rfl, hid (Below.refl _ _), hid (fun j b h => by omega)⟩
  case round =>
    obtain ⟨k, hk, rfl, HB, HA⟩ := hrel
    by_cases hlt : k < len
    · cases ad with
      | none => have := (HI.out.hnil rfl).1; omega
      | some ad =>
        obtain ⟨x, hx, hc⟩ := (HI.out.keep HB.out).at hlt
        have ht := record_tooLong x (HS.out x (List.mem_of_getElem? hx)) wr
        have HX := hid hx
        clear hx
        cases hb : decide (65536 < x.length) with
        | false =>
          rw [hb] at ht
          have HBB := hid hb
          clear hb
          go_wp2_with (go_at_call 71; (with_reducible refine ht.mono ?_); rintro e w1 ⟨rfl, rfl⟩)
          go_roundw
          case rel =>
            refine ⟨k + 1, by omega, by go_num, HB, hid (fun j y hj hy => ?_)⟩
            by_cases e : j = k
            · subst e
              rw [HX.out] at hy
              cases hy
              have := of_decide_eq_false HBB.out
              omega
            · exact HA.out j y (by omega) hy
          case measure => simp [intOf]; omega
        | true =>
          rw [hb] at ht
          have HBB := hid hb
          clear hb
          go_wp2_with (go_at_call 71; (with_reducible refine ht.mono ?_); rintro e w1 ⟨rfl, rfl⟩)
          go_ret
          refine ⟨k, rfl, ?_, HB.out⟩
          rw [decide_eq_true (by omega)]
          exact (List.any_eq_true.2 ⟨x, List.mem_of_getElem? HX.out, HBB.out⟩).symm
    · obtain rfl : k = len := by omega
      go_wp2
      go_ret
      refine ⟨-1, rfl, ?_, HB.out⟩
      refine (List.any_eq_false.2 fun x hx => ?_).symm
      obtain ⟨j, hj⟩ := List.getElem?_of_mem hx
      have := HA.out j x (by rw [← HI.out.hlen]; exact (List.getElem?_eq_some_iff.1 hj).1) hj
      simp; omega

theorem sl_ContainsFunc (l : List Bs) (v : Value) (w : World) (hv : SV w v l) (hsm : ∀ x ∈ l, x.length ≤ 1000000) :
    Calls Tryz.prog 70 #[v, tlV] w fun e w' => e = .returned (.bool (long l)) ∧ Below w.heap.size w w' := by
  have h := sl_IndexFunc l v w hv hsm
  obtain ⟨ad, len, cap, rfl, hI⟩ := hv
  have HI := hid hI
  clear hI
  unfold tlV at *
  go_enter Tryz.func70, Tryz.ntmps70
  go_wp2_with (go_at_call 91; refine h.mono ?_; rintro e w1 ⟨r, rfl, hr, hb⟩)
  go_ret
  exact ⟨by rw [← hr]; rfl, hb⟩

/-! ### A record -/
theorem encT_len (x : Bs) (h : x.length ≤ 1000000) : (encT x).length ≤ x.length + 9 := by
  unfold encT; rw [List.length_append]; have := enc_len (n := x.length) (by omega); omega
theorem sealed_ba (l : Bs) : ba l ++ S.lowB (Crc.sum (ba l).data.toList) = ba (Crc.sealed l) := by
  apply S.toList_inj
  rw [S.sealedB_list, ba_list, ba_list]
theorem row_take_le {l : List Bs} {N : Nat} (h : (rowB l).length ≤ N) (k : Nat) : (rowB (l.take k)).length ≤ N := Nat.le_trans (row_len_le k) h
theorem record_le {l : List Bs} {N : Nat} (h : (rowB l).length ≤ N) {k : Nat} {x : Bs} (hx : l[k]? = some x) : (rowB (l.take k)).length + (record x).length ≤ N := by
  have := row_take_le h (k + 1)
  rw [rowB_take_succ hx, List.length_append] at this
  exact this
theorem text_le {l : List Bs} {N : Nat} (h : (rowB l).length ≤ N) {k : Nat} {x : Bs} (hx : l[k]? = some x) : x.length ≤ N := by
  have := record_le h hx
  rw [record_length] at this
  omega

set_option maxHeartbeats 1000000 in
theorem record_Put_ok (l : List Bs) (v : Value) (w : World) (hv : SV w v l) (hsm : ∀ x ∈ l, x.length ≤ 65536) (hN : (rowB l).length ≤ 900000) :
    Calls Tryz.prog 49 #[v] w fun e w' => e = .returned (.tuple #[.string (ba (rowB l)), .int .i64 0]) ∧ Below w.heap.size w w' := by
  have hlong : long l = false := List.any_eq_false.2 fun x hx => by have := hsm x hx; simp; omega
  have hcf := sl_ContainsFunc l v w hv (fun x hx => by have := hsm x hx; omega)
  rw [hlong] at hcf
  unfold tlV at hcf
  obtain ⟨ad, len, cap, rfl, hI⟩ := hv
  have hm : len ≤ 9223372036854775807 := by have h1 := hI.hle; have h2 := hI.hmax; unfold maxLen at h2; omega
  have HI := hid hI
  have HS := hid hsm
  have HN := hid hN
  clear hI hsm hlong hN
  go_enter Tryz.func49, Tryz.ntmps49
  go_wp2_with (go_at_call 70; refine hcf.mono ?_; rintro e w0 ⟨rfl, hb0⟩)
  have hb00 : Below w.heap.size w (w0.alloc (.cells #[.pointer none, .slice none 0 0] 102)) := hb0.alloc hb0.size _
  have hbu := (BuAt.new w0)
  have hfr : (w0.alloc (.cells #[.pointer none, .slice none 0 0] 102)).heap[w0.heap.size]? = some (.cells #[.pointer none, .slice none 0 0] 102 (0, 0)) := heap_alloc_last _ _
  go_loopw [12] (fun i wr => ∃ k : Nat, k ≤ len ∧ i = .int .i64 k ∧ Hid (Below w.heap.size w wr) ∧ Hid (BuAt wr w.heap.size w0.heap.size (rowB (l.take k))) ∧ Hid (k = 0 → wr.heap[w0.heap.size]? = some (.cells #[.pointer none, .slice none 0 0] 102 (0, 0)))) (fun i _ => len - (intOf i).toNat)
  case atStart => exact ⟨0, by omega, rfl, hid hb00, hid (hbu.mono hb0.size), hid (fun _ => hfr)⟩
  case round =>
    obtain ⟨k, hk, rfl, HB, HU, HF⟩ := hrel
    by_cases hlt : k < len
    · cases ad with
      | none => have := (HI.out.hnil rfl).1; omega
      | some ad =>
        obtain ⟨x, hx, hc⟩ := (HI.out.keep HB.out).at hlt
        have hx65 := HS.out x (List.mem_of_getElem? hx)
        have hxl : (rowB (l.take k)).length ≤ 900000 ∧ (record x).length ≤ 900000 := by have := record_le HN.out hx; omega
        have HX := hid hx
        have hseal : ∀ W, Calls Tryz.prog 75 #[.string (ba ([] ++ encT x))] W fun e w' => e = .returned (.string (ba (record x))) ∧ Below W.heap.size W w' := fun W => by
          rw [List.nil_append]
          have := S.sum_Seal (ba (encT x)) (by rw [ba_size]; have := encT_len x (by omega); omega) W
          rwa [sealed_ba] at this
        have htext := wire_put_Text (wr.alloc (.cells #[.slice none 0 0, .bool true] 130)) wr.heap.size wr.heap.size (ba x) [] (WAt.at_nil _ _ _ (heap_alloc_last _ _)) (by simp) (by simp) (by rw [ba_size]; omega)
        rw [ba_list] at htext
        have hwr : w.heap.size ≤ wr.heap.size := HB.out.size
        clear hx
        go_wp2_with (first
          | (go_at_call 72; refine (wire_New _).mono ?_; rintro e w1 ⟨rfl, rfl⟩)
          | (go_at_call 73; refine htext.mono ?_; rintro e w2 ⟨rfl, hw2, hk2⟩; have HK2 := hid hk2; clear hk2)
          | (go_at_call 76; refine (wire_Bytes _ _ _ _ hw2).mono ?_; rintro e w3 ⟨rfl, rfl⟩)
          | (go_at_call 75; refine (hseal _).mono ?_; rintro e w4 ⟨rfl, hb4⟩
             have hb24 : Below wr.heap.size wr w4 := ((((Below.refl _ wr).alloc (Nat.le_refl _) _).trans (HK2.out.below (fun j e => by cases e; exact Nat.le_refl _)))).trans (hb4.mono (by have h5 := HK2.out.size; simp at h5; omega))
             have HB24 := hid hb24; have hu4 := HU.out.below hb24; clear hb24 hb4)
          | (go_at_call 74; refine (bu_WriteString w.heap.size w0.heap.size _ (record x) w4 hu4 (Nat.le_trans hwr HB24.out.size) (by omega) (by omega)).mono ?_; rintro e w5 ⟨rfl, hu5, hb5⟩; have HU5 := hid hu5; have HB5 := hid hb5; clear hu5 hb5))
        go_roundw
        case rel =>
          refine ⟨k + 1, by omega, by go_num, hid ((HB.out.trans (HB24.out.mono hwr)).trans HB5.out), ?_, hid (fun h => by omega)⟩
          rw [rowB_take_succ HX.out]
          exact HU5
        case measure => simp [intOf]; omega
    · obtain rfl : k = len := by omega
      have hlk : l.take l.length = l := List.take_length
      rw [← HI.out.hlen, hlk] at HU
      by_cases hl0 : l = []
      · have hf := HF.out (by rw [← HI.out.hlen, hl0]; rfl)
        have hstr := bu_String_none w.heap.size w0.heap.size wr hf
        clear hf
        go_wp2_with (go_at_call 77; refine hstr.mono ?_; rintro e w5 ⟨rfl, hb5⟩)
        go_ret2
        exact ⟨by rw [hl0]; rfl, HB.out.trans hb5⟩
      · have hne : rowB l ≠ [] := fun h => by
          cases l with
          | nil => exact hl0 rfl
          | cons t r => rw [rowB_cons] at h; have := record_pos t; have h2 := congrArg List.length h; rw [List.length_append, List.length_nil] at h2; omega
        have hstr := bu_String_some w.heap.size w0.heap.size _ wr HU.out hne
        clear hne hl0
        go_wp2_with (go_at_call 77; refine hstr.mono ?_; rintro e w5 ⟨rfl, hb5⟩)
        go_ret2
        exact ⟨rfl, HB.out.trans hb5⟩

theorem record_Put_long (l : List Bs) (v : Value) (w : World) (hv : SV w v l) (hsm : ∀ x ∈ l, x.length ≤ 1000000) (hlong : long l = true) :
    Calls Tryz.prog 49 #[v] w fun e w' => e = .returned (.tuple #[.string (ba []), .int .i64 3]) ∧ Below w.heap.size w w' := by
  have hcf := sl_ContainsFunc l v w hv hsm
  rw [hlong] at hcf
  unfold tlV at hcf
  obtain ⟨ad, len, cap, rfl, hI⟩ := hv
  have HI := hid hI
  clear hI hsm hlong
  go_enter Tryz.func49, Tryz.ntmps49
  go_wp2_with (go_at_call 70; refine hcf.mono ?_; rintro e w0 ⟨rfl, hb0⟩)
  go_ret2
  exact ⟨rfl, hb0⟩
end Go.Proofs.YtcioomlhdaihkaaGreatDoor.Q
