/-
  Acts in a row: are they more than a law looks at?
-/
import Derived.Test.YtcioomlhdaihkaaGreatDoorNArg
import Derived.Deep.QuietTactic
import Derived.BigQuiet
import Derived.LoopTactic
import Derived.WalkKit
namespace Go.Proofs.YtcioomlhdaihkaaGreatDoor.L
set_option linter.unusedVariables false
set_option linter.unusedSimpArgs false
set_option maxRecDepth 100000
open Go Go.RowKit Go.ChangeShapes Go.WideShapes

/-- The bytes of an act, and of some. -/
def gw (x : ActM) : Nat := x.s.length + x.nam.length + wgt x.L
def tot9 (xs : List ActM) : Nat := (xs.map gw).sum
theorem gw_le (x : ActM) : gw x ≤ 6 * aw x := by
  have h : wgt x.L ≤ 6 * (x.L.map (fun t => t.length + 1)).sum := by
    generalize x.L = L
    induction L with
    | nil => simp [wgt]
    | cons t r ih => rw [wgt_cons, List.map_cons, List.sum_cons]; omega
  unfold gw aw
  omega
theorem tot9_take {xs : List ActM} {j : Nat} {x : ActM} (h : xs[j]? = some x) : tot9 (xs.take (j + 1)) = tot9 (xs.take j) + gw x := by
  rw [List.take_add_one, h]
  simp [tot9]
theorem tot9_le (xs : List ActM) (j : Nat) : tot9 (xs.take j) ≤ tot9 xs := by
  have : tot9 xs = tot9 (xs.take j) + tot9 (xs.drop j) := by unfold tot9; rw [← List.sum_append, ← List.map_append, List.take_append_drop]
  omega
theorem tot9_bulk {xs : List ActM} (h : (xs.map aw).sum ≤ 1048576) : tot9 xs ≤ 6291456 := by
  have h1 : tot9 xs ≤ 6 * (xs.map aw).sum := by
    clear h
    induction xs with
    | nil => simp [tot9]
    | cons x r ih =>
      have := gw_le x
      unfold tot9 at ih ⊢
      simp only [List.map_cons, List.sum_cons]
      omega
  omega
theorem acts_len {xs : List ActM} (h : (xs.map aw).sum ≤ 1048576) : xs.length ≤ 1048576 := by
  have : xs.length ≤ (xs.map aw).sum := by
    clear h
    induction xs with
    | nil => simp
    | cons x r ih => simp only [List.map_cons, List.sum_cons, List.length_cons]; unfold aw at ih ⊢; omega
  omega
theorem wgt_take {L : List Bs} {k : Nat} {t : Bs} (h : L[k]? = some t) : wgt (L.take (k + 1)) = wgt (L.take k) + (t.length + 6) := by
  rw [List.take_add_one, h, wgt_app]
  simp [wgt]
theorem wgt_take_le (L : List Bs) (k : Nat) : wgt (L.take k) ≤ wgt L := by
  have := wgt_app (L.take k) (L.drop k)
  rw [List.take_append_drop] at this
  omega
def GreatPost (w : World) (xs : List ActM) (e : Ending) (w' : World) : Prop := ∃ g : Bool, e = .returned (.bool g) ∧ Below w.heap.size w w' ∧ (g = false → xs.length ≤ 30 ∧ tot9 xs ≤ 800)
set_option maxHeartbeats 2000000 in
theorem law_great (w : World) (v : Value) (xs : List ActM) (hv : ActsV w v xs) : Calls Tryz.prog 8 #[v] w (GreatPost w xs) := by
  obtain ⟨⟨a, len, cap, rfl, hlen, hlc, hcap, hall, hat⟩, hsum⟩ := hv
  subst hlen
  have hlm : xs.length ≤ 1048576 := acts_len hsum
  have htot := tot9_bulk hsum
  have HT := hid htot
  have HAT := hid hat
  clear hall hat hsum htot
  go_enter Tryz.func8, Tryz.ntmps8
  go_wp2
  go_loopw [3, 4] (fun n i wr => ∃ j : Nat, j ≤ xs.length ∧ i = .int .i64 j ∧ n = .int .i64 (tot9 (xs.take j) : Nat) ∧ Hid (Below w.heap.size w wr)) (fun _ i _ => xs.length - (intOf i).toNat)
  case atStart => exact ⟨0, Nat.zero_le _, rfl, by simp [tot9], hid (Below.refl _ w)⟩
  case round =>
    obtain ⟨j, hj, rfl, rfl, HB⟩ := hrel
    by_cases hlt : j < xs.length
    · obtain ⟨x, hx⟩ : ∃ x, xs[j]? = some x := ⟨_, List.getElem?_eq_getElem hlt⟩
      obtain ⟨ad, rfl⟩ : ∃ ad, a = some ad := by
        cases a with
        | none => have h9 : xs.length = 0 := HAT.out; omega
        | some ad => exact ⟨ad, rfl⟩
      obtain ⟨B, O, sp, hA, hact⟩ := HAT.out j x hx
      have hact' := hact.keep HB.out
      obtain ⟨q0, ⟨lv, q1, hsv⟩, q3, q4⟩ := hact'
      have ht := tot9_take hx
      have hle := tot9_le xs (j + 1)
      have hbd := HT.out
      have hgw : gw x = x.s.length + x.nam.length + wgt x.L := rfl
      generalize hT0 : tot9 (xs.take j) = T0 at *
      have hs0 : x.s.length ≤ 6291456 := by omega
      have hn0 : x.nam.length ≤ 6291456 := by omega
      have hz1 : (ba x.s).size = x.s.length := ba_size x.s
      have hz2 : (ba x.nam).size = x.nam.length := ba_size x.nam
      have hT1 : T0 ≤ 6291456 := by omega
      obtain ⟨ad2, len2, cap2, rfl, hI⟩ := hsv
      have hl2 := hI.hlen
      have hlw := wgt_len x.L
      have hm2 : len2 ≤ 6291456 := by omega
      have hw0 : wgt x.L ≤ 6291456 := by omega
      have hw1 : IntKind.i64.wrap (IntKind.i64.wrap ((T0 : Int) + (x.s.length : Int)) + (x.nam.length : Int)) = ((T0 + x.s.length + x.nam.length : Nat) : Int) := by
        rw [IntWalk.i64_in ((T0 : Int) + (x.s.length : Int)) ⟨by omega, by omega⟩, IntWalk.i64_in _ ⟨by omega, by omega⟩]; omega
      have hbig : T0 + x.s.length + x.nam.length + wgt x.L ≤ 6291456 := by omega
      have HI := hid hI
      have HQ1 := hid q1
      have HT2 := hid (show tot9 (xs.take (j + 1)) = T0 + x.s.length + x.nam.length + wgt x.L by omega)
      have hltw : B < wr.heap.size := acell_lt q1
      clear hact hx ht hgw hle hbd hI
      obtain ⟨wo, hwo⟩ : ∃ wo, wo = wr := ⟨_, rfl⟩
      subst hwo
      go_wp2
      go_quiet (fail)
      go_wp2
      go_loopw [3, 5] (fun n k wq => ∃ i : Nat, i ≤ len2 ∧ k = .int .i64 i ∧ n = .int .i64 (T0 + x.s.length + x.nam.length + wgt (x.L.take i) : Nat) ∧ Hid (Below wo.heap.size wo wq)) (fun _ k _ => len2 - (intOf k).toNat)
      case atStart => exact ⟨0, Nat.zero_le _, rfl, by simp [wgt], hid ⟨rfl, rfl, rfl, Nat.le_refl _, fun _ _ => rfl⟩⟩
      case round =>
        obtain ⟨i, hi, rfl, rfl, HBQ⟩ := hrel
        have c1 : wr.cell? ⟨B, O + 1, none⟩ = some (.slice ad2 len2 cap2) := (HBQ.out.cell (p := ⟨B, O + 1, none⟩) hltw).trans HQ1.out
        by_cases hil : i < len2
        · obtain ⟨ad3, rfl⟩ : ∃ ad3, ad2 = some ad3 := by
            cases ad2 with
            | none => have := (HI.out.hnil rfl).1; omega
            | some ad => exact ⟨ad, rfl⟩
          obtain ⟨y, hy, hcy⟩ := HI.out.at hil
          have hcy2 : wr.cell? (ad3.add i) = some (.string (ba y)) := (HBQ.out.cell (acell_lt hcy)).trans hcy
          have hwt := wgt_take hy
          have hwl := wgt_take_le x.L (i + 1)
          have hzy : (ba y).size = y.length := ba_size y
          have hyl : y.length ≤ 6291456 := by omega
          generalize hW0 : wgt (x.L.take i) = W0 at *
          have hW9 : W0 ≤ 6291456 := by omega
          have hw3 : IntKind.i64.wrap (IntKind.i64.wrap (((T0 + x.s.length + x.nam.length + W0 : Nat) : Int) + (y.length : Int)) + 6) = ((T0 + x.s.length + x.nam.length + (W0 + (y.length + 6)) : Nat) : Int) := by
            rw [IntWalk.i64_in (((T0 + x.s.length + x.nam.length + W0 : Nat) : Int) + (y.length : Int)) ⟨by omega, by omega⟩, IntWalk.i64_in _ ⟨by omega, by omega⟩]; omega
          have HWT := hid hwt
          clear hy hcy hwt hwl hW0
          go_wp2
          exact ⟨⟨i + 1, hil, by go_num, by rw [HWT.out]; congr 1; omega, HBQ⟩, by simp [intOf]; omega⟩
        · obtain rfl : i = len2 := by omega
          have hfull : wgt (x.L.take i) = wgt x.L := by rw [List.take_of_length_le (by omega)]
          rw [hfull]
          have HT3 := HT2.out
          go_wp2
          go_roundw
          case rel => exact ⟨j + 1, hlt, by go_num, by rw [HT3], hid (HB.out.trans (HBQ.out.mono HB.out.size))⟩
          case measure => simp [intOf]; omega
    · obtain rfl : j = xs.length := by omega
      have hbd := HT.out
      rw [List.take_length]
      by_cases h30 : xs.length ≤ 30
      · have d1 : decide ((30 : Int) < (xs.length : Int)) = false := decide_eq_false (by omega)
        by_cases h800 : tot9 xs ≤ 800
        · have d2 : decide ((800 : Int) < (tot9 xs : Int)) = false := decide_eq_false (by omega)
          have HH := hid (show xs.length ≤ 30 ∧ tot9 xs ≤ 800 from ⟨h30, h800⟩)
          clear h30 h800
          go_wp2
          go_ret
          exact ⟨false, rfl, HB.out, fun _ => HH.out⟩
        · have d2 : decide ((800 : Int) < (tot9 xs : Int)) = true := decide_eq_true (by omega)
          clear h30 h800
          go_wp2
          go_ret
          exact ⟨true, rfl, HB.out, fun h => by cases h⟩
      · have d1 : decide ((30 : Int) < (xs.length : Int)) = true := decide_eq_true (by omega)
        clear h30
        go_wp2
        go_ret
        exact ⟨true, rfl, HB.out, fun h => by cases h⟩
end Go.Proofs.YtcioomlhdaihkaaGreatDoor.L
