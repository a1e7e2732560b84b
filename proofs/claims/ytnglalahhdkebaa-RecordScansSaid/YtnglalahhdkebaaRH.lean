/-
  Rows of strings that are the same; texts that are more than a statement looks at.
-/
import Derived.Test.YtnglalahhdkebaaRG
namespace Go.Proofs.Ytnglalahhdkebaa.Q
set_option linter.unusedVariables false
set_option linter.unusedSimpArgs false
set_option maxRecDepth 100000
open Go Go.RowKit Wire

set_option maxHeartbeats 1000000 in
theorem ref_Same (l m : List Bs) (v u : Value) (w : World) (hv : SV w v l) (hu : SV w u m) :
    Calls Try.prog 15 #[v, u] w fun e w' => e = .returned (.bool (decide (l = m))) ∧ Below w.heap.size w w' := by
  obtain ⟨ad, len, cap, rfl, hI⟩ := hv
  obtain ⟨bd, len2, cap2, rfl, hJ⟩ := hu
  have hm : len ≤ 9223372036854775807 := by have h1 := hI.hle; have h2 := hI.hmax; unfold maxLen at h2; omega
  have hm2 : len2 ≤ 9223372036854775807 := by have h1 := hJ.hle; have h2 := hJ.hmax; unfold maxLen at h2; omega
  have HI := hid hI
  have HJ := hid hJ
  clear hI hJ
  by_cases hne : len = len2
  · subst hne
    go_enter Try.func15, Try.ntmps15
    go_wp2
    go_loopw [5] (fun i wr => ∃ k : Nat, k ≤ len ∧ i = .int .i64 k ∧ Hid (l.take k = m.take k) ∧ Hid (Below w.heap.size w wr)) (fun i _ => len - (intOf i).toNat)
    case atStart => exact ⟨0, by omega, rfl, hid rfl, hid (Below.refl _ _)⟩
    case round =>
      obtain ⟨k, hk, rfl, HE, HB⟩ := hrel
      by_cases hlt : k < len
      · cases ad with
        | none => have := (HI.out.hnil rfl).1; omega
        | some ad =>
        cases bd with
        | none => have := (HJ.out.hnil rfl).1; omega
        | some bd =>
          obtain ⟨x, hx, hc⟩ := (HI.out.keep HB.out).at hlt
          obtain ⟨y, hy, hd⟩ := (HJ.out.keep HB.out).at hlt
          have hcd : wr.drew.cell? (ad.add k) = some (.string (ba x)) := hc
          have hdd : wr.drew.cell? (bd.add k) = some (.string (ba y)) := hd
          have hcmp := beq_ba x y
          have HX := hid hx
          have HY := hid hy
          clear hx hy
          by_cases hxy : x = y
          · rw [decide_eq_true hxy] at hcmp
            have HXY := hid hxy
            clear hxy
            go_wp2
            go_region
            all_goals
              go_wp2
              go_roundw
              case rel =>
                refine ⟨k + 1, by omega, by go_num, hid ?_, hid HB.out.drew⟩
                rw [List.take_add_one, List.take_add_one, HX.out, HY.out, HXY.out, HE.out]
              case measure => simp [intOf]; omega
          · rw [decide_eq_false hxy] at hcmp
            have HXY := hid hxy
            clear hxy
            go_wp2
            go_region
            all_goals
              go_wp2
              go_ret
              refine ⟨?_, HB.out.drew⟩
              have : ¬ l = m := fun e => HXY.out (by
                have h1 := HX.out
                rw [e, HY.out] at h1
                exact (Option.some.inj h1).symm)
              rw [decide_eq_false this]
              rfl
      · obtain rfl : k = len := by omega
        go_wp2
        go_ret
        have : l = m := by
          have h1 := HE.out
          rw [List.take_of_length_le (by rw [HI.out.hlen]; omega), List.take_of_length_le (by rw [HJ.out.hlen]; omega)] at h1
          exact h1
        refine ⟨?_, HB.out⟩
        rw [decide_eq_true this]
        rfl
  · have h1 : ¬ l = m := fun e => hne (by rw [← HI.out.hlen, ← HJ.out.hlen, e])
    rw [decide_eq_false h1]
    have hne2 : ¬ (len : Int) = (len2 : Int) := by omega
    go_enter Try.func15, Try.ntmps15
    go_wp2
    go_ret
    exact ⟨rfl, Below.refl _ _⟩

/-! ### Great -/
def tot (l : List Bs) : Nat := (l.map List.length).sum
theorem tot_take {l : List Bs} {k : Nat} {x : Bs} (h : l[k]? = some x) : tot (l.take (k + 1)) = tot (l.take k) + x.length := by
  rw [List.take_add_one, h]; simp [tot]
theorem tot_bound {l : List Bs} {B : Nat} (h : ∀ x ∈ l, x.length ≤ B) : tot l ≤ l.length * B := by
  induction l with
  | nil => simp [tot]
  | cons y r ih =>
    have h1 := ih (fun x hx => h x (List.mem_cons_of_mem _ hx))
    have h2 := h y (List.mem_cons_self ..)
    unfold tot at h1 ⊢
    rw [List.map_cons, List.sum_cons, List.length_cons, Nat.succ_mul]
    omega
theorem mem_tot {l : List Bs} {x : Bs} (h : x ∈ l) : x.length ≤ tot l := by
  induction l with
  | nil => cases h
  | cons y r ih =>
    unfold tot
    rw [List.map_cons, List.sum_cons]
    rcases List.mem_cons.1 h with rfl | h
    · omega
    · have := ih h
      unfold tot at this
      omega
theorem row_tot (l : List Bs) (h : ∀ x ∈ l, x.length ≤ 65536) : (rowB l).length ≤ tot l + 8 * l.length := by
  induction l with
  | nil => simp [rowB]
  | cons y r ih =>
    have h1 := ih (fun x hx => h x (List.mem_cons_of_mem _ hx))
    have h2 := enc_le4 (h y (List.mem_cons_self ..))
    rw [rowB_cons, List.length_append, record_length, List.length_cons]
    unfold tot at h1 ⊢
    rw [List.map_cons, List.sum_cons]
    omega
def GreatPost (w : World) (l : List Bs) (e : Ending) (w' : World) : Prop := ∃ g : Bool, e = .returned (.bool g) ∧ Below w.heap.size w w' ∧ (g = false → l.length ≤ 60 ∧ tot l ≤ 2500)
set_option maxHeartbeats 1000000 in
theorem law_great (w : World) (v : Value) (l : List Bs) (hv : SV w v l) (hsm : ∀ x ∈ l, x.length ≤ 140737488355328) : Calls Try.prog 7 #[v] w (GreatPost w l) := by
  obtain ⟨ad, len, cap, rfl, hI⟩ := hv
  have hm : len ≤ 9223372036854775807 := by have h1 := hI.hle; have h2 := hI.hmax; unfold maxLen at h2; omega
  have HI := hid hI
  have HS := hid hsm
  clear hI hsm
  go_enter Try.func7, Try.ntmps7
  go_wp2
  go_loopw [3, 4] (fun n i wr => ∃ (j : Nat) (z : Int), j ≤ len ∧ i = .int .i64 j ∧ n = .int .i64 z ∧ Hid (Below w.heap.size w wr) ∧ Hid (len ≤ 60 → z = (tot (l.take j) : Int))) (fun _ i _ => len - (intOf i).toNat)
  case atStart => exact ⟨0, 0, Nat.zero_le _, rfl, rfl, hid (Below.refl _ w), hid (fun _ => by simp [tot])⟩
  case round =>
    obtain ⟨j, z, hj, rfl, rfl, HB, HZ⟩ := hrel
    by_cases hlt : j < len
    · cases ad with
      | none => have := (HI.out.hnil rfl).1; omega
      | some ad =>
      obtain ⟨x, hx, hc⟩ := (HI.out.keep HB.out).at hlt
      have hxs : (ba x).size = x.length := ba_size x
      have hxl := HS.out x (List.mem_of_getElem? hx)
      have hnew : len ≤ 60 → IntKind.i64.wrap (z + (x.length : Int)) = (tot (l.take (j + 1)) : Int) := fun h60 => by
        have hz := HZ.out h60
        have ht := tot_take hx
        have hbd := tot_bound (l := l.take j) (B := 140737488355328) (fun y hy => HS.out y (List.mem_of_mem_take hy))
        have hl : (l.take j).length ≤ 60 := by rw [List.length_take, HI.out.hlen]; omega
        have h1 : tot (l.take j) ≤ 60 * 140737488355328 := Nat.le_trans hbd (Nat.mul_le_mul_right _ hl)
        rw [IntWalk.i64_in _ ⟨by omega, by omega⟩]
        omega
      have HNEW := hid hnew
      clear hx hnew
      go_wp2
      go_roundw
      case rel => exact ⟨j + 1, _, hlt, by go_num, rfl, HB, hid (fun h60 => by first | exact HNEW.out h60 | (rw [← IntWalk.i64_left]; exact HNEW.out h60))⟩
      case measure => simp [intOf]; omega
    · obtain rfl : j = len := by omega
      by_cases h60 : j ≤ 60
      · have hz := HZ.out h60
        rw [List.take_of_length_le (by rw [HI.out.hlen]; omega)] at hz
        have d1 : decide ((60 : Int) < (j : Int)) = false := decide_eq_false (by omega)
        by_cases h2500 : tot l ≤ 2500
        · have d2 : decide ((2500 : Int) < z) = false := decide_eq_false (by omega)
          have HH := hid (show l.length ≤ 60 ∧ tot l ≤ 2500 from ⟨by rw [HI.out.hlen]; exact h60, h2500⟩)
          clear hz h60 h2500
          go_wp2
          go_ret
          exact ⟨false, rfl, HB.out, fun _ => HH.out⟩
        · have d2 : decide ((2500 : Int) < z) = true := decide_eq_true (by omega)
          clear hz h60 h2500
          go_wp2
          go_ret
          exact ⟨true, rfl, HB.out, fun h => by cases h⟩
      · have d1 : decide ((60 : Int) < (j : Int)) = true := decide_eq_true (by omega)
        clear h60
        go_wp2
        go_ret
        exact ⟨true, rfl, HB.out, fun h => by cases h⟩
end Go.Proofs.Ytnglalahhdkebaa.Q
