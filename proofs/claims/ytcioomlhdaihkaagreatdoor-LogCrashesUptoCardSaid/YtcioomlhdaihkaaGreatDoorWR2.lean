/-
  Contracts of the document's record: records one by one, what is scanned.
-/
import Derived.Test.YtcioomlhdaihkaaGreatDoorRE
namespace Go.Proofs.YtcioomlhdaihkaaGreatDoor.Q
set_option linter.unusedVariables false
set_option linter.unusedSimpArgs false
set_option maxRecDepth 100000
open Go Go.RowKit Wire

set_option maxRecDepth 100000
set_option linter.unusedVariables false
set_option linter.unusedSimpArgs false
/-! ### What is put -/
/-! ### The first record -/
def firstRes (s : Bs) : Array Value := match first s with
  | some (t, k) => #[.string (ba t), .int .i64 (k : Nat)]
  | none => #[.string (ba []), .int .i64 0]
end Go.Proofs.YtcioomlhdaihkaaGreatDoor.Q

namespace Go.Proofs.YtcioomlhdaihkaaGreatDoor.Q
set_option linter.unusedVariables false
set_option linter.unusedSimpArgs false
set_option maxRecDepth 100000
open Go Go.RowKit Wire

set_option maxRecDepth 100000
set_option linter.unusedVariables false
set_option linter.unusedSimpArgs false
/-! ### Rows of strings that the call makes -/
def strCells (l : List Bs) : List Value := l.map fun x => .string (ba x)
theorem strCells_length (l : List Bs) : (strCells l).length = l.length := by simp [strCells]
theorem strCells_snoc (l : List Bs) (x : Bs) : strCells (l ++ [x]) = strCells l ++ [.string (ba x)] := by simp [strCells]
def OutV (w : World) (B : Nat) (v : Value) (l : List Bs) : Prop := w.ownsRow B 9 1 v l.length (strCells l)
theorem str_info : (Tryz.prog.info? 9).map (fun i => (i.zero, i.size, i.bytes)) = some (some (.string ⟨#[]⟩), 1, 16) := by kernel_rfl
theorem OutV.sv {w : World} {B : Nat} {v : Value} {l : List Bs} (h : OutV w B v l) : SV w v l := by
  rcases h.2 with ⟨rfl, h0⟩ | ⟨g, cap, cur, rfl, hB, hg, h1, h2, _⟩
  · have : l = [] := List.eq_nil_of_length_eq_zero h0
    subst this
    exact SV.nil w
  · refine ⟨_, _, cap, rfl, rfl, h1, h2, fun h => (by cases h), fun i x hx => ⟨_, rfl, ?_⟩⟩
    exact h.cells (g := g) rfl i _ (by simp [strCells, hx])
theorem out_form {w : World} {B : Nat} {v : Value} {n : Nat} {xs : List Value} (h : w.ownsRow B 9 1 v n xs) : ∃ p c, v = .slice p n c := by
  rcases h.2 with ⟨rfl, rfl⟩ | ⟨g', cap, cur, rfl, _⟩
  · exact ⟨_, _, rfl⟩
  · exact ⟨_, _, rfl⟩
theorem OutV.below {w w' : World} {B : Nat} {v : Value} {l : List Bs} (h : OutV w B v l) (hb : Below w.heap.size w w') : OutV w' B v l := by
  refine ⟨h.1, ?_⟩
  rcases h.2 with hn | ⟨g', cap, cur, rfl, hB', hgg, rest⟩
  · exact .inl hn
  · exact .inr ⟨g', cap, cur, rfl, hB', (hb.block g' (lt_of_some hgg)).trans hgg, rest⟩

theorem scan_bound {s : Bs} {l : List Bs} {rest : Bs} (h : IsScan s l rest) (k : Nat) : (rowB (l.take k)).length ≤ s.length := by
  have := scan_len h; have := row_len_le (l := l) k; omega
theorem row_count (l : List Bs) : 5 * l.length ≤ (rowB l).length := by
  induction l with
  | nil => simp [rowB]
  | cons t r ih => rw [rowB_cons, List.length_append, List.length_cons]; have := record_pos t; omega
theorem stB_le (s : Bs) : stB s ≤ 2 := by unfold stB; split; omega; split <;> omega

end Go.Proofs.YtcioomlhdaihkaaGreatDoor.Q

namespace Go.Proofs.YtcioomlhdaihkaaGreatDoor.Q
set_option linter.unusedVariables false
set_option linter.unusedSimpArgs false
set_option maxRecDepth 100000
open Go Go.RowKit Wire

set_option maxRecDepth 100000
set_option linter.unusedVariables false
set_option linter.unusedSimpArgs false
set_option maxHeartbeats 1000000 in
theorem ref_Same (l m : List Bs) (v u : Value) (w : World) (hv : SV w v l) (hu : SV w u m) :
    Calls Tryz.prog 16 #[v, u] w fun e w' => e = .returned (.bool (decide (l = m))) ∧ Below w.heap.size w w' := by
  obtain ⟨ad, len, cap, rfl, hI⟩ := hv
  obtain ⟨bd, len2, cap2, rfl, hJ⟩ := hu
  have hm : len ≤ 9223372036854775807 := by have h1 := hI.hle; have h2 := hI.hmax; unfold maxLen at h2; omega
  have hm2 : len2 ≤ 9223372036854775807 := by have h1 := hJ.hle; have h2 := hJ.hmax; unfold maxLen at h2; omega
  have HI := hid hI
  have HJ := hid hJ
  clear hI hJ
  by_cases hne : len = len2
  · subst hne
    go_enter Tryz.func16, Tryz.ntmps16
    go_wp2
    go_loopw [5] (fun i wr => ∃ k : Nat, k ≤ len ∧ i = .int .i64 k ∧ Hid (l.take k = m.take k) ∧ Hid (Below w.heap.size w wr)) (fun i _ => len - (intOf i).toNat)
    case atStart => exact ⟨0, by omega, rfl, hid rfl, hid (Below.refl _ _)⟩
    case round =>
      obtain ⟨k, hk, rfl, HE, HB⟩ := hrel
      by_cases hlt : k < len
      · cases ad with
        | none => have := (HI.out.hnil rfl).1; omega
        | some ad =>
        cases bd with
        | none => have := (HJ.out.hnil rfl).1; omega
        | some bd =>
          obtain ⟨x, hx, hc⟩ := (HI.out.keep HB.out).at hlt
          obtain ⟨y, hy, hd⟩ := (HJ.out.keep HB.out).at hlt
          have hcd : wr.drew.cell? (ad.add k) = some (.string (ba x)) := hc
          have hdd : wr.drew.cell? (bd.add k) = some (.string (ba y)) := hd
          have hcmp := beq_ba x y
          have HX := hid hx
          have HY := hid hy
          clear hx hy
          by_cases hxy : x = y
          · rw [decide_eq_true hxy] at hcmp
            have HXY := hid hxy
            clear hxy
            go_wp2
            go_region
            all_goals
              go_wp2
              go_roundw
              case rel =>
                refine ⟨k + 1, by omega, by go_num, hid ?_, hid HB.out.drew⟩
                rw [List.take_add_one, List.take_add_one, HX.out, HY.out, HXY.out, HE.out]
              case measure => simp [intOf]; omega
          · rw [decide_eq_false hxy] at hcmp
            have HXY := hid hxy
            clear hxy
            go_wp2
            go_region
            all_goals
              go_wp2
              go_ret
              refine ⟨?_, HB.out.drew⟩
              have : ¬ l = m := fun e => HXY.out (by
                have h1 := HX.out
                rw [e, HY.out] at h1
                exact (Option.some.inj h1).symm)
              rw [decide_eq_false this]
              rfl
      · obtain rfl : k = len := by omega
        go_wp2
        go_ret
        have : l = m := by
          have h1 := HE.out
          rw [List.take_of_length_le (by rw [HI.out.hlen]; omega), List.take_of_length_le (by rw [HJ.out.hlen]; omega)] at h1
          exact h1
        refine ⟨?_, HB.out⟩
        rw [decide_eq_true this]
        rfl
  · have h1 : ¬ l = m := fun e => hne (by rw [← HI.out.hlen, ← HJ.out.hlen, e])
    rw [decide_eq_false h1]
    have hne2 : ¬ (len : Int) = (len2 : Int) := by omega
    go_enter Tryz.func16, Tryz.ntmps16
    go_wp2
    go_ret
    exact ⟨rfl, Below.refl _ _⟩

/-! ### Great -/
def tot (l : List Bs) : Nat := (l.map List.length).sum
theorem tot_take {l : List Bs} {k : Nat} {x : Bs} (h : l[k]? = some x) : tot (l.take (k + 1)) = tot (l.take k) + x.length := by
  rw [List.take_add_one, h]; simp [tot]
theorem tot_bound {l : List Bs} {B : Nat} (h : ∀ x ∈ l, x.length ≤ B) : tot l ≤ l.length * B := by
  induction l with
  | nil => simp [tot]
  | cons y r ih =>
    have h1 := ih (fun x hx => h x (List.mem_cons_of_mem _ hx))
    have h2 := h y (List.mem_cons_self ..)
    unfold tot at h1 ⊢
    rw [List.map_cons, List.sum_cons, List.length_cons, Nat.succ_mul]
    omega
theorem mem_tot {l : List Bs} {x : Bs} (h : x ∈ l) : x.length ≤ tot l := by
  induction l with
  | nil => cases h
  | cons y r ih =>
    unfold tot
    rw [List.map_cons, List.sum_cons]
    rcases List.mem_cons.1 h with rfl | h
    · omega
    · have := ih h
      unfold tot at this
      omega
theorem row_tot (l : List Bs) (h : ∀ x ∈ l, x.length ≤ 65536) : (rowB l).length ≤ tot l + 8 * l.length := by
  induction l with
  | nil => simp [rowB]
  | cons y r ih =>
    have h1 := ih (fun x hx => h x (List.mem_cons_of_mem _ hx))
    have h2 := enc_le4 (h y (List.mem_cons_self ..))
    rw [rowB_cons, List.length_append, record_length, List.length_cons]
    unfold tot at h1 ⊢
    rw [List.map_cons, List.sum_cons]
    omega
def GreatPost (w : World) (l : List Bs) (e : Ending) (w' : World) : Prop := ∃ g : Bool, e = .returned (.bool g) ∧ Below w.heap.size w w' ∧ (g = false → l.length ≤ 60 ∧ tot l ≤ 2500)
end Go.Proofs.YtcioomlhdaihkaaGreatDoor.Q
