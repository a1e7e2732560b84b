/-
  Acts in a row; are they more than a law looks at?
-/
import Derived.Test.YtfmigkmkdhciiaaKArg
import Derived.Deep.QuietTactic
import Derived.BigQuiet
import Derived.LoopTactic
import Derived.WalkKit
namespace Go.Proofs.Ytfmigkmkdhciiaa.K
set_option linter.unusedVariables false
set_option linter.unusedSimpArgs false
set_option maxRecDepth 100000
open Go Go.RowKit Go.ChangeShapes Go.WideShapes

def IsActs (w : World) (a : Option Addr) (len cap : Nat) (xs : List ActM) : Prop :=
  xs.length = len ∧ len ≤ cap ∧ cap ≤ maxLen ∧ (∀ x ∈ xs, x.ok ∧ x.b.length ≤ reachBytes ∧ x.c.length ≤ reachBytes) ∧
    match a with
    | none => len = 0
    | some ad => ∀ (i : Nat) (x : ActM), xs[i]? = some x → ∀ j : Nat, j < 4 → w.cell? ((ad.add (i * 4)).add j) = x.cells[j]?
def ActsV (w : World) (v : Value) (xs : List ActM) : Prop := ∃ a len cap, v = .slice a len cap ∧ IsActs w a len cap xs
theorem acell_lt {w : World} {a : Addr} {v : Value} (h : w.cell? a = some v) : a.block < w.heap.size := World.block_lt_of_cell? w a h
theorem IsActs.keep {w w' : World} {a : Option Addr} {len cap : Nat} {xs : List ActM} (h : IsActs w a len cap xs) (hb : Below w.heap.size w w') : IsActs w' a len cap xs := by
  obtain ⟨h1, h2, h3, h4, h5⟩ := h
  refine ⟨h1, h2, h3, h4, ?_⟩
  cases a with
  | none => exact h5
  | some ad =>
    intro i x hx j hj
    have := h5 i x hx j hj
    have hs : j < x.cells.size := hj
    rw [Array.getElem?_eq_getElem hs] at this ⊢
    exact (hb.cell (acell_lt this)).trans this

section
variable {H : Type} {enc : TypeId × Value → H} {w : World} {base : Nat} {spare : Nat → Bool} {held : Bool}
theorem mem_weightsAll {P : Program} {e : TypeId} {elems : List (DataW H)} {d : DataW H} (hd : d ∈ elems) {n : Nat} (hn : n ∈ d.weights P e) : n ∈ DataW.weightsAll P e elems := by
  induction elems with
  | nil => cases hd
  | cons c cs ih =>
    simp only [DataW.weightsAll, List.mem_append]
    rcases List.mem_cons.1 hd with rfl | hd
    · exact .inl hn
    · exact .inr (ih hd)
theorem open_acts {v : Value} {d : DataW H} {ps : List MemPlace} {ts : List TypeId} {ds : List (DataW H)} {j : Nat} {r : Reach} {b0 : Nat} (hv : Value.okWide Try.prog w r b0 22 v) (h : DataW.Trod enc Try.prog w base spare held 22 v d ps)
    (hsz : (DataW.weightsEach Try.prog ts ds).all (· ≤ reachBytes) = true) (hts : ts[j]? = some 22) (hds : ds[j]? = some d) : ∃ xs, ActsV w v xs := by
  obtain ⟨a, len, cap, rfl⟩ := okWide_slice Try.underlying22 hv
  obtain ⟨fuel, hf⟩ := h
  rcases Go.Deep.open_slice Try.underlying22 hf with ⟨hcs, _⟩ | ⟨ad, len', cap', m, n, D, Pl, hcs, _, hl, hm, hmm, hx, hi⟩
  · simp [Value.cells] at hcs
    obtain ⟨rfl, rfl, rfl⟩ := hcs
    exact ⟨[], none, 0, 0, rfl, rfl, Nat.le_refl _, Nat.zero_le _, by simp, rfl⟩
  · simp [Value.cells] at hcs
    obtain ⟨rfl, rfl, rfl⟩ := hcs
    have hlm : len ≤ m := by rw [hmm]; split <;> omega
    have hd : d = .slice ((List.range len).map D) ((List.range (m - len)).map fun j => D (len + j)) := (Prod.mk.inj hx).1
    have key : ∀ i, i < len → ∃ y : ActM, (y.ok ∧ y.b.length ≤ reachBytes ∧ y.c.length ≤ reachBytes) ∧ ∀ k, k < 4 → w.cell? ((ad.add (i * 4)).add k) = y.cells[k]? := fun i hlt => by
      obtain ⟨cs', hc, ht⟩ := hi i (by omega)
      rw [act_cells] at hc
      obtain ⟨_, _, hat⟩ := World.cells?_some hc
      obtain ⟨y, hy, hok, hsmall⟩ := open_act ht
      have hs := hsmall (fun q hq => by
        have hmem := DataW.weights_mem_each (P := Try.prog) hts hds q (by
          rw [hd]
          simp only [DataW.weights, Try.underlying22, List.mem_cons, List.mem_append]
          exact .inr (.inl (mem_weightsAll (List.mem_map.2 ⟨i, List.mem_range.2 hlt, rfl⟩) hq)))
        simpa using List.all_eq_true.1 hsz _ hmem)
      refine ⟨y, ⟨hok, hs⟩, fun k hk => ?_⟩
      rw [hat k hk, hy]
      simp
    refine ⟨(List.range len).pmap (fun i hlt => (key i (List.mem_range.1 hlt)).choose) (fun _ h => h), some ad, len, cap, rfl, by simp, hl, hm, ?_, ?_⟩
    · intro x hx
      obtain ⟨i, hlt, rfl⟩ := List.mem_pmap.1 hx
      exact (key i (List.mem_range.1 hlt)).choose_spec.1
    · intro i x hx k hk
      have hlt : i < len := by
        have := (List.getElem?_eq_some_iff.1 hx).1
        simpa using this
      rw [List.getElem?_pmap] at hx
      simp [List.getElem?_range hlt] at hx
      rw [← hx]
      exact (key i hlt).choose_spec.2 k hk
theorem open_u8 {v : Value} {d : DataW H} {ps : List MemPlace} {r : Reach} {b0 : Nat} (hv : Value.okWide Try.prog w r b0 5 v) (h : DataW.Trod enc Try.prog w base spare held 5 v d ps) : ∃ a : Int, v = .int .u8 a ∧ 0 ≤ a ∧ a ≤ 255 := by
  obtain ⟨n, rfl, _, _, hw⟩ := open_int Try.underlying5 hv h
  exact ⟨n, rfl, (nat8 hw).1, (nat8 hw).2⟩
theorem open_i64 {v : Value} {d : DataW H} {ps : List MemPlace} {r : Reach} {b0 : Nat} (hv : Value.okWide Try.prog w r b0 3 v) (h : DataW.Trod enc Try.prog w base spare held 3 v d ps) : ∃ a : Int, v = .int .i64 a ∧ -9223372036854775808 ≤ a ∧ a ≤ 9223372036854775807 := by
  obtain ⟨n, rfl, _, _, hw⟩ := open_int Try.underlying3 hv h
  exact ⟨n, rfl, (int64 hw).1, (int64 hw).2⟩
end

/-- The bytes of some acts. -/
def tot (xs : List ActM) : Nat := (xs.map (fun x => x.c.length + x.b.length)).sum
theorem tot_take {xs : List ActM} {j : Nat} {x : ActM} (h : xs[j]? = some x) : tot (xs.take (j + 1)) = tot (xs.take j) + (x.c.length + x.b.length) := by
  have hlt := (List.getElem?_eq_some_iff.1 h).1
  have hx : xs[j] = x := by have := List.getElem?_eq_getElem hlt; rw [h] at this; exact (Option.some.inj this).symm
  unfold tot
  rw [List.take_succ_eq_append_getElem hlt, hx, List.map_append, List.sum_append]
  simp
theorem tot_mem {xs : List ActM} {x : ActM} (h : x ∈ xs) : x.c.length + x.b.length ≤ tot xs := by
  induction xs with
  | nil => cases h
  | cons y r ih =>
    unfold tot
    rw [List.map_cons, List.sum_cons]
    rcases List.mem_cons.1 h with rfl | h
    · omega
    · have := ih h
      unfold tot at this
      omega
theorem tot_bound {xs : List ActM} {B : Nat} (h : ∀ x ∈ xs, x.b.length ≤ B ∧ x.c.length ≤ B) : tot xs ≤ xs.length * (2 * B) := by
  induction xs with
  | nil => simp [tot]
  | cons y r ih =>
    have h1 := ih (fun x hx => h x (List.mem_cons_of_mem _ hx))
    have h2 := h y (List.mem_cons_self ..)
    unfold tot at h1 ⊢
    rw [List.map_cons, List.sum_cons, List.length_cons, Nat.succ_mul]
    omega

theorem IsActs.at {w : World} {ad : Addr} {len cap : Nat} {xs : List ActM} (h : IsActs w (some ad) len cap xs) (i : Nat) (x : ActM) (hx : xs[i]? = some x) :
    ∃ (B O : Nat) (sp : Option Nat), ad.add (i * 4) = ⟨B, O, sp⟩ ∧ w.cell? ⟨B, O, sp⟩ = some (.int .u8 x.a) ∧ w.cell? ⟨B, O + 1, none⟩ = some (strV x.b) ∧ w.cell? ⟨B, O + 2, none⟩ = some (strV x.c) ∧ w.cell? ⟨B, O + 3, none⟩ = some (.int .i64 x.k) := by
  obtain ⟨h1, h2, h3, h4, h5⟩ := h
  have hc := h5 i _ hx
  obtain ⟨A, hA⟩ : ∃ A, A = ad.add (i * 4) := ⟨_, rfl⟩
  rw [← hA] at hc
  obtain ⟨B, O, sp⟩ := A
  have hj : ∀ j, j < 4 → 0 < j → w.cell? ⟨B, O + j, none⟩ = x.cells[j]? := fun j hj h0 => by
    have := hc j hj
    unfold Addr.add at this
    rw [if_neg (by omega)] at this
    exact this
  exact ⟨B, O, sp, hA.symm, hc 0 (by omega), hj 1 (by omega) (by omega), hj 2 (by omega) (by omega), hj 3 (by omega) (by omega)⟩
def GreatPost (w : World) (xs : List ActM) (e : Ending) (w' : World) : Prop := ∃ g : Bool, e = .returned (.bool g) ∧ Below w.heap.size w w' ∧ (g = false → xs.length ≤ 40 ∧ tot xs ≤ 1000)
theorem str_ba (s : Str) : ∃ b : ByteArray, strV s = .string b ∧ b.size = s.length := ⟨⟨s.toArray⟩, rfl, by simp [ByteArray.size]⟩
set_option maxHeartbeats 1000000 in
theorem law_great (w : World) (v : Value) (xs : List ActM) (hv : ActsV w v xs) : Calls Try.prog 6 #[v] w (GreatPost w xs) := by
  obtain ⟨a, len, cap, rfl, hlen, hlc, hcap, hall, hat⟩ := hv
  subst hlen
  have hlm : xs.length ≤ 9223372036854775807 := by unfold maxLen at hcap; omega
  have HALL := Lib.hid hall
  have HAT := Lib.hid hat
  have hcm : cap ≤ maxLen := hcap
  clear hall hat
  go_enter Try.func6, Try.ntmps6
  go_wp2
  go_loopw [3, 4] (fun n i wr => ∃ (j : Nat) (z : Int), j ≤ xs.length ∧ i = .int .i64 j ∧ n = .int .i64 z ∧ Hid (Below w.heap.size w wr) ∧ Hid (xs.length ≤ 40 → z = (tot (xs.take j) : Int))) (fun _ i _ => xs.length - (intOf i).toNat)
  case atStart => exact ⟨0, 0, Nat.zero_le _, rfl, rfl, Lib.hid (Below.refl _ w), Lib.hid (fun _ => by simp [tot])⟩
  case round =>
    obtain ⟨j, z, hj, rfl, rfl, HB, HZ⟩ := hrel
    by_cases hlt : j < xs.length
    · obtain ⟨x, hx⟩ : ∃ x, xs[j]? = some x := ⟨_, List.getElem?_eq_getElem hlt⟩
      obtain ⟨ad, rfl⟩ : ∃ ad, a = some ad := by
        cases a with
        | none => have h9 : xs.length = 0 := HAT.out; omega
        | some ad => exact ⟨ad, rfl⟩
      obtain ⟨B, O, sp, hA, q0, q1, q2, q3⟩ := IsActs.at (len := xs.length) ⟨rfl, hlc, hcm, HALL.out, HAT.out⟩ j x hx
      have c1 : wr.cell? ⟨B, O + 1, none⟩ = some (strV x.b) := (HB.out.cell (acell_lt q1)).trans q1
      have c2 : wr.cell? ⟨B, O + 2, none⟩ = some (strV x.c) := (HB.out.cell (acell_lt q2)).trans q2
      clear q0 q1 q2 q3
      obtain ⟨bb, hbb, hbs⟩ := str_ba x.b
      obtain ⟨cb, hcb, hcs⟩ := str_ba x.c
      rw [hbb] at c1
      rw [hcb] at c2
      have hx3 := HALL.out x (List.mem_of_getElem? hx)
      have hr := reachBytes_lt
      have hb9 : bb.size ≤ 140737488355328 := by omega
      have hc9 : cb.size ≤ 140737488355328 := by omega
      have hnew : xs.length ≤ 40 → IntKind.i64.wrap (IntKind.i64.wrap (z + (cb.size : Int)) + (bb.size : Int)) = (tot (xs.take (j + 1)) : Int) := fun h40 => by
        have hz := HZ.out h40
        have ht := tot_take hx
        have hbd := tot_bound (xs := xs.take j) (B := 140737488355328) (fun y hy => by have := HALL.out y (List.mem_of_mem_take hy); omega)
        have hl : (xs.take j).length ≤ 40 := by rw [List.length_take]; omega
        have h1 : tot (xs.take j) ≤ 40 * (2 * 140737488355328) := Nat.le_trans hbd (Nat.mul_le_mul_right _ hl)
        rw [IntWalk.i64_in (z + (cb.size : Int)) ⟨by omega, by omega⟩, IntWalk.i64_in _ ⟨by omega, by omega⟩]
        omega
      have HNEW := Lib.hid hnew
      clear hx hx3 hr hnew hbb hcb hbs hcs
      go_wp2
      go_quiet (fail)
      go_wp2
      go_roundw
      case rel => exact ⟨j + 1, _, hlt, by go_num, rfl, Lib.hid (HB.out.trans ⟨rfl, rfl, rfl, Nat.le_refl _, fun _ _ => rfl⟩), Lib.hid (fun h40 => by rw [← IntWalk.i64_left, ← IntWalk.i64_left]; exact HNEW.out h40)⟩
      case measure => simp [intOf]; omega
    · obtain rfl : j = xs.length := by omega
      by_cases h40 : xs.length ≤ 40
      · have hz := HZ.out h40
        rw [List.take_length] at hz
        have d1 : decide ((40 : Int) < (xs.length : Int)) = false := decide_eq_false (by omega)
        by_cases h1000 : tot xs ≤ 1000
        · have d2 : decide ((1000 : Int) < z) = false := decide_eq_false (by omega)
          have HH := Lib.hid (show xs.length ≤ 40 ∧ tot xs ≤ 1000 from ⟨h40, h1000⟩)
          clear hz h40 h1000
          go_wp2
          go_ret
          exact ⟨false, rfl, HB.out, fun _ => HH.out⟩
        · have d2 : decide ((1000 : Int) < z) = true := decide_eq_true (by omega)
          clear hz h40 h1000
          go_wp2
          go_ret
          exact ⟨true, rfl, HB.out, fun h => by cases h⟩
      · have d1 : decide ((40 : Int) < (xs.length : Int)) = true := decide_eq_true (by omega)
        clear h40
        go_wp2
        go_ret
        exact ⟨true, rfl, HB.out, fun h => by cases h⟩
end Go.Proofs.Ytfmigkmkdhciiaa.K
