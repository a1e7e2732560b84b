/-
  Items: a slice of them as it lies in memory; 'great'; an item put.
-/
import Derived.Test.YtimemfkhmfhffaaWireO
namespace Go.Proofs.Ytimemfkhmfhffaa
open Go Go.RowKit Wire

structure Thing where
  kind : Nat
  n : Nat
  s : ByteArray
  r : Nat
  dn : Nat
  v0 : Nat
  v1 : Nat
  v2 : Nat
  v3 : Nat
  v4 : Nat
  v5 : Nat
  v6 : Nat
  v7 : Nat
  most : Nat

namespace Thing
def vec (x : Thing) : List Nat := [x.v0, x.v1, x.v2, x.v3, x.v4, x.v5, x.v6, x.v7]
def cells (x : Thing) : Array Value := #[.int .u8 x.kind, .int .u64 x.n, .string x.s, .int .u8 x.r, .int .u32 x.dn, .int .u32 x.v0, .int .u32 x.v1, .int .u32 x.v2, .int .u32 x.v3, .int .u32 x.v4, .int .u32 x.v5, .int .u32 x.v6, .int .u32 x.v7, .int .u64 x.most]
def ok (x : Thing) : Prop := x.kind < 256 ∧ x.n < 18446744073709551616 ∧ x.s.size ≤ 140737488355328 ∧ x.r < 256 ∧ x.dn < 4294967296 ∧ (∀ n ∈ x.vec, n < 4294967296) ∧ x.most < 18446744073709551616
end Thing

def IsThings (w : World) (a : Option Addr) (len cap : Nat) (xs : List Thing) : Prop :=
  xs.length = len ∧ len ≤ cap ∧ cap ≤ maxLen ∧ (∀ x ∈ xs, x.ok) ∧
    match a with
    | none => len = 0
    | some ad => ∀ i x, xs[i]? = some x → ∀ j : Nat, j < 14 → w.cell? ((ad.add (i * 14)).add j) = x.cells[j]?

theorem cell_lt {w : World} {a : Addr} {v : Value} (h : w.cell? a = some v) : a.block < w.heap.size := World.block_lt_of_cell? w a h
theorem IsThings.keep {w w' : World} {a : Option Addr} {len cap : Nat} {xs : List Thing} (h : IsThings w a len cap xs) (hb : Below w.heap.size w w') : IsThings w' a len cap xs := by
  obtain ⟨h1, h2, h3, h4, h5⟩ := h
  refine ⟨h1, h2, h3, h4, ?_⟩
  cases a with
  | none => exact h5
  | some ad =>
    intro i x hx j hj
    have h := h5 i x hx j hj
    rw [← h]
    have hl : j < x.cells.size := hj
    rw [Array.getElem?_eq_getElem hl] at h
    exact World.cell?_of_block (hb.block _ (cell_lt h))
/-- Another base for the same frame. -/
theorem IsThings.below {W w : World} {a : Option Addr} {len cap : Nat} {xs : List Thing} (h : IsThings W a len cap xs) (hb : Below W.heap.size W w) : IsThings w a len cap xs := h.keep hb

theorem IsThings.at {w : World} {ad : Addr} {len cap : Nat} {xs : List Thing} (h : IsThings w (some ad) len cap xs) (i : Nat) (hi : i < len) :
    ∃ (x : Thing) (B O : Nat) (sp : Option Nat), xs[i]? = some x ∧ x.ok ∧ ad.add (i * 14) = ⟨B, O, sp⟩ ∧ w.cell? ⟨B, O, sp⟩ = some (.int .u8 x.kind) ∧ w.cell? ⟨B, O + 1, none⟩ = some (.int .u64 x.n) ∧ w.cell? ⟨B, O + 2, none⟩ = some (.string x.s) ∧
      w.cell? ⟨B, O + 3, none⟩ = some (.int .u8 x.r) ∧ w.cell? ⟨B, O + 4, none⟩ = some (.int .u32 x.dn) ∧ w.cell? ⟨B, O + 5, none⟩ = some (.int .u32 x.v0) ∧ w.cell? ⟨B, O + 6, none⟩ = some (.int .u32 x.v1) ∧ w.cell? ⟨B, O + 7, none⟩ = some (.int .u32 x.v2) ∧
      w.cell? ⟨B, O + 8, none⟩ = some (.int .u32 x.v3) ∧ w.cell? ⟨B, O + 9, none⟩ = some (.int .u32 x.v4) ∧ w.cell? ⟨B, O + 10, none⟩ = some (.int .u32 x.v5) ∧ w.cell? ⟨B, O + 11, none⟩ = some (.int .u32 x.v6) ∧ w.cell? ⟨B, O + 12, none⟩ = some (.int .u32 x.v7) ∧ w.cell? ⟨B, O + 13, none⟩ = some (.int .u64 x.most) := by
  obtain ⟨h1, h2, h3, h4, h5⟩ := h
  have hx : xs[i]? = some (xs[i]'(by omega)) := List.getElem?_eq_getElem (by omega)
  have hc := h5 i _ hx
  have hok := h4 _ (List.mem_of_getElem? hx)
  generalize xs[i]'(by omega) = x at hx hc hok
  obtain ⟨A, hA⟩ : ∃ A, A = ad.add (i * 14) := ⟨_, rfl⟩
  rw [← hA] at hc
  obtain ⟨B, O, sp⟩ := A
  have hj : ∀ j, j < 14 → 0 < j → w.cell? ⟨B, O + j, none⟩ = x.cells[j]? := fun j hj h0 => by
    have := hc j hj
    unfold Addr.add at this
    rw [if_neg (by omega)] at this
    exact this
  exact ⟨x, B, O, sp, hx, hok, hA.symm, hc 0 (by omega), hj 1 (by omega) (by omega), hj 2 (by omega) (by omega), hj 3 (by omega) (by omega), hj 4 (by omega) (by omega), hj 5 (by omega) (by omega), hj 6 (by omega) (by omega), hj 7 (by omega) (by omega), hj 8 (by omega) (by omega), hj 9 (by omega) (by omega), hj 10 (by omega) (by omega), hj 11 (by omega) (by omega), hj 12 (by omega) (by omega), hj 13 (by omega) (by omega)⟩

/-- The bytes of all texts. -/
def textSum (xs : List Thing) : Nat := (xs.map fun x => x.s.size).sum
theorem textSum_take (xs : List Thing) (k : Nat) (x : Thing) (h : xs[k]? = some x) : textSum (xs.take (k + 1)) = textSum (xs.take k) + x.s.size := by
  have hk : k < xs.length := (List.getElem?_eq_some_iff.1 h).1
  have he : xs[k] = x := (List.getElem?_eq_some_iff.1 h).2
  unfold textSum
  rw [List.take_succ_eq_append_getElem hk, List.map_append, List.sum_append, he]
  simp
theorem textSum_le (xs : List Thing) (h : ∀ x ∈ xs, x.ok) : textSum xs ≤ 140737488355328 * xs.length := by
  induction xs with
  | nil => simp [textSum]
  | cons x xs ih =>
    have h1 := ih (fun y hy => h y (by simp [hy]))
    have h2 := (h x (by simp)).2.2.1
    unfold textSum at h1 ⊢
    simp only [List.map_cons, List.sum_cons, List.length_cons]
    omega
theorem textSum_take_le (xs : List Thing) (h : ∀ x ∈ xs, x.ok) (k : Nat) : textSum (xs.take k) ≤ 140737488355328 * xs.length := by
  have h1 := textSum_le (xs.take k) (fun x hx => h x (List.mem_of_mem_take hx))
  have h2 : (xs.take k).length ≤ xs.length := by rw [List.length_take]; omega
  have := Nat.mul_le_mul_left 140737488355328 h2
  omega

/-- Are items more than a law looks at? -/
def isGreat (xs : List Thing) : Bool := decide (100 < xs.length) || decide (2000 < textSum xs)

set_option maxHeartbeats 2000000 in
set_option maxRecDepth 100000 in
theorem law_great (a : Option Addr) (len cap : Nat) (xs : List Thing) (w : World) (h : IsThings w a len cap xs) :
    Calls Try.prog 8 #[.slice a len cap] w fun e w' => e = .returned (.bool (isGreat xs)) ∧ w = w' := by
  have hlen := h.1
  have hcap : len ≤ 9223372036854775807 := by have := h.2.1; have := h.2.2.1; unfold maxLen at this; omega
  have hoks := h.2.2.2.1
  obtain ⟨G, hG⟩ : ∃ G, G = isGreat xs := ⟨_, rfl⟩
  rw [← hG]
  have HGR : Hid (G = isGreat xs) := hG
  clear hG
  go_enter Try.func8, Try.ntmps8
  go_wp2
  go_loop [3, 4] (fun x i => ∃ (k : Nat) (t : Int), k ≤ len ∧ i = .int .i64 k ∧ x = .int .i64 t ∧ (len ≤ 100 → t = (textSum (xs.take k) : Nat))) (fun _ i => len - (intOf i).toNat)
  case atStart => exact ⟨0, 0, by omega, rfl, rfl, fun _ => by simp [textSum]⟩
  case round =>
    obtain ⟨k, t, hk, rfl, rfl, ht⟩ := hrel
    by_cases hlt : k < len
    · cases a with
      | none => have := h.2.2.2.2; simp only at this; omega
      | some ad =>
        obtain ⟨x, B, O, sp, hx, hok, hA, _, _, hs, _⟩ := h.at k hlt
        have hn := textSum_take xs k x hx
        have hm := textSum_take_le xs hoks (k + 1)
        have HN : Hid _ := And.intro hn (And.intro hm (And.intro ht hlen))
        have hsz := hok.2.2.1
        clear hn hm ht hok hoks
        have HH : Hid _ := h
        clear h
        go_wp2
        go_round
        case rel =>
          refine ⟨k + 1, _, by omega, by go_num, rfl, fun hl => ?_⟩
          obtain ⟨hn, hm, ht, hlen⟩ := HN.out
          rw [hn] at hm ⊢
          rw [ht hl]
          have : 140737488355328 * xs.length ≤ 140737488355328 * 100 := Nat.mul_le_mul_left _ (by omega)
          unfold wrap64; omega
        case measure => simp [intOf]; omega
    · have : k = len := by omega
      subst this
      rw [← hlen, List.take_length] at ht
      have HT : Hid _ := And.intro ht hlen
      clear ht h hoks
      by_cases h100 : 100 < k
      · have e : G = true := by rw [HGR.out]; unfold isGreat; simp; left; omega
        have HE : Hid (G = true) := e
        clear e HGR hlen
        go_wp2
        go_ret
        exact ⟨by rw [HE.out]; rfl, rfl⟩
      · have ht := HT.out.1 (by rw [hlen]; omega)
        subst ht
        have e : G = decide (2000 < textSum xs) := by rw [HGR.out]; unfold isGreat; rw [decide_eq_false (by omega), Bool.false_or]
        have HE : Hid (G = decide (2000 < textSum xs)) := e
        clear HT e HGR hlen
        go_wp2
        go_ret
        refine ⟨?_, rfl⟩
        rw [HE.out]
        show Ending.returned (Value.bool (decide ((100 : Int) < (k : Int)) || decide ((2000 : Int) < (textSum xs : Int)))) = _
        rw [decide_eq_false (by omega), Bool.false_or, show decide ((2000 : Int) < (textSum xs : Int)) = decide (2000 < textSum xs) from decide_eq_decide.2 (by omega)]

end Go.Proofs.Ytimemfkhmfhffaa
