/-
  Contracts of package sum and of the document's answer for it: the words of the table.
-/
import Derived.Test.YtgnejcjlmagphaaProg
import Derived.Test.YtgnejcjlmagphaaCrc
import Derived.Test.YtgnejcjlmagphaaLater
import Derived.WalkKit
import Derived.LoopTactic
import Derived.Deep.WholeRow
import Derived.Outline
namespace Go.Proofs.Ytgnejcjlmagphaa
open Go Go.RowKit Crc

theorem ret_int {k : IntKind} {a b : Int} (h : a = b) : Ending.returned (.int k a) = .returned (.int k b) := by rw [h]

theorem ref_turn (n : Nat) (hn : n < 4294967296) (w : World) :
    Calls Try.prog 22 #[.int .u32 n] w fun e w' => e = .returned (.int .u32 (turn n : Nat)) ∧ w = w' := by
  go_enter Try.func22, Try.ntmps22
  go_wp2
  go_ret
  exact ⟨ret_int (by unfold turn; omega), rfl⟩

theorem half_u32 (k n : Nat) (hn : n < 4294967296) : bits .xor .u32 (((steps k n : Nat) : Int) / 2) 2197175160 = ((steps k n / 2 ^^^ 2197175160 : Nat) : Int) := by
  have h := steps_lt k n hn
  have := xor_u32 (steps k n / 2) 2197175160 (by omega) (by omega)
  rw [← this]; rfl

theorem ref_entry (n : Nat) (hn : n < 4294967296) (w : World) :
    Calls Try.prog 9 #[.int .u32 n] w fun e w' => e = .returned (.int .u32 (ent n : Nat)) ∧ w = w' := by
  go_enter Try.func9, Try.ntmps9
  go_wp2
  go_loop [3, 4, 5] (fun x i _ => ∃ k : Nat, k ≤ 8 ∧ i = .int .i64 k ∧ x = .int .u32 (steps k n : Nat)) (fun _ i _ => 8 - (intOf i).toNat)
  case atStart => exact ⟨0, by omega, rfl, rfl⟩
  case round =>
    obtain ⟨k, hk, rfl, rfl⟩ := hrel
    have hb := steps_lt k n hn
    have hx := half_u32 k n hn
    go_wp2
    · go_round
      case rel => exact ⟨k + 1, by omega, by go_num, by rw [steps_odd k n ‹_›]⟩
      case measure => simp [intOf]; omega
    · go_round
      case rel => exact ⟨k + 1, by omega, by go_num, by rw [steps_even k n ‹_›]; go_num⟩
      case measure => simp [intOf]; omega
    · have : k = 8 := by omega
      subst this
      go_ret
      exact ⟨rfl, rfl⟩

theorem sum_eightRounds (n : Nat) (hn : n < 4294967296) (w : World) :
    Calls Try.prog 18 #[.int .u32 n] w fun e w' => e = .returned (.int .u32 (ent n : Nat)) ∧ w = w' := by
  go_enter Try.func18, Try.ntmps18
  go_wp2
  go_loop [0, 4, 3] (fun x i _ => ∃ k : Nat, k ≤ 8 ∧ i = .int .i64 k ∧ x = .int .u32 (steps k n : Nat)) (fun _ i _ => 8 - (intOf i).toNat)
  case atStart => exact ⟨0, by omega, rfl, rfl⟩
  case round =>
    obtain ⟨k, hk, rfl, rfl⟩ := hrel
    have hb := steps_lt k n hn
    have hx := half_u32 k n hn
    have ha : bits .and .u32 ((steps k n : Nat) : Int) 1 = ((steps k n : Nat) : Int) % 2 := by
      have := and_u32 (steps k n) 1 hb (by omega)
      rw [Nat.and_one_is_mod] at this; rw [Int.natCast_emod] at this; exact this
    go_wp2
    · go_round
      case rel => exact ⟨k + 1, by omega, by go_num, by rw [steps_odd k n ‹_›]⟩
      case measure => simp [intOf]; omega
    · go_round
      case rel => exact ⟨k + 1, by omega, by go_num, by rw [steps_even k n ‹_›]; go_num⟩
      case measure => simp [intOf]; omega
    · have : k = 8 := by omega
      subst this
      go_ret
      exact ⟨rfl, rfl⟩

/-- The table as cells, its first n words filled. -/
def tabCells (n : Nat) : Array Value := (Array.range 256).map fun j => .int .u32 ((if j < n then ent j else 0 : Nat) : Int)
theorem tab_size (n : Nat) : (tabCells n).size = 256 := by simp [tabCells]
theorem tab_at (n j : Nat) (h : j < 256) : (tabCells n)[j]? = some (.int .u32 ((if j < n then ent j else 0 : Nat) : Int)) := by
  simp [tabCells, h]
theorem tab_set (n : Nat) (v : Int) (h : v = (ent n : Nat)) : (tabCells n).setIfInBounds n (.int .u32 v) = tabCells (n + 1) := by
  subst h
  apply Array.ext_getElem?; intro i
  by_cases hi : i < 256
  · rw [tab_at _ _ hi, Array.getElem?_setIfInBounds, tab_at _ _ hi, tab_size]
    by_cases he : n = i
    · subst he; simp [hi]
    · simp only [he, if_false]
      by_cases hl : i < n
      · simp [hl, show i < n + 1 by omega]
      · simp [hl, show ¬ i < n + 1 by omega]
  · rw [Array.getElem?_eq_none (by simp [tab_size]; omega), Array.getElem?_eq_none (by simp [tab_size]; omega)]
theorem tab_one : tabCells 0 = tabCells 1 := by
  apply Array.ext_getElem?; intro i
  by_cases hi : i < 256
  · rw [tab_at _ _ hi, tab_at _ _ hi]
    by_cases he : i = 0
    · subst he; rfl
    · simp [show ¬ i < 1 by omega]
  · rw [Array.getElem?_eq_none (by simp [tab_size]; omega), Array.getElem?_eq_none (by simp [tab_size]; omega)]
theorem tab_one_cell (n : Nat) : (tabCells n).all (·.oneCell') = true := by
  rw [Array.all_eq_true_iff_forall_mem]
  intro v hv
  simp only [tabCells, Array.mem_map] at hv
  obtain ⟨j, _, rfl⟩ := hv
  rfl
theorem tab_info : (Try.prog.info? 24).map (fun i => (i.zero, i.size)) = some (some (.agg (tabCells 0)), 256) := by kernel_rfl

def TabW (W wr : World) (n : Nat) : Prop :=
  Below W.heap.size W wr ∧ wr.heap[W.heap.size]? = some (.cells (tabCells 0) 24 (0, 0)) ∧ wr.heap[W.heap.size + 1]? = some (.cells (tabCells n) 24 (0, 0))

theorem tabW_store {W wr : World} {n : Nat} (h : TabW W wr n) : TabW W (wr.setCell ⟨W.heap.size + 1, n, none⟩ (.int .u32 (ent n : Nat))) (n + 1) := by
  obtain ⟨h1, h2, h3⟩ := h
  refine ⟨h1.setCell (by simp) _, ?_, ?_⟩
  · rw [heap_setCell_other _ _ _ _ (by simp)]; exact h2
  · rw [heap_setCell_same _ _ _ _ _ _ h3, tab_set _ _ rfl]
theorem tabW_cell {W wr : World} {n j : Nat} (h : TabW W wr n) (hj : j < 256) : wr.cell? ⟨W.heap.size + 1, j, none⟩ = some (.int .u32 ((if j < n then ent j else 0 : Nat) : Int)) := by
  rw [cell_of_row _ _ _ _ _ _ h.2.2, tab_at _ _ hj]
theorem tabW_free {W wr : World} {n j : Nat} (h : TabW W wr n) : wr.frozen? ⟨W.heap.size + 1, j, none⟩ = false := frozen_of_row _ _ _ _ _ h.2.2

theorem shl_bit (b h : Nat) (hb : b < 8) (e : h = 2 ^ b) : wrap64 (2 ^ b) = (h : Int) ∧ 1 ≤ h ∧ h ≤ 128 := by
  subst e
  have : b = 0 ∨ b = 1 ∨ b = 2 ∨ b = 3 ∨ b = 4 ∨ b = 5 ∨ b = 6 ∨ b = 7 := by omega
  rcases this with rfl | rfl | rfl | rfl | rfl | rfl | rfl | rfl <;> decide +kernel

set_option maxHeartbeats 400000 in
theorem sum_Table (W : World) :
    Calls Try.prog 8 #[] W fun e w' => e = .returned (.agg (tabCells 256)) ∧ Below W.heap.size W w' := by
  obtain ⟨hz, hi⟩ := zero_of_info tab_info
  go_enter Try.func8, Try.ntmps8
  go_wp2
  go_loopw [6] (fun i wr => ∃ b : Nat, b ≤ 8 ∧ i = .int .i64 b ∧ TabW W wr (2 ^ b)) (fun i _ => 8 - (intOf i).toNat)
  case atStart =>
    refine ⟨0, by omega, rfl, ?_, ?_, ?_⟩
    · exact ((Below.refl _ _).alloc (Nat.le_refl _) _).alloc (by simp) _
    · exact heap_alloc2_old _ _ _
    · rw [show (2 : Nat) ^ 0 = 1 by rfl, ← tab_one]; exact heap_alloc2_new _ _ _
  case round =>
    obtain ⟨b, hb, rfl, hW⟩ := hrel
    obtain ⟨wo, rfl⟩ : ∃ wo : World, wo = wr := ⟨_, rfl⟩
    by_cases hlt : b < 8
    · obtain ⟨h, hh⟩ : ∃ h : Nat, h = 2 ^ b := ⟨_, rfl⟩
      obtain ⟨hs, hlo, hhi⟩ := shl_bit b h hlt hh
      rw [← hh] at hW
      have hm : (h : Int) % 4294967296 = (h : Int) := by omega
      have HH : Hid (h = 2 ^ b) := hh
      clear hh
      go_wp2_with (go_at_call 18; refine (sum_eightRounds h (by omega) _).mono ?_; rintro e w' ⟨rfl, rfl⟩)
      go_loopw [15, 5] (fun i _ wi => ∃ l : Nat, l ≤ h ∧ i = .int .i64 l ∧ TabW W wi (h + l)) (fun i _ _ => h - (intOf i).toNat)
      case atStart => exact ⟨0, by omega, rfl, hW⟩
      case round =>
        obtain ⟨l, hl, rfl, hWi⟩ := hrel
        by_cases hll : l < h
        · have hcl := tabW_cell (j := l) hWi (by omega)
          rw [if_pos (by omega)] at hcl
          have hcs := tabW_cell (j := h + l) hWi (by omega)
          rw [if_neg (by omega)] at hcs
          have hfr := tabW_free (j := h + l) hWi
          have hor : bits .or .i64 (h : Int) (l : Int) = ((h + l : Nat) : Int) := by
            rw [or_i64 h l (by omega) (by omega)]
            have := HH.out
            subst this
            have e := Nat.two_pow_add_eq_or_of_lt hll 1
            rw [Nat.mul_one] at e
            rw [e]
          have hx : bits .xor .u32 ((ent l : Nat) : Int) ((ent h : Nat) : Int) = ((ent (h + l) : Nat) : Int) := by
            rw [xor_u32 _ _ (ent_lt _ (by omega)) (ent_lt _ (by omega))]
            have := HH.out
            subst this
            rw [ent_add _ _ hll]
          have hst := tabW_store hWi
          go_wp2_with fail
          go_roundw
          case rel => exact ⟨l + 1, by omega, by go_num, hst⟩
          case measure => simp [intOf]; omega
        · have : l = h := by omega
          subst this
          go_wp2_with fail
          go_roundw
          case rel => exact ⟨b + 1, by omega, by go_num, by rw [Nat.pow_succ, ← HH.out, show l * 2 = l + l by omega]; exact hWi⟩
          case measure => simp [intOf]; omega
    · have : b = 8 := by omega
      subst this
      obtain ⟨h1, h2, h3⟩ := hW
      go_wp2_with (first | (refine wpList_load_row rfl _ _ rfl (W.heap.size + 1) rfl _ _ _ _ h3 Try.underlying24 rfl (by rw [tab_size]; kernel_rfl) ?_) | (refine wpList_store_row rfl _ _ _ rfl W.heap.size (tabCells 256) rfl rfl _ _ h2 (by rw [tab_size]; kernel_rfl) (by rw [tab_size, tab_size]) (tab_one_cell _) ?_))
      refine bodyPost_ret (v := .agg (tabCells 256)) (results_cell_row rfl _ _ W.heap.size 24 (tabCells 256) (0, 0) _ rfl (setRow_heap _ _ _ _ _ _ h2) Try.underlying24 rfl (by rw [tab_size]; kernel_rfl)) rfl ⟨rfl, ?_⟩
      exact Below.setRow h1 (Nat.le_refl _) _

end Go.Proofs.Ytgnejcjlmagphaa
