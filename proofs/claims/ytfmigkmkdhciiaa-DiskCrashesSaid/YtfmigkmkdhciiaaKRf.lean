/-
  The document's disk that has nothing: its functions return.
-/
import Derived.Test.YtfmigkmkdhciiaaKT
namespace Go.Proofs.Ytfmigkmkdhciiaa.K
set_option linter.unusedVariables false
set_option linter.unusedSimpArgs false
set_option maxRecDepth 100000
open Go Go.RowKit Go.Maps Go.MapKept Go.ChangeMaps

theorem ref_Find (w : World) (s : Str) : Calls Try.prog 46 #[.slice none 0 0, strV s] w fun e w' => e = .returned (.int .i64 (-1)) ∧ w = w' := by
  go_enter Try.func46, Try.ntmps46
  go_wp2
  go_loopw [5] (fun i wr => i = .int .i64 0 ∧ w = wr) (fun _ _ => 0)
  case atStart => exact ⟨rfl, rfl⟩
  case round =>
    obtain ⟨rfl, rfl⟩ := hrel
    go_wp2
    go_ret
    exact ⟨rfl, rfl⟩
theorem ref_All (w : World) (k : Int) : Calls Try.prog 49 #[.agg #[.int .i64 0, .slice none 0 0, .slice none 0 0, .bool false, .int .i64 0, .bool false], .int .i64 k] w fun e w' => e = .returned (.slice none 0 0) ∧ Below w.heap.size w w' := by
  have hB : Below w.heap.size w (w.alloc (.cells #[.int .i64 0, .slice none 0 0, .slice none 0 0, .bool false, .int .i64 0, .bool false] 32)) := (Below.refl _ w).alloc (Nat.le_refl _) _
  have c2 : (w.alloc (.cells #[.int .i64 0, .slice none 0 0, .slice none 0 0, .bool false, .int .i64 0, .bool false] 32)).cell? ⟨w.heap.size, 2, none⟩ = some (.slice none 0 0) := cell_new w _ _ 2
  go_enter Try.func49, Try.ntmps49
  go_wp2
  generalize w.alloc (.cells #[.int .i64 0, .slice none 0 0, .slice none 0 0, .bool false, .int .i64 0, .bool false] 32) = W at hB c2 ⊢
  go_loopw [5, 6] (fun l i wr => l = .slice none 0 0 ∧ i = .int .i64 0 ∧ W = wr) (fun _ _ _ => 0)
  case atStart => exact ⟨rfl, rfl, rfl⟩
  case round =>
    obtain ⟨rfl, rfl, rfl⟩ := hrel
    go_wp2
    go_ret
    exact ⟨rfl, hB⟩
theorem ref_Seen (w : World) : Calls Try.prog 47 #[.agg #[.int .i64 0, .slice none 0 0, .slice none 0 0, .bool false, .int .i64 0, .bool false]] w fun e w' => e = .returned (.slice none 0 0) ∧ Below w.heap.size w w' := by
  have hB : Below w.heap.size w (w.alloc (.cells #[.int .i64 0, .slice none 0 0, .slice none 0 0, .bool false, .int .i64 0, .bool false] 32)) := (Below.refl _ w).alloc (Nat.le_refl _) _
  go_enter Try.func47, Try.ntmps47
  go_wp2_with (go_at_call 49; refine (ref_All _ _).mono ?_; rintro e w' ⟨rfl, hb⟩)
  go_ret
  exact ⟨rfl, hB.trans (hb.mono hB.size)⟩
theorem ref_Used (w : World) : Calls Try.prog 45 #[.agg #[.int .i64 0, .slice none 0 0, .slice none 0 0, .bool false, .int .i64 0, .bool false]] w fun e w' => e = .returned (.int .i64 0) ∧ Below w.heap.size w w' := by
  have hB : Below w.heap.size w (w.alloc (.cells #[.int .i64 0, .slice none 0 0, .slice none 0 0, .bool false, .int .i64 0, .bool false] 32)) := (Below.refl _ w).alloc (Nat.le_refl _) _
  go_enter Try.func45, Try.ntmps45
  go_wp2_with (go_at_call 47; refine (ref_Seen _).mono ?_; rintro e W ⟨rfl, hb⟩)
  have hb2 := hB.trans (hb.mono hB.size)
  clear hb hB
  go_loopw [4, 5] (fun l i wr => l = .int .i64 0 ∧ i = .int .i64 0 ∧ W = wr) (fun _ _ _ => 0)
  case atStart => exact ⟨rfl, rfl, rfl⟩
  case round =>
    obtain ⟨rfl, rfl, rfl⟩ := hrel
    go_wp2
    go_ret
    exact ⟨rfl, hb2⟩
theorem ref_name (w : World) (s : Str) (hs : s.length ≤ 1099511627776) : Calls Try.prog 44 #[strV s] w fun e w' => e = .returned (.bool (may s)) ∧ w = w' := by
  obtain ⟨b, hb⟩ : ∃ b : ByteArray, b = ⟨s.toArray⟩ := ⟨_, rfl⟩
  have hz : b.size = s.length := by rw [hb]; exact size_str _
  show Calls Try.prog _ #[.string ⟨s.toArray⟩] _ _
  rw [← hb]
  have hm : may s = (decide (1 ≤ s.length) && decide (s.length ≤ 32)) := by unfold may; cases s <;> simp
  rw [hm, ← hz]
  rw [← hz] at hs
  clear hm hz hb
  by_cases h1 : 1 ≤ b.size
  · by_cases h2 : b.size ≤ 32
    · have h3 : decide ((b.size : Int) ≤ 32) = true := decide_eq_true (by omega)
      have h4 : decide ((1 : Int) ≤ (b.size : Int)) = true := decide_eq_true (by omega)
      rw [decide_eq_true h1, decide_eq_true h2]
      go_enter Try.func44, Try.ntmps44
      go_wp2
      go_ret
      exact ⟨rfl, rfl⟩
    · have h3 : decide ((b.size : Int) ≤ 32) = false := decide_eq_false (by omega)
      have h4 : decide ((1 : Int) ≤ (b.size : Int)) = true := decide_eq_true (by omega)
      rw [decide_eq_true h1, decide_eq_false h2]
      go_enter Try.func44, Try.ntmps44
      go_wp2
      go_ret
      exact ⟨rfl, rfl⟩
  · have h4 : decide ((1 : Int) ≤ (b.size : Int)) = false := decide_eq_false (by omega)
    rw [decide_eq_false h1]
    go_enter Try.func44, Try.ntmps44
    go_wp2
    go_ret
    exact ⟨rfl, rfl⟩

/-- What such a function returns does not matter: a disk, and an int. -/
def RefRet (w : World) (e : Ending) (w' : World) : Prop := (∃ (a b c : Int) (x y : Option Addr) (n1 c1 n2 c2 : Nat) (f g : Bool), e = .returned (.tuple #[.agg #[.int .i64 a, .slice x n1 c1, .slice y n2 c2, .bool f, .int .i64 b, .bool g], .int .i64 c])) ∧ Below w.heap.size w w'
end Go.Proofs.Ytfmigkmkdhciiaa.K
