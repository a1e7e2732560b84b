/-
  Disks: names, refusals, fuses.
-/
import Derived.Test.YtfmigkmkdhciiaaKD
namespace Go.Proofs.Ytfmigkmkdhciiaa.K
set_option linter.unusedVariables false
set_option linter.unusedSimpArgs false
set_option maxRecDepth 100000
open Go Go.RowKit Go.Maps Go.MapKept Go.ChangeMaps

theorem size_str (n : Str) : (⟨n.toArray⟩ : ByteArray).size = n.length := by simp [ByteArray.size]
theorem disk_mayName (n : Str) (hn : n.length ≤ 1099511627776) (w : World) : Calls Try.prog 34 #[strV n] w fun e w' => e = .returned (.bool (may n)) ∧ w = w' := by
  cases n with
  | nil =>
    go_enter Try.func34, Try.ntmps34
    go_wp2
    go_ret
    exact ⟨rfl, rfl⟩
  | cons c r =>
    obtain ⟨b, hb⟩ : ∃ b : ByteArray, b = ⟨(c :: r).toArray⟩ := ⟨_, rfl⟩
    have hs : b.size = (c :: r).length := by rw [hb]; exact size_str _
    show Calls Try.prog _ #[.string ⟨(c :: r).toArray⟩] _ _
    rw [← hb]
    have hE : b.toList = c :: r := by rw [hb]; exact ByteArray.toList_mk _
    have hne : b.toList.isEmpty = false := by rw [hE]; rfl
    have hne2 : ¬ b.toList = [] := by rw [hE]; simp
    clear hE
    have hb9 : b.size ≤ 1099511627776 := by omega
    by_cases h32 : b.size ≤ 32
    · have hm : may (c :: r) = true := by unfold may; simp at hs ⊢; omega
      rw [hm]
      have h3 : decide ((b.size : Int) ≤ 32) = true := decide_eq_true (by omega)
      clear hm hb hs
      go_enter Try.func34, Try.ntmps34
      go_wp2
      go_ret
      exact ⟨rfl, rfl⟩
    · have hm : may (c :: r) = false := by unfold may; simp at hs ⊢; omega
      rw [hm]
      have h3 : decide ((b.size : Int) ≤ 32) = false := decide_eq_false (by omega)
      clear hm hb hs
      go_enter Try.func34, Try.ntmps34
      go_wp2
      go_ret
      exact ⟨rfl, rfl⟩

theorem disk_Units {A : Gh} {w : World} {p : Nat} {s : St} {k : Dk} (hd : DiskIn A w p s k) : Calls Try.prog 11 #[.pointer (some ⟨p, 0, none⟩)] w fun e w' => e = .returned (.int .i64 (s.units : Int)) ∧ w = w' := by
  have h1 : w.cell? ⟨p, 1, none⟩ = some (.map (some k.ms)) := cell_row hd.cells 1
  have h4 : w.cell? ⟨p, 4, none⟩ = some (.int .i64 (s.units : Int)) := cell_row hd.cells 4
  clear hd
  go_enter Try.func11, Try.ntmps11
  go_wp2_with (go_at_call 28; refine (none_some p _ _ h1).mono ?_; rintro e w' ⟨rfl, rfl⟩)
  go_ret
  exact ⟨rfl, rfl⟩
theorem disk_Down {A : Gh} {w : World} {p : Nat} {s : St} {k : Dk} (hd : DiskIn A w p s k) : Calls Try.prog 19 #[.pointer (some ⟨p, 0, none⟩)] w fun e w' => e = .returned (.bool s.down) ∧ w = w' := by
  have h1 : w.cell? ⟨p, 1, none⟩ = some (.map (some k.ms)) := cell_row hd.cells 1
  have h6 : w.cell? ⟨p, 6, none⟩ = some (.bool s.down) := cell_row hd.cells 6
  clear hd
  go_enter Try.func19, Try.ntmps19
  go_wp2_with (go_at_call 28; refine (none_some p _ _ h1).mono ?_; rintro e w' ⟨rfl, rfl⟩)
  go_ret
  exact ⟨rfl, rfl⟩
end Go.Proofs.Ytfmigkmkdhciiaa.K
