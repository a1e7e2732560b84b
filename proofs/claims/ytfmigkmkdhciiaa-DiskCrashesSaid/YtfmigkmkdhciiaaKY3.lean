/-
  Disks: files read.
-/
import Derived.Test.YtfmigkmkdhciiaaKY2
import Derived.Lib.SlBytesRow
namespace Go.Proofs.Ytfmigkmkdhciiaa.K
set_option linter.unusedVariables false
set_option linter.unusedSimpArgs false
set_option maxRecDepth 100000
open Go Go.RowKit Go.Maps Go.MapKept Go.ChangeMaps

theorem conv_nil (w : World) : (convert 68 9 (.slice none 0 0)).run Try.prog w = .ok (strV []) w := by
  simp [convert, run_underlying Try.underlying68, run_underlying Try.underlying5, run_underlying Try.underlying9, Conv.bytesToString]
  rfl
theorem disk_Read {A : Gh} {w : World} {p : Nat} {s : St} (hd : DiskAt A w p s) (n : Str) (hn : n.length ≤ 1099511627776) (hlim : s.lim ≤ 549755813888) :
    Calls Try.prog 13 #[.pointer (some ⟨p, 0, none⟩), strV n] w fun e w' => e = .returned (.tuple #[strV (s.read n).1, .int .i64 ((s.read n).2 : Int)]) ∧ w = w' := by
  obtain ⟨k, hd⟩ := hd
  have h1 : w.cell? ⟨p, 1, none⟩ = some (.map (some k.ms)) := cell_row hd.cells 1
  have h2 : w.cell? ⟨p, 2, none⟩ = some (.map (some k.mv)) := cell_row hd.cells 2
  have hm := disk_mayName n hn w
  cases hmay : may n with
  | false =>
    have e1 : s.read n = ([], 2) := by unfold St.read; rw [hmay]; rfl
    rw [e1]
    rw [hmay] at hm
    clear e1 hd hmay
    go_enter Try.func13, Try.ntmps13
    go_wp2_with (first
      | (go_at_call 28; refine (none_some p _ _ h1).mono ?_; rintro e w' ⟨rfl, rfl⟩)
      | (go_at_call 34; refine hm.mono ?_; rintro e w' ⟨rfl, rfl⟩))
    go_ret2
    exact ⟨by rfl, rfl⟩
  | true =>
    rw [hmay] at hm
    have hlook := hd.parts.seen.map.look_ok (s := n) (by unfold maxLen; omega)
    have hsome := seen_isSome hd hn
    cases hg : K.get s.seen n with
    | none =>
      have e1 : s.read n = ([], 7) := by unfold St.read; rw [hmay, hg]; rfl
      rw [e1]
      rw [hsome, hg] at hlook
      clear e1 hd hmay hg hsome
      go_enter Try.func13, Try.ntmps13
      go_wp2_with (first
        | (go_at_call 28; refine (none_some p _ _ h1).mono ?_; rintro e w' ⟨rfl, rfl⟩)
        | (go_at_call 34; refine hm.mono ?_; rintro e w' ⟨rfl, rfl⟩))
      go_ret2
      exact ⟨by rfl, rfl⟩
    | some c =>
      have e1 : s.read n = (c, 0) := by unfold St.read; rw [hmay, hg]; rfl
      rw [e1]
      obtain ⟨v, hv, hb⟩ := hd.parts.seen.holds n c hg
      have hcl : c.length ≤ 1099511627776 := by have h5 := wt_mem hg; have := hd.ok.wtSeen; omega
      rw [hsome, hg, hv] at hlook
      have hconv : (convert 68 9 v).run Try.prog w = .ok (strV c) w := by
        rcases hb with ⟨rfl, rfl⟩ | ⟨g, cap, rfl, i0, i1, i2, i3, i4, i5⟩
        · exact conv_nil w
        · exact Lib.run_convert_whole (P := Try.prog) w 68 5 9 Try.underlying68 Try.underlying5 Try.underlying9 g 0 ⟨c.toArray⟩ (fun i hi => by
            have hi' : i < c.length := hi
            rw [Nat.zero_add, i5 i c[i] (List.getElem?_eq_getElem hi')]
            simp
            rfl) cap
      clear e1 hd hmay hg hsome hb hv
      go_enter Try.func13, Try.ntmps13
      go_wp2_with (first
        | (go_at_call 28; refine (none_some p _ _ h1).mono ?_; rintro e w' ⟨rfl, rfl⟩)
        | (go_at_call 34; refine hm.mono ?_; rintro e w' ⟨rfl, rfl⟩))
      go_ret2
      exact ⟨by rfl, rfl⟩
end Go.Proofs.Ytfmigkmkdhciiaa.K
