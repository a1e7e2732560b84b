/-
  The document's tops; rows of vectors compared.
-/
import Derived.Test.YtckfdjfcikljaaaVU
namespace Go.Proofs.Ytckfdjfcikljaaa
set_option linter.unusedVariables false
set_option linter.unusedSimpArgs false
open Go Go.RowKit Go.Maps

theorem topB_succ (l : List Vec) (i : Nat) (x : Vec) (k : Nat) : topB l i x (k + 1) = (topB l i x k && !badAt l i x k) := rfl

set_option maxHeartbeats 4000000 in
set_option maxRecDepth 100000 in
theorem ref_Tops (v : Value) (l : List Vec) (w : World) (hv : VecsV w v l) (hl : l.length ≤ 100000) :
    Calls Try.prog 30 #[v] w fun e w' => ∃ u, e = .returned u ∧ VecsV w' u (refB l l.length l.length) ∧ Below w.heap.size w w' := by
  obtain ⟨ad, len, cap, rfl, hI⟩ := hv
  have hcap : len ≤ 9223372036854775807 := by have := hI.1; omega
  have hlen := hI.1
  have hok := hI.2.2.2.1
  have HI := hid hI
  clear hI
  obtain ⟨i0, hi, hz0, hz1, hz2⟩ := info_parts infoVec
  rw [hlen]
  go_enter Try.func30, Try.ntmps30
  go_wp2
  go_loopw [3, 4] (fun out i wr => ∃ k : Nat, k ≤ len ∧ i = .int .i64 k ∧ wr.ownsRow w.heap.size 24 8 out (refB l len k).length (flatV (refB l len k)) ∧ Below w.heap.size w wr) (fun _ i _ => len - (intOf i).toNat)
  case atStart => exact ⟨0, by omega, rfl, World.ownsRow_nil _ _ _ _, Below.refl _ _⟩
  case round =>
    obtain ⟨i, hi', rfl, hrow, hB⟩ := hrel
    by_cases hlt : i < len
    · cases ad with
      | none => have := HI.out.none_len; omega
      | some ad =>
        obtain ⟨x, B0, O0, sp0, hx, hxo, -⟩ := (HI.out.keep hB).at i hlt
        have HX := hid (And.intro hx hxo)
        have HR := hid hrow
        clear hx hxo hrow
        go_wp2
        first | rw [show decide ((i : Int) < len) = true from decide_eq_true (by omega)] | skip
        go_loopw [5, 6] (fun t j wr => ∃ k : Nat, k ≤ len ∧ j = .int .i64 k ∧ t = .bool (topB l i x k) ∧ wr.ownsRow w.heap.size 24 8 u3 (refB l len i).length (flatV (refB l len i)) ∧ Below w.heap.size w wr) (fun _ j _ => len - (intOf j).toNat)
        case atStart => exact ⟨0, by omega, rfl, rfl, HR.out, hB⟩
        case round =>
          obtain ⟨k, hk, rfl, rfl, hrow, hB2⟩ := hrel
          by_cases hkl : k < len
          · have HRI := hid hrow
            clear hrow
            obtain ⟨x', B, O, sp, hx', _, hA, -, c0, c1, c2, c3, c4, c5, c6, c7⟩ := (HI.out.keep hB2).at i hlt
            obtain rfl : x = x' := by rw [HX.out.1] at hx'; exact Option.some.inj hx'
            obtain ⟨y, B', O', sp', hy, hyo, hA', -, e0, e1, e2, e3, e4, e5, e6, e7⟩ := (HI.out.keep hB2).at k hkl
            have hab := fun W => ref_Above y x W
            have hbad := badAt_some (i := i) (x := x) hy
            have hneq := fun W => run_neqV y x W
            have ht := topB_succ l i x k
            have HY := hid hy
            clear hy hx' hyo
            obtain ⟨t0, ht0⟩ : ∃ t0, t0 = topB l i x k := ⟨_, rfl⟩
            rw [← ht0] at ht ⊢
            have HT0 := hid ht0
            clear ht0
            cases ha : aboveB y x
            · rw [ha] at hab hbad
              have HT := hid (show topB l i x (k + 1) = t0 by rw [ht, hbad]; simp)
              clear ha hbad ht
              go_wp2
              refine wp_region_later_n (by kernel_rfl) (by kernel_rfl) ?_
              intro wd hwd
              have dx0 : ∀ p : Later wd.heap.size wd, p.val.cell? ⟨B, O, sp⟩ = some (.int .u32 (x 0 : Int)) := fun p => cell_keep p.ok (by rw [hwd]; exact c0)
              have dx1 : ∀ p : Later wd.heap.size wd, p.val.cell? ⟨B, O + 1, none⟩ = some (.int .u32 (x 1 : Int)) := fun p => cell_keep p.ok (by rw [hwd]; exact c1)
              have dx2 : ∀ p : Later wd.heap.size wd, p.val.cell? ⟨B, O + 2, none⟩ = some (.int .u32 (x 2 : Int)) := fun p => cell_keep p.ok (by rw [hwd]; exact c2)
              have dx3 : ∀ p : Later wd.heap.size wd, p.val.cell? ⟨B, O + 3, none⟩ = some (.int .u32 (x 3 : Int)) := fun p => cell_keep p.ok (by rw [hwd]; exact c3)
              have dx4 : ∀ p : Later wd.heap.size wd, p.val.cell? ⟨B, O + 4, none⟩ = some (.int .u32 (x 4 : Int)) := fun p => cell_keep p.ok (by rw [hwd]; exact c4)
              have dx5 : ∀ p : Later wd.heap.size wd, p.val.cell? ⟨B, O + 5, none⟩ = some (.int .u32 (x 5 : Int)) := fun p => cell_keep p.ok (by rw [hwd]; exact c5)
              have dx6 : ∀ p : Later wd.heap.size wd, p.val.cell? ⟨B, O + 6, none⟩ = some (.int .u32 (x 6 : Int)) := fun p => cell_keep p.ok (by rw [hwd]; exact c6)
              have dx7 : ∀ p : Later wd.heap.size wd, p.val.cell? ⟨B, O + 7, none⟩ = some (.int .u32 (x 7 : Int)) := fun p => cell_keep p.ok (by rw [hwd]; exact c7)
              have dy0 : ∀ p : Later wd.heap.size wd, p.val.cell? ⟨B', O', sp'⟩ = some (.int .u32 (y 0 : Int)) := fun p => cell_keep p.ok (by rw [hwd]; exact e0)
              have dy1 : ∀ p : Later wd.heap.size wd, p.val.cell? ⟨B', O' + 1, none⟩ = some (.int .u32 (y 1 : Int)) := fun p => cell_keep p.ok (by rw [hwd]; exact e1)
              have dy2 : ∀ p : Later wd.heap.size wd, p.val.cell? ⟨B', O' + 2, none⟩ = some (.int .u32 (y 2 : Int)) := fun p => cell_keep p.ok (by rw [hwd]; exact e2)
              have dy3 : ∀ p : Later wd.heap.size wd, p.val.cell? ⟨B', O' + 3, none⟩ = some (.int .u32 (y 3 : Int)) := fun p => cell_keep p.ok (by rw [hwd]; exact e3)
              have dy4 : ∀ p : Later wd.heap.size wd, p.val.cell? ⟨B', O' + 4, none⟩ = some (.int .u32 (y 4 : Int)) := fun p => cell_keep p.ok (by rw [hwd]; exact e4)
              have dy5 : ∀ p : Later wd.heap.size wd, p.val.cell? ⟨B', O' + 5, none⟩ = some (.int .u32 (y 5 : Int)) := fun p => cell_keep p.ok (by rw [hwd]; exact e5)
              have dy6 : ∀ p : Later wd.heap.size wd, p.val.cell? ⟨B', O' + 6, none⟩ = some (.int .u32 (y 6 : Int)) := fun p => cell_keep p.ok (by rw [hwd]; exact e6)
              have dy7 : ∀ p : Later wd.heap.size wd, p.val.cell? ⟨B', O' + 7, none⟩ = some (.int .u32 (y 7 : Int)) := fun p => cell_keep p.ok (by rw [hwd]; exact e7)
              have HW := hid (show Below w.heap.size w wd by rw [hwd]; exact hB2)
              have HR2 := hid (show wd.ownsRow w.heap.size 24 8 u3 (refB l len i).length (flatV (refB l len i)) by rw [hwd]; exact HRI.out)
              clear hwd c0 e0 c1 e1 c2 e2 c3 e3 c4 e4 c5 e5 c6 e6 c7 e7
              repeat (go_big_quiet_step (first | (go_at_call 15; with_reducible exact Calls.later_of (Nat.le_refl _) (hab _))))
              refine wpQuiet_nil ?_
              rintro _ ⟨p, rfl⟩
              have HP := hid p.ok
              generalize p.val = wq at HP
              clear dx0 dy0 dx1 dy1 dx2 dy2 dx3 dy3 dx4 dy4 dx5 dy5 dx6 dy6 dx7 dy7
              go_wp2
              go_roundw
              case rel => exact ⟨k + 1, by omega, by go_num, by rw [HT.out], owns_belowV HR2.out HP.out, HW.out.trans (HP.out.mono HW.out.size)⟩
              case measure => simp [intOf]; omega
            · rw [ha] at hab hbad
              cases he : eqV y x
              · rw [he] at hbad hneq
                have HT := hid (show topB l i x (k + 1) = false by rw [ht, hbad]; simp)
                clear ha he hbad ht
                go_wp2
                refine wp_region_later_n (by kernel_rfl) (by kernel_rfl) ?_
                intro wd hwd
                have dx0 : ∀ p : Later wd.heap.size wd, p.val.cell? ⟨B, O, sp⟩ = some (.int .u32 (x 0 : Int)) := fun p => cell_keep p.ok (by rw [hwd]; exact c0)
                have dx1 : ∀ p : Later wd.heap.size wd, p.val.cell? ⟨B, O + 1, none⟩ = some (.int .u32 (x 1 : Int)) := fun p => cell_keep p.ok (by rw [hwd]; exact c1)
                have dx2 : ∀ p : Later wd.heap.size wd, p.val.cell? ⟨B, O + 2, none⟩ = some (.int .u32 (x 2 : Int)) := fun p => cell_keep p.ok (by rw [hwd]; exact c2)
                have dx3 : ∀ p : Later wd.heap.size wd, p.val.cell? ⟨B, O + 3, none⟩ = some (.int .u32 (x 3 : Int)) := fun p => cell_keep p.ok (by rw [hwd]; exact c3)
                have dx4 : ∀ p : Later wd.heap.size wd, p.val.cell? ⟨B, O + 4, none⟩ = some (.int .u32 (x 4 : Int)) := fun p => cell_keep p.ok (by rw [hwd]; exact c4)
                have dx5 : ∀ p : Later wd.heap.size wd, p.val.cell? ⟨B, O + 5, none⟩ = some (.int .u32 (x 5 : Int)) := fun p => cell_keep p.ok (by rw [hwd]; exact c5)
                have dx6 : ∀ p : Later wd.heap.size wd, p.val.cell? ⟨B, O + 6, none⟩ = some (.int .u32 (x 6 : Int)) := fun p => cell_keep p.ok (by rw [hwd]; exact c6)
                have dx7 : ∀ p : Later wd.heap.size wd, p.val.cell? ⟨B, O + 7, none⟩ = some (.int .u32 (x 7 : Int)) := fun p => cell_keep p.ok (by rw [hwd]; exact c7)
                have dy0 : ∀ p : Later wd.heap.size wd, p.val.cell? ⟨B', O', sp'⟩ = some (.int .u32 (y 0 : Int)) := fun p => cell_keep p.ok (by rw [hwd]; exact e0)
                have dy1 : ∀ p : Later wd.heap.size wd, p.val.cell? ⟨B', O' + 1, none⟩ = some (.int .u32 (y 1 : Int)) := fun p => cell_keep p.ok (by rw [hwd]; exact e1)
                have dy2 : ∀ p : Later wd.heap.size wd, p.val.cell? ⟨B', O' + 2, none⟩ = some (.int .u32 (y 2 : Int)) := fun p => cell_keep p.ok (by rw [hwd]; exact e2)
                have dy3 : ∀ p : Later wd.heap.size wd, p.val.cell? ⟨B', O' + 3, none⟩ = some (.int .u32 (y 3 : Int)) := fun p => cell_keep p.ok (by rw [hwd]; exact e3)
                have dy4 : ∀ p : Later wd.heap.size wd, p.val.cell? ⟨B', O' + 4, none⟩ = some (.int .u32 (y 4 : Int)) := fun p => cell_keep p.ok (by rw [hwd]; exact e4)
                have dy5 : ∀ p : Later wd.heap.size wd, p.val.cell? ⟨B', O' + 5, none⟩ = some (.int .u32 (y 5 : Int)) := fun p => cell_keep p.ok (by rw [hwd]; exact e5)
                have dy6 : ∀ p : Later wd.heap.size wd, p.val.cell? ⟨B', O' + 6, none⟩ = some (.int .u32 (y 6 : Int)) := fun p => cell_keep p.ok (by rw [hwd]; exact e6)
                have dy7 : ∀ p : Later wd.heap.size wd, p.val.cell? ⟨B', O' + 7, none⟩ = some (.int .u32 (y 7 : Int)) := fun p => cell_keep p.ok (by rw [hwd]; exact e7)
                have HW := hid (show Below w.heap.size w wd by rw [hwd]; exact hB2)
                have HR2 := hid (show wd.ownsRow w.heap.size 24 8 u3 (refB l len i).length (flatV (refB l len i)) by rw [hwd]; exact HRI.out)
                clear hwd c0 e0 c1 e1 c2 e2 c3 e3 c4 e4 c5 e5 c6 e6 c7 e7
                repeat (go_big_quiet_step (first | (go_at_call 15; with_reducible exact Calls.later_of (Nat.le_refl _) (hab _))))
                refine wpQuiet_nil ?_
                rintro _ ⟨p, rfl⟩
                have HP := hid p.ok
                generalize p.val = wq at HP
                clear dx0 dy0 dx1 dy1 dx2 dy2 dx3 dy3 dx4 dy4 dx5 dy5 dx6 dy6 dx7 dy7
                go_wp2
                go_roundw
                case rel => exact ⟨k + 1, by omega, by go_num, by rw [HT.out], owns_belowV HR2.out HP.out, HW.out.trans (HP.out.mono HW.out.size)⟩
                case measure => simp [intOf]; omega
              · rw [he] at hbad hneq
                by_cases hki : k < i
                · have HT := hid (show topB l i x (k + 1) = false by rw [ht, hbad]; simp [hki])
                  clear ha he hbad ht
                  go_wp2
                  refine wp_region_later_n (by kernel_rfl) (by kernel_rfl) ?_
                  intro wd hwd
                  have dx0 : ∀ p : Later wd.heap.size wd, p.val.cell? ⟨B, O, sp⟩ = some (.int .u32 (x 0 : Int)) := fun p => cell_keep p.ok (by rw [hwd]; exact c0)
                  have dx1 : ∀ p : Later wd.heap.size wd, p.val.cell? ⟨B, O + 1, none⟩ = some (.int .u32 (x 1 : Int)) := fun p => cell_keep p.ok (by rw [hwd]; exact c1)
                  have dx2 : ∀ p : Later wd.heap.size wd, p.val.cell? ⟨B, O + 2, none⟩ = some (.int .u32 (x 2 : Int)) := fun p => cell_keep p.ok (by rw [hwd]; exact c2)
                  have dx3 : ∀ p : Later wd.heap.size wd, p.val.cell? ⟨B, O + 3, none⟩ = some (.int .u32 (x 3 : Int)) := fun p => cell_keep p.ok (by rw [hwd]; exact c3)
                  have dx4 : ∀ p : Later wd.heap.size wd, p.val.cell? ⟨B, O + 4, none⟩ = some (.int .u32 (x 4 : Int)) := fun p => cell_keep p.ok (by rw [hwd]; exact c4)
                  have dx5 : ∀ p : Later wd.heap.size wd, p.val.cell? ⟨B, O + 5, none⟩ = some (.int .u32 (x 5 : Int)) := fun p => cell_keep p.ok (by rw [hwd]; exact c5)
                  have dx6 : ∀ p : Later wd.heap.size wd, p.val.cell? ⟨B, O + 6, none⟩ = some (.int .u32 (x 6 : Int)) := fun p => cell_keep p.ok (by rw [hwd]; exact c6)
                  have dx7 : ∀ p : Later wd.heap.size wd, p.val.cell? ⟨B, O + 7, none⟩ = some (.int .u32 (x 7 : Int)) := fun p => cell_keep p.ok (by rw [hwd]; exact c7)
                  have dy0 : ∀ p : Later wd.heap.size wd, p.val.cell? ⟨B', O', sp'⟩ = some (.int .u32 (y 0 : Int)) := fun p => cell_keep p.ok (by rw [hwd]; exact e0)
                  have dy1 : ∀ p : Later wd.heap.size wd, p.val.cell? ⟨B', O' + 1, none⟩ = some (.int .u32 (y 1 : Int)) := fun p => cell_keep p.ok (by rw [hwd]; exact e1)
                  have dy2 : ∀ p : Later wd.heap.size wd, p.val.cell? ⟨B', O' + 2, none⟩ = some (.int .u32 (y 2 : Int)) := fun p => cell_keep p.ok (by rw [hwd]; exact e2)
                  have dy3 : ∀ p : Later wd.heap.size wd, p.val.cell? ⟨B', O' + 3, none⟩ = some (.int .u32 (y 3 : Int)) := fun p => cell_keep p.ok (by rw [hwd]; exact e3)
                  have dy4 : ∀ p : Later wd.heap.size wd, p.val.cell? ⟨B', O' + 4, none⟩ = some (.int .u32 (y 4 : Int)) := fun p => cell_keep p.ok (by rw [hwd]; exact e4)
                  have dy5 : ∀ p : Later wd.heap.size wd, p.val.cell? ⟨B', O' + 5, none⟩ = some (.int .u32 (y 5 : Int)) := fun p => cell_keep p.ok (by rw [hwd]; exact e5)
                  have dy6 : ∀ p : Later wd.heap.size wd, p.val.cell? ⟨B', O' + 6, none⟩ = some (.int .u32 (y 6 : Int)) := fun p => cell_keep p.ok (by rw [hwd]; exact e6)
                  have dy7 : ∀ p : Later wd.heap.size wd, p.val.cell? ⟨B', O' + 7, none⟩ = some (.int .u32 (y 7 : Int)) := fun p => cell_keep p.ok (by rw [hwd]; exact e7)
                  have HW := hid (show Below w.heap.size w wd by rw [hwd]; exact hB2)
                  have HR2 := hid (show wd.ownsRow w.heap.size 24 8 u3 (refB l len i).length (flatV (refB l len i)) by rw [hwd]; exact HRI.out)
                  clear hwd c0 e0 c1 e1 c2 e2 c3 e3 c4 e4 c5 e5 c6 e6 c7 e7
                  repeat (go_big_quiet_step (first | (go_at_call 15; with_reducible exact Calls.later_of (Nat.le_refl _) (hab _))))
                  refine wpQuiet_nil ?_
                  rintro _ ⟨p, rfl⟩
                  have HP := hid p.ok
                  generalize p.val = wq at HP
                  clear dx0 dy0 dx1 dy1 dx2 dy2 dx3 dy3 dx4 dy4 dx5 dy5 dx6 dy6 dx7 dy7
                  go_wp2
                  go_roundw
                  case rel => exact ⟨k + 1, by omega, by go_num, by rw [HT.out], owns_belowV HR2.out HP.out, HW.out.trans (HP.out.mono HW.out.size)⟩
                  case measure => simp [intOf]; omega
                · have HT := hid (show topB l i x (k + 1) = t0 by rw [ht, hbad]; simp [hki])
                  clear ha he hbad ht
                  go_wp2
                  refine wp_region_later_n (by kernel_rfl) (by kernel_rfl) ?_
                  intro wd hwd
                  have dx0 : ∀ p : Later wd.heap.size wd, p.val.cell? ⟨B, O, sp⟩ = some (.int .u32 (x 0 : Int)) := fun p => cell_keep p.ok (by rw [hwd]; exact c0)
                  have dx1 : ∀ p : Later wd.heap.size wd, p.val.cell? ⟨B, O + 1, none⟩ = some (.int .u32 (x 1 : Int)) := fun p => cell_keep p.ok (by rw [hwd]; exact c1)
                  have dx2 : ∀ p : Later wd.heap.size wd, p.val.cell? ⟨B, O + 2, none⟩ = some (.int .u32 (x 2 : Int)) := fun p => cell_keep p.ok (by rw [hwd]; exact c2)
                  have dx3 : ∀ p : Later wd.heap.size wd, p.val.cell? ⟨B, O + 3, none⟩ = some (.int .u32 (x 3 : Int)) := fun p => cell_keep p.ok (by rw [hwd]; exact c3)
                  have dx4 : ∀ p : Later wd.heap.size wd, p.val.cell? ⟨B, O + 4, none⟩ = some (.int .u32 (x 4 : Int)) := fun p => cell_keep p.ok (by rw [hwd]; exact c4)
                  have dx5 : ∀ p : Later wd.heap.size wd, p.val.cell? ⟨B, O + 5, none⟩ = some (.int .u32 (x 5 : Int)) := fun p => cell_keep p.ok (by rw [hwd]; exact c5)
                  have dx6 : ∀ p : Later wd.heap.size wd, p.val.cell? ⟨B, O + 6, none⟩ = some (.int .u32 (x 6 : Int)) := fun p => cell_keep p.ok (by rw [hwd]; exact c6)
                  have dx7 : ∀ p : Later wd.heap.size wd, p.val.cell? ⟨B, O + 7, none⟩ = some (.int .u32 (x 7 : Int)) := fun p => cell_keep p.ok (by rw [hwd]; exact c7)
                  have dy0 : ∀ p : Later wd.heap.size wd, p.val.cell? ⟨B', O', sp'⟩ = some (.int .u32 (y 0 : Int)) := fun p => cell_keep p.ok (by rw [hwd]; exact e0)
                  have dy1 : ∀ p : Later wd.heap.size wd, p.val.cell? ⟨B', O' + 1, none⟩ = some (.int .u32 (y 1 : Int)) := fun p => cell_keep p.ok (by rw [hwd]; exact e1)
                  have dy2 : ∀ p : Later wd.heap.size wd, p.val.cell? ⟨B', O' + 2, none⟩ = some (.int .u32 (y 2 : Int)) := fun p => cell_keep p.ok (by rw [hwd]; exact e2)
                  have dy3 : ∀ p : Later wd.heap.size wd, p.val.cell? ⟨B', O' + 3, none⟩ = some (.int .u32 (y 3 : Int)) := fun p => cell_keep p.ok (by rw [hwd]; exact e3)
                  have dy4 : ∀ p : Later wd.heap.size wd, p.val.cell? ⟨B', O' + 4, none⟩ = some (.int .u32 (y 4 : Int)) := fun p => cell_keep p.ok (by rw [hwd]; exact e4)
                  have dy5 : ∀ p : Later wd.heap.size wd, p.val.cell? ⟨B', O' + 5, none⟩ = some (.int .u32 (y 5 : Int)) := fun p => cell_keep p.ok (by rw [hwd]; exact e5)
                  have dy6 : ∀ p : Later wd.heap.size wd, p.val.cell? ⟨B', O' + 6, none⟩ = some (.int .u32 (y 6 : Int)) := fun p => cell_keep p.ok (by rw [hwd]; exact e6)
                  have dy7 : ∀ p : Later wd.heap.size wd, p.val.cell? ⟨B', O' + 7, none⟩ = some (.int .u32 (y 7 : Int)) := fun p => cell_keep p.ok (by rw [hwd]; exact e7)
                  have HW := hid (show Below w.heap.size w wd by rw [hwd]; exact hB2)
                  have HR2 := hid (show wd.ownsRow w.heap.size 24 8 u3 (refB l len i).length (flatV (refB l len i)) by rw [hwd]; exact HRI.out)
                  clear hwd c0 e0 c1 e1 c2 e2 c3 e3 c4 e4 c5 e5 c6 e6 c7 e7
                  repeat (go_big_quiet_step (first | (go_at_call 15; with_reducible exact Calls.later_of (Nat.le_refl _) (hab _))))
                  refine wpQuiet_nil ?_
                  rintro _ ⟨p, rfl⟩
                  have HP := hid p.ok
                  generalize p.val = wq at HP
                  clear dx0 dy0 dx1 dy1 dx2 dy2 dx3 dy3 dx4 dy4 dx5 dy5 dx6 dy6 dx7 dy7
                  go_wp2
                  go_roundw
                  case rel => exact ⟨k + 1, by omega, by go_num, by rw [HT.out], owns_belowV HR2.out HP.out, HW.out.trans (HP.out.mono HW.out.size)⟩
                  case measure => simp [intOf]; omega
          · obtain rfl : k = len := by omega
            have HRI := hid hrow
            clear hrow
            have hrs := refB_succ (k := k) HX.out.1
            cases ht : topB l i x k
            · rw [ht, if_neg (by decide)] at hrs
              have HS := hid hrs
              clear hrs ht
              go_wp2
              go_roundw
              case rel => exact ⟨i + 1, by omega, by go_num, by rw [HS.out]; exact HRI.out, hB2⟩
              case measure => simp [intOf]; omega
            · rw [ht, if_pos rfl] at hrs
              have HS := hid hrs
              clear hrs ht
              obtain ⟨x', B, O, sp, hx', _, hA, -, c0, c1, c2, c3, c4, c5, c6, c7⟩ := (HI.out.keep hB2).at i hlt
              obtain rfl : x = x' := by rw [HX.out.1] at hx'; exact Option.some.inj hx'
              have HL := hid (app_bounds (show (refB l k i).length + 1 ≤ 100001 by have := refB_length l k i; omega))
              have hs3 := hB2.size
              clear hx'
              go_wp2_with (first
                | (at_builtin; refine wpList_append_own _ rfl (.tmp 45) (.tmp 50) 49 rfl w.heap.size 24 i0 (.agg #[.int .u32 0, .int .u32 0, .int .u32 0, .int .u32 0, .int .u32 0, .int .u32 0, .int .u32 0, .int .u32 0]) 8 32 Try.underlying49 hi hz0 hz1 hz2 rfl (by decide) u3 _ _ rfl (HRI.out.alloc _) ⟨wr.heap.size, 0, none⟩ 1 1 (vc x).toList rfl rfl (cells_new8 _ _) (vc_one x) HL.out.1 HL.out.2 (size_alloc_le hs3 _) ?_; intro v4 w4 hown4 hgrow4 _; have hB4 := below_appendV hs3 HRI.out hgrow4; have HR4 := hid hown4; have HB4 := hid hB4; clear hown4 hgrow4 hB4)
                | go_in)
              go_roundw
              case rel =>
                refine ⟨i + 1, by omega, by go_num, ?_, hB2.trans HB4.out⟩
                rw [HS.out, flatV_append]
                have h4 := HR4.out
                simpa [flatV] using h4
              case measure => simp [intOf]; omega
    · obtain rfl : i = len := by omega
      have hr := owns_vecsV hrow (refB_ok hok _ _)
      have HR := hid hr
      clear hr hrow
      go_wp2
      go_ret
      exact ⟨_, rfl, HR.out, hB⟩

set_option maxHeartbeats 2000000 in
set_option maxRecDepth 100000 in
theorem ref_SameT (v v' : Value) (l : List Vec) (w : World) (hv : VecsV w v l) (hv' : VecsV w v' l) :
    Calls Try.prog 28 #[v, v'] w fun e w' => e = .returned (.bool true) ∧ Below w.heap.size w w' := by
  obtain ⟨a, len, cap, rfl, hI⟩ := hv
  obtain ⟨a', len', cap', rfl, hI'⟩ := hv'
  obtain rfl : len' = len := by rw [← hI.1, ← hI'.1]
  have hcap : len' ≤ 9223372036854775807 := by have := hI.2.1; have := hI.2.2.1; unfold maxLen at this; omega
  have HI := hid (And.intro hI hI')
  clear hI hI'
  go_enter Try.func28, Try.ntmps28
  go_wp2
  go_loopw [5] (fun i wr => ∃ k : Nat, k ≤ len' ∧ i = .int .i64 k ∧ Below w.heap.size w wr) (fun i _ => len' - (intOf i).toNat)
  case atStart => exact ⟨0, by omega, rfl, Below.refl _ _⟩
  case round =>
    obtain ⟨k, hk, rfl, hB⟩ := hrel
    by_cases hlt : k < len'
    · cases a with
      | none => have := HI.out.1.none_len; omega
      | some ad =>
        cases a' with
        | none => have := HI.out.2.none_len; omega
        | some ad' =>
          obtain ⟨x, B, O, sp, hx, _, hA, -, c0, c1, c2, c3, c4, c5, c6, c7⟩ := (HI.out.1.keep hB).at k hlt
          obtain ⟨y, B', O', sp', hy, _, hA', -, e0, e1, e2, e3, e4, e5, e6, e7⟩ := (HI.out.2.keep hB).at k hlt
          obtain rfl : y = x := by rw [hx] at hy; exact (Option.some.inj hy).symm
          have hneq := fun W => neqV (eqV_refl y) W
          clear hx hy
          go_wp2
          go_quiet (fail)
          go_wp2
          go_roundw
          case rel => exact ⟨k + 1, by omega, by go_num, hB.trans (below_drewN _ _ _)⟩
          case measure => simp [intOf]; omega
    · obtain rfl : k = len' := by omega
      go_wp2
      go_ret
      exact ⟨rfl, hB⟩

end Go.Proofs.Ytckfdjfcikljaaa
