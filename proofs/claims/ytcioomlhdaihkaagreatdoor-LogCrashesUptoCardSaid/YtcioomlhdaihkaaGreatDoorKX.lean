/-
  Disks: copies of files.
-/
import Derived.Test.YtcioomlhdaihkaaGreatDoorWK5
namespace Go.Proofs.YtcioomlhdaihkaaGreatDoor.K
set_option linter.unusedVariables false
set_option linter.unusedSimpArgs false
set_option maxRecDepth 100000
open Go Go.RowKit Go.Maps Go.MapKept Go.ChangeMaps

set_option maxRecDepth 100000
set_option linter.unusedVariables false
set_option linter.unusedSimpArgs false
set_option maxHeartbeats 1000000 in
theorem disk_copied {m n : Nat} {w : World} {f : Str → Option Value} (hm : MapAt w m n f) (hn : n < maxLen) (hform : ∀ s v, s.length ≤ maxLen → f s = some v → Form v) :
    Calls Tryz.prog 42 #[.map (some m)] w fun e w' => e = .returned (.map (some w.heap.size)) ∧ MapAt w' w.heap.size n (fun s => (f s).map clipV) ∧ Below w.heap.size w w' := by
  have hml := hm.lt
  obtain ⟨D, hown, hD⟩ := hm
  have hsz := hown.size_le
  have HD := Lib.hid hD
  have HF := Lib.hid hform
  have HN := Lib.hid hn
  have HM := Lib.hid hml
  have HZ := Lib.hid hsz
  clear hD hform hn hml hsz
  have hmm : (Instr.makeMap 50 (some (.int .i64 (Maps.size D : Int)))).run Tryz.prog w = .ok (.map (some w.heap.size)) (w.alloc (.map #[] 0)) := by
    simp [Instr.makeMap, run_underlying Tryz.underlying50, asInt, asIntOf]
  have hown1 : (w.alloc (.map #[] 0)).ownsMap Tryz.prog 9 hv m n D := hown.alloc _
  go_enter Tryz.func42, Tryz.ntmps42
  go_wp2_with (first
    | (at_len; refine wpList_len_own _ rfl _ 50 rfl 9 83 Tryz.underlying50 hv m n D rfl hown ?_)
    | (at_range; refine wpList_range_own _ rfl _ 50 rfl 9 83 strK Tryz.underlying50 hv m n D rfl hown1 ?_; intro w0 hrg0 hg0 hs0)
    | go_in)
  go_frame
  rw [World.size_alloc] at hrg0
  simp only [World.size_alloc]
  have hm0 : MapAt w0 w.heap.size 0 (fun s => if Maps.has D (.string s) then none else (f s).map clipV) := by
    refine ((map_made w).keep (hg0.block _ (by simp) (by simp))).congr (fun s hs => ?_)
    cases hh : Maps.has D (.string s) with
    | true => rfl
    | false =>
      cases hf : f s with
      | none => rfl
      | some v => have := ((HD.out s hs).2 v hf).1; rw [hh] at this; cases this
  have HM0 := Lib.hid hm0
  clear hm0
  go_loopw [4] (fun _ wr => ∃ (left : Lit → Bool) (cnt j : Nat), wr.ranges Tryz.prog 9 hv m (w.heap.size + 1) n D left cnt ∧ Hid (MapAt wr w.heap.size j (fun s => if left (.string s) then none else (f s).map clipV)) ∧ j + cnt ≤ Maps.size D ∧ Below w.heap.size w wr)
    (fun _ wr => wr.rangeLeft m (w.heap.size + 1))
  case atStart => exact ⟨_, _, 0, hrg0, HM0, by omega, ((Below.refl _ w).alloc (Nat.le_refl _) _).grown hg0 (by simp) (fun k e => by cases e)⟩
  case round =>
    obtain ⟨left, cnt, j, hrg, hma, hj, hbw⟩ := hrel
    go_wp2_with (first
      | (at_next; refine next_files _ rfl _ rfl m (w.heap.size + 1) n D left cnt rfl hrg ?_ ?_)
      | go_in)
    · intro hc0 hl0
      go_wp2
      go_ret
      exact ⟨rfl, (hma.out.congr (fun s _ => by rw [hl0]; rfl)).mono (by have := HZ.out; omega), hbw⟩
    · intro x v w1 cnt1 hx hlx hat hrg1 hlt hg1 hs1 hen
      have hfx : f x = some v := by
        cases hfx : f x with
        | none =>
          have h3 := (HD.out x hx).1 hfx
          have := hat .nil
          rw [atKey_of_not_has h3] at this
          cases this
        | some v' =>
          have h3 := ((HD.out x hx).2 v' hfx).2 .nil
          rw [hat] at h3
          have h4 : v = v' := by injection h3
          rw [h4]
      have hform := HF.out x v hx hfx
      have hma1 : MapAt w1 w.heap.size j (fun s => if left (.string s) then none else (f s).map clipV) := hma.out.keep (hg1.block _ hma.out.lt (fun e => by injection e with e; omega))
      obtain ⟨w2, hst, hma2, hturn⟩ := hma1.store (by have := HZ.out; have := HN.out; omega) hx (clipV v)
      have HFX := Lib.hid hfx
      have HM2 := Lib.hid hma2
      clear hfx hma1 hma2
      go_wp2_with (go_at_call 62; refine (clip_any hform _).mono ?_; rintro e w' ⟨rfl, rfl⟩)
      have hg2 := hturn.grown
      go_roundw
      case rel =>
        refine ⟨_, cnt1, j + 1, hrg1.kept hg2 (fun e => by injection e with e; have := HM.out; omega) (fun e => by injection e with e; omega), Lib.hid (HM2.out.congr (fun s hs => ?_)), by omega, ?_⟩
        · unfold upd
          by_cases e : s = x
          · subst e
            rw [if_pos rfl, sameKey_str hx, HFX.out]
            simp
          · rw [if_neg e, sameKey_str hx]
            simp [e]
        · exact (hbw.trans ⟨hg1.os, hg1.tape, hg1.output, hg1.size, fun k hk => hg1.block k (by have := hbw.size; omega) (fun e => by injection e with e; omega)⟩).trans ⟨hg2.os, hg2.tape, hg2.output, hg2.size, fun k hk => hg2.block k (by have := hbw.size; have := hg1.size; omega) (fun e => by injection e with e; omega)⟩
      case measure => rw [(hrg1.kept hg2 (fun e => by injection e with e; have := HM.out; omega) (fun e => by injection e with e; omega)).left_eq, hrg.left_eq]; exact hlt
end Go.Proofs.YtcioomlhdaihkaaGreatDoor.K
