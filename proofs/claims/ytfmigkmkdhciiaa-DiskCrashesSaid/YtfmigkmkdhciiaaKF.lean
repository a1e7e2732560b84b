/-
  Disks: what refuses a step; fuses.
-/
import Derived.Test.YtfmigkmkdhciiaaKE
namespace Go.Proofs.Ytfmigkmkdhciiaa.K
set_option linter.unusedVariables false
set_option linter.unusedSimpArgs false
set_option maxRecDepth 100000
open Go Go.RowKit Go.Maps Go.MapKept Go.ChangeMaps

theorem StrsAt.any {w : World} {v : Value} {l : List Str} (h : StrsAt w v l) : ∃ ad cap, v = .slice ad l.length cap ∧ ∀ (i : Nat) (s : Str), l[i]? = some s → ∃ g, ad = some ⟨g, 0, none⟩ ∧ w.cell? ⟨g, i, none⟩ = some (strV s) := by
  rcases h with ⟨rfl, rfl⟩ | ⟨g, cap, rfl, h0, hc⟩
  · exact ⟨none, 0, rfl, fun i s hi => by simp at hi⟩
  · exact ⟨_, cap, rfl, fun i s hi => ⟨g, rfl, hc i s hi⟩⟩
theorem all_take {l : List Str} {k : Nat} {s : Str} (h : (l.take k).all may = true) (hs : l[k]? = some s) (hm : may s = true) : (l.take (k + 1)).all may = true := by
  have hlt := (List.getElem?_eq_some_iff.1 hs).1
  rw [List.take_succ_eq_append_getElem hlt, List.all_append, h]
  have : l[k] = s := by have := List.getElem?_eq_getElem hlt; rw [hs] at this; exact (Option.some.inj this).symm
  rw [this]; simp [hm]
theorem all_not {l : List Str} {k : Nat} {s : Str} (hs : l[k]? = some s) (hm : may s = false) : l.all may = false := by
  rw [List.all_eq_false]
  exact ⟨s, List.mem_of_getElem? hs, by simp [hm]⟩

set_option maxHeartbeats 1000000 in
theorem disk_refuses {A : Gh} {w : World} {p : Nat} {s : St} {k : Dk} {v : Value} {ns : List Str} (hd : DiskIn A w p s k) (hv : StrsAt w v ns) (hn : ns.length ≤ 1000) (hns : ∀ n ∈ ns, n.length ≤ 1099511627776) :
    Calls Try.prog 35 #[.pointer (some ⟨p, 0, none⟩), v] w fun e w' => e = .returned (.int .i64 (s.refuse ns : Int)) ∧ w = w' := by
  have h1 : w.cell? ⟨p, 1, none⟩ = some (.map (some k.ms)) := cell_row hd.cells 1
  have h6 : w.cell? ⟨p, 6, none⟩ = some (.bool s.down) := cell_row hd.cells 6
  clear hd
  obtain ⟨ad, cap, rfl, hc⟩ := hv.any
  have HC := Lib.hid hc
  have HNS := Lib.hid hns
  clear hc hv hns
  go_enter Try.func35, Try.ntmps35
  go_wp2_with (go_at_call 28; refine (none_some p _ _ h1).mono ?_; rintro e w' ⟨rfl, rfl⟩)
  go_loop [11] (fun i => ∃ j : Nat, j ≤ ns.length ∧ i = .int .i64 j ∧ Hid ((ns.take j).all may = true)) (fun i => ns.length - (intOf i).toNat)
  case atStart => exact ⟨0, Nat.zero_le _, rfl, Lib.hid (by simp)⟩
  case round =>
    obtain ⟨j, hj, rfl, hall⟩ := hrel
    by_cases hlt : j < ns.length
    · obtain ⟨x, hx⟩ : ∃ x, ns[j]? = some x := ⟨_, List.getElem?_eq_getElem hlt⟩
      obtain ⟨g, rfl, hcx⟩ := HC.out j x hx
      have hxl := HNS.out x (List.mem_of_getElem? hx)
      have HX := Lib.hid hx
      clear hx
      cases hm : may x with
      | true =>
        have HM := Lib.hid hm
        go_wp2_with (go_at_call 34; refine (disk_mayName x hxl _).mono ?_; rw [HM.out]; clear hm; rintro e w' ⟨rfl, rfl⟩)
        go_round
        case rel => exact ⟨j + 1, hlt, by go_num, Lib.hid (all_take hall.out HX.out HM.out)⟩
        case measure => simp [intOf]; omega
      | false =>
        have HM := Lib.hid hm
        have e2 : s.refuse ns = 2 := by unfold St.refuse; rw [all_not HX.out hm]; rfl
        have E2 := Lib.hid e2
        clear e2
        go_wp2_with (go_at_call 34; refine (disk_mayName x hxl _).mono ?_; rw [HM.out]; clear hm; rintro e w' ⟨rfl, rfl⟩)
        go_ret
        exact ⟨by rw [E2.out]; rfl, rfl⟩
    · obtain rfl : j = ns.length := by omega
      have e2 : s.refuse ns = if s.down then 70 else 0 := by
        have := hall.out
        rw [List.take_length] at this
        unfold St.refuse; rw [this]; rfl
      have E2 := Lib.hid e2
      clear e2
      cases hdn : s.down with
      | true =>
        have E3 := Lib.hid hdn
        rw [hdn] at h6
        clear hdn
        go_wp2
        go_ret
        exact ⟨by rw [E2.out, E3.out]; rfl, rfl⟩
      | false =>
        have E3 := Lib.hid hdn
        rw [hdn] at h6
        clear hdn
        go_wp2
        go_ret
        exact ⟨by rw [E2.out, E3.out]; rfl, rfl⟩

theorem set_row {W : World} {b i : Nat} {cs : Array Value} {t : TypeId} {fr : Nat × Nat} (h : W.heap[b]? = some (.cells cs t fr)) (v : Value) : (W.setCell ⟨b, i, none⟩ v).heap[b]? = some (.cells (cs.setIfInBounds i v) t fr) := by
  simp only [World.setCell, Array.getElem?_modify, if_true, h]
  rfl
theorem set_size (W : World) (a : Addr) (v : Value) : (W.setCell a v).heap.size = W.heap.size := by simp [World.setCell]

theorem burn_ext {A : Gh} {w : World} {p : Nat} {s : St} {k : Dk} (hd : DiskIn A w p s k) (n : Nat) (hdn : s.down = false) :
    Ext (· = 2 * p + 1) noX A w A ((w.setCell ⟨p, 5, none⟩ (.int .i64 ((s.left - min n s.left : Nat) : Int))).setCell ⟨p, 6, none⟩ (.bool (decide (min n s.left < n)))) ∧
    DiskIn A ((w.setCell ⟨p, 5, none⟩ (.int .i64 ((s.left - min n s.left : Nat) : Int))).setCell ⟨p, 6, none⟩ (.bool (decide (min n s.left < n)))) p (s.burn n) k := by
  refine hd.set rfl rfl rfl (by rw [set_size, set_size]) (fun b hb => ?_) ?_ rfl rfl rfl (St.burn_ok hd.ok n hdn) (Nat.le_trans (Nat.sub_le _ _) hd.left) hd.room hd.units
  · rw [Below.heap_setCell _ _ _ _ (by simpa using hb), Below.heap_setCell _ _ _ _ (by simpa using hb)]
  · rw [set_row (set_row hd.cells _) _]
    rfl
theorem disk_burn {A : Gh} {w : World} {p : Nat} {s : St} {k : Dk} (hd : DiskIn A w p s k) (n : Nat) (hn : n ≤ 1099511627776) :
    Calls Try.prog 41 #[.pointer (some ⟨p, 0, none⟩), .int .i64 (n : Int)] w fun e w' => e = .returned (.int .i64 ((min n s.left : Nat) : Int)) ∧
      (w.setCell ⟨p, 5, none⟩ (.int .i64 ((s.left - min n s.left : Nat) : Int))).setCell ⟨p, 6, none⟩ (.bool (decide (min n s.left < n))) = w' := by
  have h5 : w.cell? ⟨p, 5, none⟩ = some (.int .i64 (s.left : Int)) := cell_row hd.cells 5
  have hf : ∀ i, w.frozen? ⟨p, i, none⟩ = false := fun i => by simp [World.frozen?, hd.cells]
  have hf5 := hf 5
  have hf6 := hf 6
  have hl : (s.left : Int) ≤ 9223372036854775807 := by have := hd.left; unfold noFuse at this; omega
  have hp := (Array.getElem?_eq_some_iff.1 hd.cells).1
  clear hf
  have hc6 : w.cell? ⟨p, 6, none⟩ = some (.bool s.down) := cell_row hd.cells 6
  clear hd
  go_enter Try.func41, Try.ntmps41
  go_wp2
  go_ret
  have e1 : min (n : Int) (s.left : Int) = ((min n s.left : Nat) : Int) := by omega
  have e2 : (s.left : Int) - ((min n s.left : Nat) : Int) = ((s.left - min n s.left : Nat) : Int) := by omega
  have e3 : decide (((min n s.left : Nat) : Int) < (n : Int)) = decide (min n s.left < n) := decide_eq_decide.2 (by omega)
  refine ⟨by show Ending.returned (.int .i64 (min (n : Int) (s.left : Int))) = _; rw [e1], ?_⟩
  rw [e1, e2, e3]
end Go.Proofs.Ytfmigkmkdhciiaa.K
