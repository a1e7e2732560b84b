/-
  Disks: names, refusals, fuses.
-/
import Derived.Test.YtcioomlhdaihkaaGreatDoorKD
import Derived.Test.YtcioomlhdaihkaaGreatDoorWK5
namespace Go.Proofs.YtcioomlhdaihkaaGreatDoor.K
set_option linter.unusedVariables false
set_option linter.unusedSimpArgs false
set_option maxRecDepth 100000
open Go Go.RowKit Go.Maps Go.MapKept Go.ChangeMaps

set_option maxRecDepth 100000
set_option linter.unusedVariables false
set_option linter.unusedSimpArgs false
theorem size_str (n : Str) : (⟨n.toArray⟩ : ByteArray).size = n.length := by simp [ByteArray.size]
theorem disk_mayName (n : Str) (hn : n.length ≤ 1099511627776) (w : World) : Calls Tryz.prog 67 #[strV n] w fun e w' => e = .returned (.bool (may n)) ∧ w = w' := by
  cases n with
  | nil =>
    go_enter Tryz.func67, Tryz.ntmps67
    go_wp2
    go_ret
    exact ⟨rfl, rfl⟩
  | cons c r =>
    obtain ⟨b, hb⟩ : ∃ b : ByteArray, b = ⟨(c :: r).toArray⟩ := ⟨_, rfl⟩
    have hs : b.size = (c :: r).length := by rw [hb]; exact size_str _
    show Calls Tryz.prog _ #[.string ⟨(c :: r).toArray⟩] _ _
    rw [← hb]
    have hE : b.toList = c :: r := by rw [hb]; exact ByteArray.toList_mk _
    have hne : b.toList.isEmpty = false := by rw [hE]; rfl
    have hne2 : ¬ b.toList = [] := by rw [hE]; simp
    clear hE
    have hb9 : b.size ≤ 1099511627776 := by omega
    by_cases h32 : b.size ≤ 32
    · have hm : may (c :: r) = true := by unfold may; simp at hs ⊢; omega
      rw [hm]
      have h3 : decide ((b.size : Int) ≤ 32) = true := decide_eq_true (by omega)
      clear hm hb hs
      go_enter Tryz.func67, Tryz.ntmps67
      go_wp2
      go_ret
      exact ⟨rfl, rfl⟩
    · have hm : may (c :: r) = false := by unfold may; simp at hs ⊢; omega
      rw [hm]
      have h3 : decide ((b.size : Int) ≤ 32) = false := decide_eq_false (by omega)
      clear hm hb hs
      go_enter Tryz.func67, Tryz.ntmps67
      go_wp2
      go_ret
      exact ⟨rfl, rfl⟩

theorem disk_Units {A : Gh} {w : World} {p : Nat} {s : St} {k : Dk} (hd : DiskIn A w p s k) : Calls Tryz.prog 21 #[.pointer (some ⟨p, 0, none⟩)] w fun e w' => e = .returned (.int .i64 (s.units : Int)) ∧ w = w' := by
  have h1 : w.cell? ⟨p, 1, none⟩ = some (.map (some k.ms)) := cell_row hd.cells 1
  have h4 : w.cell? ⟨p, 4, none⟩ = some (.int .i64 (s.units : Int)) := cell_row hd.cells 4
  clear hd
  go_enter Tryz.func21, Tryz.ntmps21
  go_wp2_with (go_at_call 25; refine (none_some p _ _ h1).mono ?_; rintro e w' ⟨rfl, rfl⟩)
  go_ret
  exact ⟨rfl, rfl⟩
theorem disk_Down {A : Gh} {w : World} {p : Nat} {s : St} {k : Dk} (hd : DiskIn A w p s k) : Calls Tryz.prog 18 #[.pointer (some ⟨p, 0, none⟩)] w fun e w' => e = .returned (.bool s.down) ∧ w = w' := by
  have h1 : w.cell? ⟨p, 1, none⟩ = some (.map (some k.ms)) := cell_row hd.cells 1
  have h6 : w.cell? ⟨p, 6, none⟩ = some (.bool s.down) := cell_row hd.cells 6
  clear hd
  go_enter Tryz.func18, Tryz.ntmps18
  go_wp2_with (go_at_call 25; refine (none_some p _ _ h1).mono ?_; rintro e w' ⟨rfl, rfl⟩)
  go_ret
  exact ⟨rfl, rfl⟩
end Go.Proofs.YtcioomlhdaihkaaGreatDoor.K

namespace Go.Proofs.YtcioomlhdaihkaaGreatDoor.K
set_option linter.unusedVariables false
set_option linter.unusedSimpArgs false
set_option maxRecDepth 100000
open Go Go.RowKit Go.Maps Go.MapKept Go.ChangeMaps

set_option maxRecDepth 100000
set_option linter.unusedVariables false
set_option linter.unusedSimpArgs false
theorem StrsAt.any {w : World} {v : Value} {l : List Str} (h : StrsAt w v l) : ∃ ad cap, v = .slice ad l.length cap ∧ ∀ (i : Nat) (s : Str), l[i]? = some s → ∃ g, ad = some ⟨g, 0, none⟩ ∧ w.cell? ⟨g, i, none⟩ = some (strV s) := by
  rcases h with ⟨rfl, rfl⟩ | ⟨g, cap, rfl, h0, hc⟩
  · exact ⟨none, 0, rfl, fun i s hi => by simp at hi⟩
  · exact ⟨_, cap, rfl, fun i s hi => ⟨g, rfl, hc i s hi⟩⟩
theorem all_take {l : List Str} {k : Nat} {s : Str} (h : (l.take k).all may = true) (hs : l[k]? = some s) (hm : may s = true) : (l.take (k + 1)).all may = true := by
  have hlt := (List.getElem?_eq_some_iff.1 hs).1
  rw [List.take_succ_eq_append_getElem hlt, List.all_append, h]
  have : l[k] = s := by have := List.getElem?_eq_getElem hlt; rw [hs] at this; exact (Option.some.inj this).symm
  rw [this]; simp [hm]
theorem all_not {l : List Str} {k : Nat} {s : Str} (hs : l[k]? = some s) (hm : may s = false) : l.all may = false := by
  rw [List.all_eq_false]
  exact ⟨s, List.mem_of_getElem? hs, by simp [hm]⟩

set_option maxHeartbeats 1000000 in
theorem disk_refuses {A : Gh} {w : World} {p : Nat} {s : St} {k : Dk} {v : Value} {ns : List Str} (hd : DiskIn A w p s k) (hv : StrsAt w v ns) (hn : ns.length ≤ 1000) (hns : ∀ n ∈ ns, n.length ≤ 1099511627776) :
    Calls Tryz.prog 52 #[.pointer (some ⟨p, 0, none⟩), v] w fun e w' => e = .returned (.int .i64 (s.refuse ns : Int)) ∧ w = w' := by
  have h1 : w.cell? ⟨p, 1, none⟩ = some (.map (some k.ms)) := cell_row hd.cells 1
  have h6 : w.cell? ⟨p, 6, none⟩ = some (.bool s.down) := cell_row hd.cells 6
  clear hd
  obtain ⟨ad, cap, rfl, hc⟩ := hv.any
  have HC := Lib.hid hc
  have HNS := Lib.hid hns
  clear hc hv hns
  go_enter Tryz.func52, Tryz.ntmps52
  go_wp2_with (go_at_call 25; refine (none_some p _ _ h1).mono ?_; rintro e w' ⟨rfl, rfl⟩)
  go_loop [11] (fun i => ∃ j : Nat, j ≤ ns.length ∧ i = .int .i64 j ∧ Hid ((ns.take j).all may = true)) (fun i => ns.length - (intOf i).toNat)
  case atStart => exact ⟨0, Nat.zero_le _, rfl, Lib.hid (by simp)⟩
  case round =>
    obtain ⟨j, hj, rfl, hall⟩ := hrel
    by_cases hlt : j < ns.length
    · obtain ⟨x, hx⟩ : ∃ x, ns[j]? = some x := ⟨_, List.getElem?_eq_getElem hlt⟩
      obtain ⟨g, rfl, hcx⟩ := HC.out j x hx
      have hxl := HNS.out x (List.mem_of_getElem? hx)
      have HX := Lib.hid hx
      clear hx
      cases hm : may x with
      | true =>
        have HM := Lib.hid hm
        go_wp2_with (go_at_call 67; refine (disk_mayName x hxl _).mono ?_; rw [HM.out]; clear hm; rintro e w' ⟨rfl, rfl⟩)
        go_round
        case rel => exact ⟨j + 1, hlt, by go_num, Lib.hid (all_take hall.out HX.out HM.out)⟩
        case measure => simp [intOf]; omega
      | false =>
        have HM := Lib.hid hm
        have e2 : s.refuse ns = 2 := by unfold St.refuse; rw [all_not HX.out hm]; rfl
        have E2 := Lib.hid e2
        clear e2
        go_wp2_with (go_at_call 67; refine (disk_mayName x hxl _).mono ?_; rw [HM.out]; clear hm; rintro e w' ⟨rfl, rfl⟩)
        go_ret
        exact ⟨by rw [E2.out]; rfl, rfl⟩
    · obtain rfl : j = ns.length := by omega
      have e2 : s.refuse ns = if s.down then 70 else 0 := by
        have := hall.out
        rw [List.take_length] at this
        unfold St.refuse; rw [this]; rfl
      have E2 := Lib.hid e2
      clear e2
      cases hdn : s.down with
      | true =>
        have E3 := Lib.hid hdn
        rw [hdn] at h6
        clear hdn
        go_wp2
        go_ret
        exact ⟨by rw [E2.out, E3.out]; rfl, rfl⟩
      | false =>
        have E3 := Lib.hid hdn
        rw [hdn] at h6
        clear hdn
        go_wp2
        go_ret
        exact ⟨by rw [E2.out, E3.out]; rfl, rfl⟩

theorem set_row {W : World} {b i : Nat} {cs : Array Value} {t : TypeId} {fr : Nat × Nat} (h : W.heap[b]? = some (.cells cs t fr)) (v : Value) : (W.setCell ⟨b, i, none⟩ v).heap[b]? = some (.cells (cs.setIfInBounds i v) t fr) := by
  simp only [World.setCell, Array.getElem?_modify, if_true, h]
  rfl
theorem set_size (W : World) (a : Addr) (v : Value) : (W.setCell a v).heap.size = W.heap.size := by simp [World.setCell]

theorem burn_ext {A : Gh} {w : World} {p : Nat} {s : St} {k : Dk} (hd : DiskIn A w p s k) (n : Nat) (hdn : s.down = false) :
    Ext (· = 2 * p + 1) noX A w A ((w.setCell ⟨p, 5, none⟩ (.int .i64 ((s.left - min n s.left : Nat) : Int))).setCell ⟨p, 6, none⟩ (.bool (decide (min n s.left < n)))) ∧
    DiskIn A ((w.setCell ⟨p, 5, none⟩ (.int .i64 ((s.left - min n s.left : Nat) : Int))).setCell ⟨p, 6, none⟩ (.bool (decide (min n s.left < n)))) p (s.burn n) k := by
  refine hd.set rfl rfl rfl (by rw [set_size, set_size]) (fun b hb => ?_) ?_ rfl rfl rfl (St.burn_ok hd.ok n hdn) (Nat.le_trans (Nat.sub_le _ _) hd.left) hd.room hd.units
  · rw [Below.heap_setCell _ _ _ _ (by simpa using hb), Below.heap_setCell _ _ _ _ (by simpa using hb)]
  · rw [set_row (set_row hd.cells _) _]
    rfl
theorem disk_burn {A : Gh} {w : World} {p : Nat} {s : St} {k : Dk} (hd : DiskIn A w p s k) (n : Nat) (hn : n ≤ 1099511627776) :
    Calls Tryz.prog 80 #[.pointer (some ⟨p, 0, none⟩), .int .i64 (n : Int)] w fun e w' => e = .returned (.int .i64 ((min n s.left : Nat) : Int)) ∧
      (w.setCell ⟨p, 5, none⟩ (.int .i64 ((s.left - min n s.left : Nat) : Int))).setCell ⟨p, 6, none⟩ (.bool (decide (min n s.left < n))) = w' := by
  have h5 : w.cell? ⟨p, 5, none⟩ = some (.int .i64 (s.left : Int)) := cell_row hd.cells 5
  have hf : ∀ i, w.frozen? ⟨p, i, none⟩ = false := fun i => by simp [World.frozen?, hd.cells]
  have hf5 := hf 5
  have hf6 := hf 6
  have hl : (s.left : Int) ≤ 9223372036854775807 := by have := hd.left; unfold noFuse at this; omega
  have hp := (Array.getElem?_eq_some_iff.1 hd.cells).1
  clear hf
  have hc6 : w.cell? ⟨p, 6, none⟩ = some (.bool s.down) := cell_row hd.cells 6
  clear hd
  go_enter Tryz.func80, Tryz.ntmps80
  go_wp2
  go_ret
  have e1 : min (n : Int) (s.left : Int) = ((min n s.left : Nat) : Int) := by omega
  have e2 : (s.left : Int) - ((min n s.left : Nat) : Int) = ((s.left - min n s.left : Nat) : Int) := by omega
  have e3 : decide (((min n s.left : Nat) : Int) < (n : Int)) = decide (min n s.left < n) := decide_eq_decide.2 (by omega)
  refine ⟨by show Ending.returned (.int .i64 (min (n : Int) (s.left : Int))) = _; rw [e1], ?_⟩
  rw [e1, e2, e3]
end Go.Proofs.YtcioomlhdaihkaaGreatDoor.K

namespace Go.Proofs.YtcioomlhdaihkaaGreatDoor.K
set_option linter.unusedVariables false
set_option linter.unusedSimpArgs false
set_option maxRecDepth 100000
open Go Go.RowKit Go.Maps Go.MapKept Go.ChangeMaps

set_option maxRecDepth 100000
set_option linter.unusedVariables false
set_option linter.unusedSimpArgs false
theorem infoSeq : (Tryz.prog.info? 70).map (fun i => (i.zero, i.size, i.bytes)) = some (some Value.nilFunc, 1, 8) := by kernel_rfl
theorem seq_new (A : Gh) (w : World) (t cap : Nat) (xs : List Value) (rest : Array Value) (h0 : 0 < xs.length) (hcap : xs.length ≤ cap) (hm : cap ≤ maxLen) (hsz : xs.length + rest.size = cap) :
    RowAt t (setG A w.heap.size (.own t 0)) (w.alloc (.cells (xs.toArray ++ rest) 70)) (.slice (some ⟨w.heap.size, 0, none⟩) xs.length cap) xs := by
  refine .inr ⟨w.heap.size, cap, _, rfl, heap_last w _, by simpa using hsz, hm, ⟨h0, hcap⟩, setG_same .., fun i x hx => ?_⟩
  have hi := (List.getElem?_eq_some_iff.1 hx).1
  rw [Array.getElem?_append_left (by simpa using hi)]
  simpa using hx

theorem append_step {A : Gh} {w : World} {t : Nat} {vs : Value} {xs : List Value} (hR : RowAt t A w vs xs) (hlen : xs.length ≤ 1099511627776) (ht : t < 2 * w.heap.size) (x : Value) (h1 : x.oneCell' = true) (g0 : Nat) (hx : w.cell? ⟨g0, 0, none⟩ = some x) :
    ∃ v' w' A', (Builtin.append_ #[51, 51] 51 #[vs, .slice (some ⟨g0, 0, none⟩) 1 1]).run Tryz.prog w = .ok v' w' ∧ Ext (· = t) noX A w A' w' ∧ RowAt t A' w' v' (xs ++ [x]) ∧
      (∀ b : Nat, b < w.heap.size → A' b = A b) ∧ ∀ (b : Nat) (cs : Array Value) (ty : TypeId) (fr : Nat × Nat), w.heap[b]? = some (.cells cs ty fr) → ty ≠ 70 → w'.heap[b]? = some (.cells cs ty fr) := by
  obtain ⟨i0, hi, hz0, hz1, hz2⟩ := info_parts infoSeq
  have hnews : ∀ (j : Nat) (u : Value), [x][j]? = some u → w.cell? ((⟨g0, 0, none⟩ : Addr).add j) = some u := by
    intro j u hu
    cases j with
    | zero => rw [add0]; simp at hu; subst hu; exact hx
    | succ j => simp at hu
  have zc : ∀ k, (Builtin.zeroCells (Value.nilFunc).cells k).size = k := fun k => by rw [size_zeroCells]; simp [Value.cells, Value.nilFunc]
  rcases hR with ⟨rfl, rfl⟩ | ⟨g, cap, cur, rfl, hcur, hcs, hm, hcap, hA, hcells⟩
  · have hr := run_append_nil (P := Tryz.prog) w 51 51 70 i0 _ Tryz.underlying51 hi hz0 ⟨g0, 0, none⟩ 1 1 [x] (by rw [hz1]; rfl) hnews (by omega) (by omega) (by rw [hz2]; omega)
    have hge := grownCap_ge w 1 0 70
    have b1 := seq_new A w.drew t (grownCap w 1 0 70) [x] (Builtin.zeroCells (Value.nilFunc).cells (grownCap w 1 0 70 - 1)) (by simp) hge (grownCap_le_maxLen w 1 0 _ (by unfold maxLen; omega)) (by rw [zc]; simp; omega)
    exact ⟨_, _, _, hr, Ext.newG ((Below.refl _ w).drew.alloc (Nat.le_refl _) _) (Nat.le_refl _) (by simp) _ (fun t' g' e => by cases e; simp; omega), b1, fun b hb => setG_other A _ (by simp; omega), fun b cs ty fr hb _ => (Below.heap_alloc w.drew _ b (Array.getElem?_eq_some_iff.1 hb).1).trans hb⟩
  · have hg := (Array.getElem?_eq_some_iff.1 hcur).1
    have holds : ∀ (j : Nat) (u : Value), xs[j]? = some u → w.cell? ((⟨g, 0, none⟩ : Addr).add j) = some u := by
      intro j u hu
      rw [add0, cell_row hcur]
      exact hcells j u hu
    by_cases hroom : xs.length < cap
    · have hr := run_append_room (P := Tryz.prog) w 51 51 70 i0 Tryz.underlying51 hi g xs.length cap cur hcur ⟨g0, 0, none⟩ 1 1 [x] (by rw [hz1]; rfl) hnews (fun u hu => by rw [List.mem_singleton] at hu; subst hu; exact h1) (by omega) (by rw [hz1]; simp; omega)
      rw [hz1, Nat.mul_one] at hr
      have hrow := setRow_heap w g cur (cur.toList.take xs.length ++ [x] ++ cur.toList.drop (xs.length + [x].length)).toArray 70 (0, 0) hcur
      have hE : Ext (· = t) noX A w A (w.setRow g (cur.toList.take xs.length ++ [x] ++ cur.toList.drop (xs.length + [x].length)).toArray) := by
        have := Ext.turn (X := noX) (T := (· = t)) (w := w) (w' := w.setRow g (cur.toList.take xs.length ++ [x] ++ cur.toList.drop (xs.length + [x].length)).toArray) hA rfl (Nat.le_refl 0) rfl rfl rfl (by simp [World.setRow]) hg (fun b hne => setRow_other w g b _ hne) (fun i hi => absurd hi (Nat.not_lt_zero _))
        rwa [setG_eq hA] at this
      refine ⟨_, _, A, hr, hE, .inr ⟨g, cap, _, by simp, hrow, by simp; omega, hm, by simp; omega, hA, fun i y hy => ?_⟩, fun _ _ => rfl, fun b cs ty fr hb hty => ?_⟩
      · by_cases hi : i < xs.length
        · rw [List.getElem?_toArray, List.append_assoc, List.getElem?_append_left (by simp; omega), List.getElem?_take, if_pos hi, Array.getElem?_toList]
          rw [List.getElem?_append_left hi] at hy
          exact hcells i y hy
        · have hil := (List.getElem?_eq_some_iff.1 hy).1
          simp at hil
          obtain rfl : i = xs.length := by omega
          simp at hy
          subst hy
          rw [List.getElem?_toArray, List.append_assoc, List.getElem?_append_right (List.length_take_le _ _)]
          have : (List.take xs.length cur.toList).length = xs.length := by simp; omega
          rw [this]
          simp
      · refine (setRow_other w g b _ (fun e => ?_)).trans hb
        subst e
        rw [hcur] at hb
        have := Option.some.inj hb
        injection this with _ ht _
        exact hty ht.symm
    · have hcl : cap = xs.length := by omega
      have hr := run_append_grow (P := Tryz.prog) w 51 51 70 i0 _ Tryz.underlying51 hi hz0 ⟨g, 0, none⟩ xs.length cap xs (by rw [hz1]; simp) holds ⟨g0, 0, none⟩ 1 1 [x] (by rw [hz1]; rfl) hnews (by omega) (by omega)
        (by rw [hz2]; have := nextslicecap_le (need := xs.length + 1) (old := cap) (by omega); omega)
      have hge := grownCap_ge w (xs.length + 1) cap 70
      have he : xs.toArray ++ [x].toArray ++ Builtin.zeroCells (Value.nilFunc).cells (grownCap w (xs.length + 1) cap 70 - (xs.length + 1)) = (xs ++ [x]).toArray ++ Builtin.zeroCells (Value.nilFunc).cells (grownCap w (xs.length + 1) cap 70 - (xs.length + 1)) := by simp
      rw [he] at hr
      have b1 := seq_new A w.drew t (grownCap w (xs.length + 1) cap 70) (xs ++ [x]) (Builtin.zeroCells (Value.nilFunc).cells (grownCap w (xs.length + 1) cap 70 - (xs.length + 1))) (by simp) (by simp; exact hge) (grownCap_le_maxLen w _ _ _ (by unfold maxLen; omega)) (by rw [zc]; simp; omega)
      have el : (xs ++ [x]).length = xs.length + 1 := by simp
      rw [el] at b1
      exact ⟨_, _, _, hr, Ext.newG ((Below.refl _ w).drew.alloc (Nat.le_refl _) _) (Nat.le_refl _) (by simp) _ (fun t' g' e => by cases e; simp; omega), b1, fun b hb => setG_other A _ (by simp; omega), fun b cs ty fr hb _ => (Below.heap_alloc w.drew _ b (Array.getElem?_eq_some_iff.1 hb).1).trans hb⟩

/-- One step more is kept. -/
theorem Parts.push {A B : Gh} {w w' : World} {p : Nat} {fs fv : Fs} {ss : List (List U)} {k : Dk} {x v' : Value} {us : List U} (hd : Parts A w p fs fv ss k) (hp : p < w.heap.size) (hE : Ext (· = 2 * p + 1) noX A w B w') (hx : StepAt A w x us)
    (hR : RowAt (2 * p + 1) B w' v' (k.xs ++ [x])) (hG : ∀ b, b < w.heap.size → B b = A b) : Parts B w' p fs fv (ss ++ [us]) { k with vs := v', xs := k.xs ++ [x] } := by
  have h0 : ¬ (2 * p = 2 * p + 1) := by omega
  obtain ⟨gv, hgv⟩ := hd.mv
  refine ⟨(hG p hp).trans hd.own, fixed_keep hE hd.synced.map.lt hd.ms, ⟨gv, (hG _ hd.seen.map.lt).trans hgv⟩, hd.clip, hd.synced.extC hd.clip hE hd.ms, hd.seen.ext hE (fun _ h => h.elim) h0 (by rw [hgv]; simp) (fun t g e => by rw [hgv] at e; cases e; omega), hR, by simp [hd.len], fun i y vs hy hvs => ?_⟩
  have hlen := hd.len
  by_cases hi : i < k.xs.length
  · rw [List.getElem?_append_left hi] at hy
    rw [List.getElem?_append_left (by omega)] at hvs
    exact (hd.steps i y vs hy hvs).ext hE
  · have hil := (List.getElem?_eq_some_iff.1 hy).1
    simp at hil
    obtain rfl : i = k.xs.length := by omega
    rw [hlen] at hvs
    rw [List.getElem?_append_right (Nat.le_refl _), Nat.sub_self] at hy hvs
    simp at hy hvs
    subst hy hvs
    exact hx.ext hE
end Go.Proofs.YtcioomlhdaihkaaGreatDoor.K
