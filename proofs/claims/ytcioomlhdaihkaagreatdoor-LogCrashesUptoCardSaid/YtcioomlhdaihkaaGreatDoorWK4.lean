/-
  Disks: reading, fuses.
-/
import Derived.Test.YtcioomlhdaihkaaGreatDoorKO
import Derived.Lib.ConvBytes
import Derived.Test.YtcioomlhdaihkaaGreatDoorKT
import Derived.Lib.SlBytesRow
import Derived.Test.YtcioomlhdaihkaaGreatDoorKB2
import Derived.Test.YtcioomlhdaihkaaGreatDoorKH
namespace Go.Proofs.YtcioomlhdaihkaaGreatDoor.K
set_option linter.unusedVariables false
set_option linter.unusedSimpArgs false
set_option maxRecDepth 100000
open Go Go.RowKit Go.Maps Go.MapKept Go.ChangeMaps

set_option maxRecDepth 100000
set_option linter.unusedVariables false
set_option linter.unusedSimpArgs false
theorem disk_Fuse {A : Gh} {w : World} {p : Nat} {s : St} (hd : DiskAt A w p s) (k : Int) (hk : k ≤ 9223372036854775807) (hk0 : -9223372036854775808 ≤ k) :
    Calls Tryz.prog 12 #[.pointer (some ⟨p, 0, none⟩), .int .i64 k] w fun e w' => e = .returned (.int .i64 ((s.fuse k).2 : Int)) ∧ Done A w p (s.fuse k).1 w' := by
  obtain ⟨d, hd⟩ := hd
  have h1 : w.cell? ⟨p, 1, none⟩ = some (.map (some d.ms)) := cell_row hd.cells 1
  have h6 : w.cell? ⟨p, 6, none⟩ = some (.bool s.down) := cell_row hd.cells 6
  have h5 : w.cell? ⟨p, 5, none⟩ = some (.int .i64 (s.left : Int)) := cell_row hd.cells 5
  have hf5 : w.frozen? ⟨p, 5, none⟩ = false := by simp [World.frozen?, hd.cells]
  by_cases hneg : k < 0
  · have e1 : s.fuse k = (s, 2) := by unfold St.fuse; rw [if_pos hneg]
    rw [e1]
    have hfin : Done A w p s w := ⟨A, Ext.refl _ _ _ _, d, hd⟩
    clear e1 hd
    go_enter Tryz.func12, Tryz.ntmps12
    go_wp2_with (go_at_call 25; refine (none_some p _ _ h1).mono ?_; rintro e w' ⟨rfl, rfl⟩)
    go_ret
    exact ⟨rfl, hfin⟩
  · cases hdn : s.down with
    | true =>
      have e1 : s.fuse k = (s, 70) := by unfold St.fuse; rw [if_neg hneg, if_pos hdn]
      rw [e1]
      have hfin : Done A w p s w := ⟨A, Ext.refl _ _ _ _, d, hd⟩
      rw [hdn] at h6
      clear e1 hd
      go_enter Tryz.func12, Tryz.ntmps12
      go_wp2_with (go_at_call 25; refine (none_some p _ _ h1).mono ?_; rintro e w' ⟨rfl, rfl⟩)
      go_ret
      exact ⟨rfl, hfin⟩
    | false =>
      have e1 : s.fuse k = ({ s with left := k.toNat }, 0) := by unfold St.fuse; rw [if_neg hneg, hdn]; rfl
      rw [e1]
      have hkn : ((k.toNat : Nat) : Int) = k := Int.toNat_of_nonneg (by omega)
      have hfin : Done A w p { s with left := k.toNat } (w.setCell ⟨p, 5, none⟩ (.int .i64 k)) := by
        obtain ⟨hE, hD⟩ := hd.set (w' := w.setCell ⟨p, 5, none⟩ (.int .i64 k)) (s' := { s with left := k.toNat }) rfl rfl rfl (set_size _ _ _) (fun b hb => Below.heap_setCell _ _ _ _ (by simpa using hb)) (by rw [set_row hd.cells _, ← hkn]; rfl) rfl rfl rfl
          ⟨hd.ok.sorted, hd.ok.seen, hd.ok.units, hd.ok.up⟩ (by unfold noFuse; show k.toNat ≤ _; omega) hd.room hd.units
        exact ⟨A, hE.mono0 (fun t h => .inr h), d, hD⟩
      rw [hdn] at h6
      clear e1 hd hkn
      go_enter Tryz.func12, Tryz.ntmps12
      go_wp2_with (go_at_call 25; refine (none_some p _ _ h1).mono ?_; rintro e w' ⟨rfl, rfl⟩)
      go_ret
      exact ⟨rfl, hfin⟩
end Go.Proofs.YtcioomlhdaihkaaGreatDoor.K

namespace Go.Proofs.YtcioomlhdaihkaaGreatDoor.K
set_option linter.unusedVariables false
set_option linter.unusedSimpArgs false
set_option maxRecDepth 100000
open Go Go.RowKit Go.Maps Go.MapKept Go.ChangeMaps

set_option maxRecDepth 100000
set_option linter.unusedVariables false
set_option linter.unusedSimpArgs false
/-- A disk is made: its ghost. -/
theorem made_disk {A : Gh} {w : World} (room : Nat) (hr : room ≤ 16777216) :
    ∃ A', Ext none_ noX A w A' (((w.alloc (.map #[] 0)).alloc (.map #[] 0)).alloc (.cells (dcells room (.map (some w.heap.size)) (.map (some (w.heap.size + 1))) (.slice none 0 0) 0 noFuse false) 53)) ∧
      DiskAt A' (((w.alloc (.map #[] 0)).alloc (.map #[] 0)).alloc (.cells (dcells room (.map (some w.heap.size)) (.map (some (w.heap.size + 1))) (.slice none 0 0) 0 noFuse false) 53)) (w.heap.size + 2) (new room) := by
  obtain ⟨W, hW⟩ : ∃ W, ((w.alloc (.map #[] 0)).alloc (.map #[] 0)).alloc (.cells (dcells room (.map (some w.heap.size)) (.map (some (w.heap.size + 1))) (.slice none 0 0) 0 noFuse false) 53) = W := ⟨_, rfl⟩
  have e1 : (w.alloc (.map #[] 0)).heap.size = w.heap.size + 1 := by simp
  have e2 : ((w.alloc (.map #[] 0)).alloc (.map #[] 0)).heap.size = w.heap.size + 2 := by simp
  have e3 : W.heap.size = w.heap.size + 3 := by rw [← hW]; simp
  have hB : Below w.heap.size w W := by rw [← hW]; exact (((Below.refl _ w).alloc (Nat.le_refl _) _).alloc (by omega) _).alloc (by omega) _
  have m1 : MapAt W w.heap.size 0 (fun _ => none) := by
    rw [← hW]
    exact ((map_made w).keep (w' := (w.alloc (.map #[] 0)).alloc (.map #[] 0)) (Below.heap_alloc _ _ _ (by omega))).keep (Below.heap_alloc _ _ _ (by omega))
  have m2 : MapAt W (w.heap.size + 1) 0 (fun _ => none) := by
    have := map_made (w.alloc (.map #[] 0))
    rw [e1] at this
    rw [← hW]
    exact this.keep (Below.heap_alloc _ _ _ (by omega))
  have hc : W.heap[w.heap.size + 2]? = some (.cells (dcells room (.map (some w.heap.size)) (.map (some (w.heap.size + 1))) (.slice none 0 0) 0 noFuse false) 53 (0, 0)) := by
    have := heap_last ((w.alloc (.map #[] 0)).alloc (.map #[] 0)) (.cells (dcells room (.map (some w.heap.size)) (.map (some (w.heap.size + 1))) (.slice none 0 0) 0 noFuse false) 53)
    rw [e2, hW] at this
    exact this
  rw [hW]
  obtain ⟨A', hA⟩ : ∃ A' : Gh, A' = fun b => if b = w.heap.size then .fixed else if b = w.heap.size + 1 then .own (2 * (w.heap.size + 2)) 0 else if b = w.heap.size + 2 then .own (2 * (w.heap.size + 2) + 1) 0 else A b := ⟨_, rfl⟩
  have a0 : A' w.heap.size = .fixed := by rw [hA]; simp
  have a1 : A' (w.heap.size + 1) = .own (2 * (w.heap.size + 2)) 0 := by rw [hA]; simp
  have a2 : A' (w.heap.size + 2) = .own (2 * (w.heap.size + 2) + 1) 0 := by rw [hA]; simp
  have ao : ∀ b, b < w.heap.size → A' b = A b := fun b hb => by rw [hA]; dsimp only; rw [if_neg (by omega), if_neg (by omega), if_neg (by omega)]
  have ah : ∀ b, w.heap.size + 3 ≤ b → A' b = A b := fun b hb => by rw [hA]; dsimp only; rw [if_neg (by omega), if_neg (by omega), if_neg (by omega)]
  have hE : Ext none_ noX A w A' W := by
    refine Ext.new hB ao (fun b hb hf => ?_) (fun b t g hb he => ?_)
    · by_cases h3 : w.heap.size + 3 ≤ b
      · rw [ah b h3] at hf; exact .inl hf
      · right; omega
    · by_cases h3 : w.heap.size + 3 ≤ b
      · rw [ah b h3] at he; exact .inl he
      · right
        have : b = w.heap.size ∨ b = w.heap.size + 1 ∨ b = w.heap.size + 2 := by omega
        rcases this with rfl | rfl | rfl
        · rw [a0] at he; cases he
        · rw [a1] at he; cases he; omega
        · rw [a2] at he; cases he; omega
  have hF : ∀ m, MapAt W m 0 (fun _ => none) → Files (2 * (w.heap.size + 2)) A' W m [] (fun _ => none) := fun m hm =>
    ⟨List.Pairwise.nil, hm, ⟨fun p hp => by simp at hp, fun s hs => rfl⟩, fun s c hc => by simp [get] at hc, fun s v _ h => by simp at h, fun s s' g n cap n' cap' _ _ h => by simp at h⟩
  refine ⟨A', hE, ⟨w.heap.size, w.heap.size + 1, .slice none 0 0, [], fun _ => none, fun _ => none⟩, hc, ⟨a2, a0, ⟨0, a1⟩, fun s v h => by simp at h, hF _ m1, hF _ m2, .inl ⟨rfl, rfl⟩, rfl, fun i x us hx => by simp at hx⟩, new_ok room, Nat.le_refl _, hr, Nat.zero_le _⟩

theorem disk_New {A : Gh} {w : World} (room : Nat) (hr : room ≤ 16777216) :
    Calls Tryz.prog 7 #[.int .i64 (room : Int)] w fun e w' => ∃ p, e = .returned (.tuple #[.pointer (some ⟨p, 0, none⟩), .int .i64 0]) ∧ w.heap.size ≤ p ∧ ∃ A', Ext none_ noX A w A' w' ∧ DiskAt A' w' p (new room) := by
  have hfin := made_disk (A := A) (w := w) room hr
  have h0 : ¬ (room : Int) < 0 := by omega
  have hmm : ∀ W : World, (Instr.makeMap 50 none).run Tryz.prog W = .ok (.map (some W.heap.size)) (W.alloc (.map #[] 0)) := fun W => by
    simp [Instr.makeMap, run_underlying Tryz.underlying50, asInt, asIntOf]
  go_enter Tryz.func7, Tryz.ntmps7
  go_wp2
  go_ret2
  obtain ⟨A', h1, h2⟩ := hfin
  exact ⟨w.heap.size + 2, by rfl, by omega, A', h1, h2⟩
end Go.Proofs.YtcioomlhdaihkaaGreatDoor.K

namespace Go.Proofs.YtcioomlhdaihkaaGreatDoor.K
set_option linter.unusedVariables false
set_option linter.unusedSimpArgs false
set_option maxRecDepth 100000
open Go Go.RowKit Go.Maps Go.MapKept Go.ChangeMaps

set_option maxRecDepth 100000
set_option linter.unusedVariables false
set_option linter.unusedSimpArgs false
theorem conv_nil (w : World) : (convert 83 9 (.slice none 0 0)).run Tryz.prog w = .ok (strV []) w := by
  simp [convert, run_underlying Tryz.underlying83, run_underlying Tryz.underlying5, run_underlying Tryz.underlying9, Conv.bytesToString]
  rfl
theorem disk_Read {A : Gh} {w : World} {p : Nat} {s : St} (hd : DiskAt A w p s) (n : Str) (hn : n.length ≤ 1099511627776) (hlim : s.lim ≤ 549755813888) :
    Calls Tryz.prog 47 #[.pointer (some ⟨p, 0, none⟩), strV n] w fun e w' => e = .returned (.tuple #[strV (s.read n).1, .int .i64 ((s.read n).2 : Int)]) ∧ w = w' := by
  obtain ⟨k, hd⟩ := hd
  have h1 : w.cell? ⟨p, 1, none⟩ = some (.map (some k.ms)) := cell_row hd.cells 1
  have h2 : w.cell? ⟨p, 2, none⟩ = some (.map (some k.mv)) := cell_row hd.cells 2
  have hm := disk_mayName n hn w
  cases hmay : may n with
  | false =>
    have e1 : s.read n = ([], 2) := by unfold St.read; rw [hmay]; rfl
    rw [e1]
    rw [hmay] at hm
    clear e1 hd hmay
    go_enter Tryz.func47, Tryz.ntmps47
    go_wp2_with (first
      | (go_at_call 25; refine (none_some p _ _ h1).mono ?_; rintro e w' ⟨rfl, rfl⟩)
      | (go_at_call 67; refine hm.mono ?_; rintro e w' ⟨rfl, rfl⟩))
    go_ret2
    exact ⟨by rfl, rfl⟩
  | true =>
    rw [hmay] at hm
    have hlook := hd.parts.seen.map.look_ok (s := n) (by unfold maxLen; omega)
    have hsome := seen_isSome hd hn
    cases hg : K.get s.seen n with
    | none =>
      have e1 : s.read n = ([], 7) := by unfold St.read; rw [hmay, hg]; rfl
      rw [e1]
      rw [hsome, hg] at hlook
      clear e1 hd hmay hg hsome
      go_enter Tryz.func47, Tryz.ntmps47
      go_wp2_with (first
        | (go_at_call 25; refine (none_some p _ _ h1).mono ?_; rintro e w' ⟨rfl, rfl⟩)
        | (go_at_call 67; refine hm.mono ?_; rintro e w' ⟨rfl, rfl⟩))
      go_ret2
      exact ⟨by rfl, rfl⟩
    | some c =>
      have e1 : s.read n = (c, 0) := by unfold St.read; rw [hmay, hg]; rfl
      rw [e1]
      obtain ⟨v, hv, hb⟩ := hd.parts.seen.holds n c hg
      have hcl : c.length ≤ 1099511627776 := by have h5 := wt_mem hg; have := hd.ok.wtSeen; omega
      rw [hsome, hg, hv] at hlook
      have hconv : (convert 83 9 v).run Tryz.prog w = .ok (strV c) w := by
        rcases hb with ⟨rfl, rfl⟩ | ⟨g, cap, rfl, i0, i1, i2, i3, i4, i5⟩
        · exact conv_nil w
        · exact Lib.run_convert_whole (P := Tryz.prog) w 83 5 9 Tryz.underlying83 Tryz.underlying5 Tryz.underlying9 g 0 ⟨c.toArray⟩ (fun i hi => by
            have hi' : i < c.length := hi
            rw [Nat.zero_add, i5 i c[i] (List.getElem?_eq_getElem hi')]
            simp
            rfl) cap
      clear e1 hd hmay hg hsome hb hv
      go_enter Tryz.func47, Tryz.ntmps47
      go_wp2_with (first
        | (go_at_call 25; refine (none_some p _ _ h1).mono ?_; rintro e w' ⟨rfl, rfl⟩)
        | (go_at_call 67; refine hm.mono ?_; rintro e w' ⟨rfl, rfl⟩))
      go_ret2
      exact ⟨by rfl, rfl⟩
end Go.Proofs.YtcioomlhdaihkaaGreatDoor.K

namespace Go.Proofs.YtcioomlhdaihkaaGreatDoor.K
set_option linter.unusedVariables false
set_option linter.unusedSimpArgs false
set_option maxRecDepth 100000
open Go Go.RowKit Go.Maps Go.MapKept Go.ChangeMaps

set_option maxRecDepth 100000
set_option linter.unusedVariables false
set_option linter.unusedSimpArgs false
structure SysA (w0 : World) (A : Gh) (w : World) (l : List (Nat × St)) (bs : List (Nat × Obj)) : Prop where
  dom : Dom A w
  low : ∀ b, b < w0.heap.size → A b = .free
  below : Below w0.heap.size w0 w
  nodup : (l.map (·.1)).Nodup
  disks : ∀ x ∈ l, DiskAt A w x.1 x.2
  boxes : ∀ x ∈ bs, A x.1 = .own (2 * x.1) 0 ∧ w.heap[x.1]? = some x.2
def Sys (w0 w : World) (l : List (Nat × St)) (bs : List (Nat × Obj)) : Prop := ∃ A, SysA w0 A w l bs
theorem Sys.start (w : World) : Sys w w [] [] := ⟨fun _ => .free, ⟨fun b h => (h rfl).elim, fun b t g h => by cases h⟩, fun _ _ => rfl, Below.refl _ _, List.nodup_nil, fun x h => (by cases h), fun x h => (by cases h)⟩
theorem DiskAt.lt {A : Gh} {w : World} {p : Nat} {s : St} (h : DiskAt A w p s) : p < w.heap.size := by
  obtain ⟨k, h⟩ := h
  exact (Array.getElem?_eq_some_iff.1 h.cells).1
theorem Sys.perm {w0 w : World} {l l' : List (Nat × St)} {bs bs' : List (Nat × Obj)} (h : Sys w0 w l bs) (hl : l'.Perm l) (hb : ∀ x ∈ bs', x ∈ bs) : Sys w0 w l' bs' := by
  obtain ⟨A, h⟩ := h
  exact ⟨A, h.dom, h.low, h.below, (hl.map _).nodup_iff.2 h.nodup, fun x hx => h.disks x (hl.mem_iff.1 hx), fun x hx => h.boxes x (hb x hx)⟩
theorem Sys.drop {w0 w : World} {x : Nat × St} {l : List (Nat × St)} {bs : List (Nat × Obj)} (h : Sys w0 w (x :: l) bs) : Sys w0 w l bs := by
  obtain ⟨A, h⟩ := h
  exact ⟨A, h.dom, h.low, h.below, (List.nodup_cons.1 h.nodup).2, fun y hy => h.disks y (List.mem_cons_of_mem _ hy), h.boxes⟩
theorem SysA.ext {w0 w w' : World} {A B : Gh} {l : List (Nat × St)} {bs : List (Nat × Obj)} (h : SysA w0 A w l bs) {T : Nat → Prop} (hE : Ext T noX A w B w') (h0 : ∀ x ∈ l, ¬ T (2 * x.1) ∧ ¬ T (2 * x.1 + 1)) (h1 : ∀ x ∈ bs, ¬ T (2 * x.1)) : SysA w0 B w' l bs := by
  have hlow : ∀ b, b < w0.heap.size → ∀ t g, A b = .own t g → ¬ T t := fun b hb t g e => by rw [h.low b hb] at e; cases e
  have hsz := h.below.size
  refine ⟨hE.dom h.dom, fun b hb => (hE.gh b (by omega) (hlow b hb)).trans (h.low b hb), h.below.trans (hE.below hsz hlow), h.nodup, fun x hx => (h.disks x hx).ext hE (h0 x hx).1 (h0 x hx).2, fun x hx => ?_⟩
  obtain ⟨i1, i2⟩ := h.boxes x hx
  obtain ⟨j1, j2⟩ := own_keep hE (Array.getElem?_eq_some_iff.1 i2).1 i1 (h1 x hx)
  exact ⟨j2, j1.trans i2⟩
theorem Sys.below {w0 w w' : World} {l : List (Nat × St)} {bs : List (Nat × Obj)} (h : Sys w0 w l bs) (hB : Below w.heap.size w w') : Sys w0 w' l bs := by
  obtain ⟨A, h⟩ := h
  exact ⟨A, h.ext (T := none_) (Ext.of_below hB) (fun x _ => ⟨fun h => h, fun h => h⟩) (fun x _ h => h)⟩
/-- One disk does something. -/
theorem SysA.turn {w0 w w' : World} {A : Gh} {p : Nat} {s s' : St} {l : List (Nat × St)} {bs : List (Nat × Obj)} (h : SysA w0 A w ((p, s) :: l) bs) (hD : Done A w p s' w') : Sys w0 w' ((p, s') :: l) bs := by
  obtain ⟨B, hE, hd⟩ := hD
  have hnd := List.nodup_cons.1 h.nodup
  have hp := h.disks (p, s) (List.mem_cons_self ..)
  have h1 : SysA w0 A w l bs := ⟨h.dom, h.low, h.below, hnd.2, fun y hy => h.disks y (List.mem_cons_of_mem _ hy), h.boxes⟩
  have h2 := h1.ext hE (fun x hx => by
    have hne : x.1 ≠ p := fun e => hnd.1 (List.mem_map.2 ⟨x, hx, e⟩)
    exact ⟨fun h => by rcases h with h | h <;> omega, fun h => by rcases h with h | h <;> omega⟩) (fun x hx h => by
    have hb := (h1.boxes x hx).1
    obtain ⟨k, hk⟩ := hp
    rcases h with h | h
    · have hxp : x.1 = p := by omega
      rw [hxp] at hb
      have := hk.parts.own
      rw [hb] at this
      injection this with e1
      omega
    · omega)
  exact ⟨B, h2.dom, h2.low, h2.below, h.nodup, fun y hy => by
    rcases List.mem_cons.1 hy with rfl | hy
    · exact hd
    · exact h2.disks y hy, h2.boxes⟩
theorem Sys.head {w0 w : World} {x : Nat × St} {l : List (Nat × St)} {bs : List (Nat × Obj)} (h : Sys w0 w (x :: l) bs) : ∃ A, SysA w0 A w (x :: l) bs ∧ DiskAt A w x.1 x.2 := by
  obtain ⟨A, h⟩ := h
  exact ⟨A, h, h.disks x (List.mem_cons_self ..)⟩
/-- A new block is kept. -/
theorem Sys.box {w0 w w' : World} {l : List (Nat × St)} {bs : List (Nat × Obj)} (h : Sys w0 w l bs) (hB : Below w.heap.size w w') {g : Nat} {o : Obj} (hg : w.heap.size ≤ g) (ho : w'.heap[g]? = some o) : Sys w0 w' l ((g, o) :: bs) := by
  obtain ⟨A, h⟩ := h
  have hg' := (Array.getElem?_eq_some_iff.1 ho).1
  have h2 := h.ext (T := none_) (Ext.newG hB hg hg' (.own (2 * g) 0) (fun t g e => by cases e; omega)) (fun x _ => ⟨fun h => h, fun h => h⟩) (fun x _ h => h)
  refine ⟨_, h2.dom, h2.low, h2.below, h2.nodup, h2.disks, fun y hy => ?_⟩
  rcases List.mem_cons.1 hy with rfl | hy
  · exact ⟨setG_same .., ho⟩
  · exact h2.boxes y hy
theorem Sys.at {w0 w : World} {l : List (Nat × St)} {bs : List (Nat × Obj)} {x : Nat × Obj} (h : Sys w0 w l (x :: bs)) : w.heap[x.1]? = some x.2 := by
  obtain ⟨A, h⟩ := h
  exact (h.boxes x (List.mem_cons_self ..)).2
theorem obj_of_cell {w : World} {g : Nat} {v : Value} (h : w.cell? ⟨g, 0, none⟩ = some v) : ∃ cs ty fr, w.heap[g]? = some (.cells cs ty fr) ∧ cs[0]? = some v := by
  unfold World.cell? at h
  dsimp only at h
  split at h
  · rename_i c t fr he
    exact ⟨c, t, fr, he, h⟩
  · cases h
/-- One disk more. -/
theorem SysA.more {w0 w w' : World} {A B : Gh} {q : Nat} {s : St} {l : List (Nat × St)} {bs : List (Nat × Obj)} (h : SysA w0 A w l bs) (hq : w.heap.size ≤ q) (hE : Ext none_ noX A w B w') (hd : DiskAt B w' q s) : Sys w0 w' ((q, s) :: l) bs := by
  have h2 := h.ext (T := none_) hE (fun x _ => ⟨fun h => h, fun h => h⟩) (fun x _ h => h)
  refine ⟨B, h2.dom, h2.low, h2.below, List.nodup_cons.2 ⟨fun hm => ?_, h2.nodup⟩, fun y hy => ?_, h2.boxes⟩
  · obtain ⟨x, hx, e⟩ := List.mem_map.1 hm
    have := (h.disks x hx).lt
    have e2 : x.1 = q := e
    omega
  · rcases List.mem_cons.1 hy with rfl | hy
    · exact hd
    · exact h2.disks y hy

section
variable {w0 w : World} {p : Nat} {s : St} {l : List (Nat × St)} {bs : List (Nat × Obj)}
theorem sys_Append (h : Sys w0 w ((p, s) :: l) bs) (n c : Str) (hn : n.length ≤ 1099511627776) (hcl : c.length ≤ 1099511627776) (hlim : s.lim + 2 * (1 + c.length) ≤ 549755813888) (hst : s.steps.length ≤ 549755813888) :
    Calls Tryz.prog 30 #[.pointer (some ⟨p, 0, none⟩), strV n, strV c] w fun e w' => e = .returned (.int .i64 ((s.append n c).2 : Int)) ∧ Sys w0 w' ((p, (s.append n c).1) :: l) bs := by
  obtain ⟨A, hS, hd⟩ := h.head
  refine (disk_Append hd hS.dom n c hn hcl hlim hst).mono ?_
  rintro e w' ⟨he, hD⟩
  exact ⟨he, hS.turn hD⟩
theorem sys_Remove (h : Sys w0 w ((p, s) :: l) bs) (n : Str) (hn : n.length ≤ 1099511627776) (hlim : s.lim + 2 ≤ 549755813888) (hst : s.steps.length ≤ 549755813888) :
    Calls Tryz.prog 60 #[.pointer (some ⟨p, 0, none⟩), strV n] w fun e w' => e = .returned (.int .i64 ((s.remove n).2 : Int)) ∧ Sys w0 w' ((p, (s.remove n).1) :: l) bs := by
  obtain ⟨A, hS, hd⟩ := h.head
  refine (disk_Remove hd hS.dom n hn hlim hst).mono ?_
  rintro e w' ⟨he, hD⟩
  exact ⟨he, hS.turn hD⟩
theorem sys_Rename (h : Sys w0 w ((p, s) :: l) bs) (n m : Str) (hn : n.length ≤ 1099511627776) (hm : m.length ≤ 1099511627776) (hlim : s.lim + 2 ≤ 549755813888) (hst : s.steps.length ≤ 549755813888) :
    Calls Tryz.prog 38 #[.pointer (some ⟨p, 0, none⟩), strV n, strV m] w fun e w' => e = .returned (.int .i64 ((s.rename n m).2 : Int)) ∧ Sys w0 w' ((p, (s.rename n m).1) :: l) bs := by
  obtain ⟨A, hS, hd⟩ := h.head
  refine (disk_Rename hd hS.dom n m hn hm hlim hst).mono ?_
  rintro e w' ⟨he, hD⟩
  exact ⟨he, hS.turn hD⟩
theorem sys_Sync (h : Sys w0 w ((p, s) :: l) bs) (hlim : s.lim ≤ 549755813888) :
    Calls Tryz.prog 57 #[.pointer (some ⟨p, 0, none⟩)] w fun e w' => e = .returned (.int .i64 (s.sync.2 : Int)) ∧ Sys w0 w' ((p, s.sync.1) :: l) bs := by
  obtain ⟨A, hS, hd⟩ := h.head
  refine (disk_Sync hd hlim).mono ?_
  rintro e w' ⟨he, hD⟩
  exact ⟨he, hS.turn hD⟩
theorem sys_Fuse (h : Sys w0 w ((p, s) :: l) bs) (k : Int) (hk : k ≤ 9223372036854775807) (hk0 : -9223372036854775808 ≤ k) :
    Calls Tryz.prog 12 #[.pointer (some ⟨p, 0, none⟩), .int .i64 k] w fun e w' => e = .returned (.int .i64 ((s.fuse k).2 : Int)) ∧ Sys w0 w' ((p, (s.fuse k).1) :: l) bs := by
  obtain ⟨A, hS, hd⟩ := h.head
  refine (disk_Fuse hd k hk hk0).mono ?_
  rintro e w' ⟨he, hD⟩
  exact ⟨he, hS.turn hD⟩
theorem sys_Crash (h : Sys w0 w ((p, s) :: l) bs) (k : Int) (hk : k ≤ 9223372036854775807) (hk0 : -9223372036854775808 ≤ k) (hlim : s.lim ≤ 549755813888) (hst : s.steps.length ≤ 549755813888) :
    Calls Tryz.prog 19 #[.pointer (some ⟨p, 0, none⟩), .int .i64 k] w fun e w' => e = .returned (.int .i64 ((s.crash k).2 : Int)) ∧ Sys w0 w' ((p, (s.crash k).1) :: l) bs := by
  obtain ⟨A, hS, hd⟩ := h.head
  refine (disk_Crash hd hS.dom k hk hk0 hlim hst).mono ?_
  rintro e w' ⟨he, hD⟩
  exact ⟨he, hS.turn hD⟩
theorem sys_Read (h : Sys w0 w ((p, s) :: l) bs) (n : Str) (hn : n.length ≤ 1099511627776) (hlim : s.lim ≤ 549755813888) :
    Calls Tryz.prog 47 #[.pointer (some ⟨p, 0, none⟩), strV n] w fun e w' => e = .returned (.tuple #[strV (s.read n).1, .int .i64 ((s.read n).2 : Int)]) ∧ w = w' := by
  obtain ⟨A, hS, hd⟩ := h.head
  exact disk_Read hd n hn hlim
theorem sys_Units (h : Sys w0 w ((p, s) :: l) bs) : Calls Tryz.prog 21 #[.pointer (some ⟨p, 0, none⟩)] w fun e w' => e = .returned (.int .i64 (s.units : Int)) ∧ w = w' := by
  obtain ⟨A, hS, k, hd⟩ := h.head
  exact disk_Units hd
theorem sys_Down (h : Sys w0 w ((p, s) :: l) bs) : Calls Tryz.prog 18 #[.pointer (some ⟨p, 0, none⟩)] w fun e w' => e = .returned (.bool s.down) ∧ w = w' := by
  obtain ⟨A, hS, k, hd⟩ := h.head
  exact disk_Down hd
theorem sys_Used (h : Sys w0 w ((p, s) :: l) bs) (hlim : s.lim ≤ 549755813888) : Calls Tryz.prog 53 #[.pointer (some ⟨p, 0, none⟩)] w fun e w' => e = .returned (.int .i64 (used s.seen : Int)) ∧ Below w.heap.size w w' := by
  obtain ⟨A, hS, k, hd⟩ := h.head
  have : wt s.seen ≤ s.lim := hd.ok.wtSeen
  have h2 := used_le_wt s.seen
  exact disk_Used (cell_row hd.cells 1) (cell_row hd.cells 2) hd.parts.seen.map hd.parts.seen.sorted hd.parts.seen.same hd.parts.seen.lens (by omega)
theorem sys_List (h : Sys w0 w ((p, s) :: l) bs) (hlim : s.lim ≤ 549755813888) : Calls Tryz.prog 65 #[.pointer (some ⟨p, 0, none⟩)] w fun e w' => (∃ v, e = .returned v ∧ StrsF w' v (names s.seen) ∧ NewV w.heap.size v) ∧ Below w.heap.size w w' := by
  obtain ⟨A, hS, k, hd⟩ := h.head
  have : wt s.seen ≤ s.lim := hd.ok.wtSeen
  have h2 := len_le_wt s.seen
  exact disk_List (cell_row hd.cells 1) (cell_row hd.cells 2) hd.parts.seen.map hd.parts.seen.sorted hd.parts.seen.same (by omega)
theorem sys_New (h : Sys w0 w l bs) (room : Nat) (hr : room ≤ 16777216) :
    Calls Tryz.prog 7 #[.int .i64 (room : Int)] w fun e w' => ∃ q, e = .returned (.tuple #[.pointer (some ⟨q, 0, none⟩), .int .i64 0]) ∧ Sys w0 w' ((q, new room) :: l) bs := by
  obtain ⟨A, hS⟩ := h
  refine (disk_New (A := A) room hr).mono ?_
  rintro e w' ⟨q, he, hq, B, hE, hD⟩
  exact ⟨q, he, hS.more hq hE hD⟩
end
end Go.Proofs.YtcioomlhdaihkaaGreatDoor.K
