/-
  Disks, and boxes beside them.
-/
import Derived.Test.YtfmigkmkdhciiaaKB2
import Derived.Test.YtfmigkmkdhciiaaKH
import Derived.Test.YtfmigkmkdhciiaaKU
import Derived.Test.YtfmigkmkdhciiaaKY3
namespace Go.Proofs.Ytfmigkmkdhciiaa.K
set_option linter.unusedVariables false
set_option linter.unusedSimpArgs false
set_option maxRecDepth 100000
open Go Go.RowKit Go.Maps Go.MapKept Go.ChangeMaps

structure SysA (w0 : World) (A : Gh) (w : World) (l : List (Nat × St)) (bs : List (Nat × Obj)) : Prop where
  dom : Dom A w
  low : ∀ b, b < w0.heap.size → A b = .free
  below : Below w0.heap.size w0 w
  nodup : (l.map (·.1)).Nodup
  disks : ∀ x ∈ l, DiskAt A w x.1 x.2
  boxes : ∀ x ∈ bs, A x.1 = .own (2 * x.1) 0 ∧ w.heap[x.1]? = some x.2
def Sys (w0 w : World) (l : List (Nat × St)) (bs : List (Nat × Obj)) : Prop := ∃ A, SysA w0 A w l bs
theorem Sys.start (w : World) : Sys w w [] [] := ⟨fun _ => .free, ⟨fun b h => (h rfl).elim, fun b t g h => by cases h⟩, fun _ _ => rfl, Below.refl _ _, List.nodup_nil, fun x h => (by cases h), fun x h => (by cases h)⟩
theorem DiskAt.lt {A : Gh} {w : World} {p : Nat} {s : St} (h : DiskAt A w p s) : p < w.heap.size := by
  obtain ⟨k, h⟩ := h
  exact (Array.getElem?_eq_some_iff.1 h.cells).1
theorem Sys.perm {w0 w : World} {l l' : List (Nat × St)} {bs bs' : List (Nat × Obj)} (h : Sys w0 w l bs) (hl : l'.Perm l) (hb : ∀ x ∈ bs', x ∈ bs) : Sys w0 w l' bs' := by
  obtain ⟨A, h⟩ := h
  exact ⟨A, h.dom, h.low, h.below, (hl.map _).nodup_iff.2 h.nodup, fun x hx => h.disks x (hl.mem_iff.1 hx), fun x hx => h.boxes x (hb x hx)⟩
theorem Sys.drop {w0 w : World} {x : Nat × St} {l : List (Nat × St)} {bs : List (Nat × Obj)} (h : Sys w0 w (x :: l) bs) : Sys w0 w l bs := by
  obtain ⟨A, h⟩ := h
  exact ⟨A, h.dom, h.low, h.below, (List.nodup_cons.1 h.nodup).2, fun y hy => h.disks y (List.mem_cons_of_mem _ hy), h.boxes⟩
theorem SysA.ext {w0 w w' : World} {A B : Gh} {l : List (Nat × St)} {bs : List (Nat × Obj)} (h : SysA w0 A w l bs) {T : Nat → Prop} (hE : Ext T noX A w B w') (h0 : ∀ x ∈ l, ¬ T (2 * x.1) ∧ ¬ T (2 * x.1 + 1)) (h1 : ∀ x ∈ bs, ¬ T (2 * x.1)) : SysA w0 B w' l bs := by
  have hlow : ∀ b, b < w0.heap.size → ∀ t g, A b = .own t g → ¬ T t := fun b hb t g e => by rw [h.low b hb] at e; cases e
  have hsz := h.below.size
  refine ⟨hE.dom h.dom, fun b hb => (hE.gh b (by omega) (hlow b hb)).trans (h.low b hb), h.below.trans (hE.below hsz hlow), h.nodup, fun x hx => (h.disks x hx).ext hE (h0 x hx).1 (h0 x hx).2, fun x hx => ?_⟩
  obtain ⟨i1, i2⟩ := h.boxes x hx
  obtain ⟨j1, j2⟩ := own_keep hE (Array.getElem?_eq_some_iff.1 i2).1 i1 (h1 x hx)
  exact ⟨j2, j1.trans i2⟩
theorem Sys.below {w0 w w' : World} {l : List (Nat × St)} {bs : List (Nat × Obj)} (h : Sys w0 w l bs) (hB : Below w.heap.size w w') : Sys w0 w' l bs := by
  obtain ⟨A, h⟩ := h
  exact ⟨A, h.ext (T := none_) (Ext.of_below hB) (fun x _ => ⟨fun h => h, fun h => h⟩) (fun x _ h => h)⟩
/-- One disk does something. -/
theorem SysA.turn {w0 w w' : World} {A : Gh} {p : Nat} {s s' : St} {l : List (Nat × St)} {bs : List (Nat × Obj)} (h : SysA w0 A w ((p, s) :: l) bs) (hD : Done A w p s' w') : Sys w0 w' ((p, s') :: l) bs := by
  obtain ⟨B, hE, hd⟩ := hD
  have hnd := List.nodup_cons.1 h.nodup
  have hp := h.disks (p, s) (List.mem_cons_self ..)
  have h1 : SysA w0 A w l bs := ⟨h.dom, h.low, h.below, hnd.2, fun y hy => h.disks y (List.mem_cons_of_mem _ hy), h.boxes⟩
  have h2 := h1.ext hE (fun x hx => by
    have hne : x.1 ≠ p := fun e => hnd.1 (List.mem_map.2 ⟨x, hx, e⟩)
    exact ⟨fun h => by rcases h with h | h <;> omega, fun h => by rcases h with h | h <;> omega⟩) (fun x hx h => by
    have hb := (h1.boxes x hx).1
    obtain ⟨k, hk⟩ := hp
    rcases h with h | h
    · have hxp : x.1 = p := by omega
      rw [hxp] at hb
      have := hk.parts.own
      rw [hb] at this
      injection this with e1
      omega
    · omega)
  exact ⟨B, h2.dom, h2.low, h2.below, h.nodup, fun y hy => by
    rcases List.mem_cons.1 hy with rfl | hy
    · exact hd
    · exact h2.disks y hy, h2.boxes⟩
theorem Sys.head {w0 w : World} {x : Nat × St} {l : List (Nat × St)} {bs : List (Nat × Obj)} (h : Sys w0 w (x :: l) bs) : ∃ A, SysA w0 A w (x :: l) bs ∧ DiskAt A w x.1 x.2 := by
  obtain ⟨A, h⟩ := h
  exact ⟨A, h, h.disks x (List.mem_cons_self ..)⟩
/-- A new block is kept. -/
theorem Sys.box {w0 w w' : World} {l : List (Nat × St)} {bs : List (Nat × Obj)} (h : Sys w0 w l bs) (hB : Below w.heap.size w w') {g : Nat} {o : Obj} (hg : w.heap.size ≤ g) (ho : w'.heap[g]? = some o) : Sys w0 w' l ((g, o) :: bs) := by
  obtain ⟨A, h⟩ := h
  have hg' := (Array.getElem?_eq_some_iff.1 ho).1
  have h2 := h.ext (T := none_) (Ext.newG hB hg hg' (.own (2 * g) 0) (fun t g e => by cases e; omega)) (fun x _ => ⟨fun h => h, fun h => h⟩) (fun x _ h => h)
  refine ⟨_, h2.dom, h2.low, h2.below, h2.nodup, h2.disks, fun y hy => ?_⟩
  rcases List.mem_cons.1 hy with rfl | hy
  · exact ⟨setG_same .., ho⟩
  · exact h2.boxes y hy
theorem Sys.at {w0 w : World} {l : List (Nat × St)} {bs : List (Nat × Obj)} {x : Nat × Obj} (h : Sys w0 w l (x :: bs)) : w.heap[x.1]? = some x.2 := by
  obtain ⟨A, h⟩ := h
  exact (h.boxes x (List.mem_cons_self ..)).2
theorem obj_of_cell {w : World} {g : Nat} {v : Value} (h : w.cell? ⟨g, 0, none⟩ = some v) : ∃ cs ty fr, w.heap[g]? = some (.cells cs ty fr) ∧ cs[0]? = some v := by
  unfold World.cell? at h
  dsimp only at h
  split at h
  · rename_i c t fr he
    exact ⟨c, t, fr, he, h⟩
  · cases h
/-- One disk more. -/
theorem SysA.more {w0 w w' : World} {A B : Gh} {q : Nat} {s : St} {l : List (Nat × St)} {bs : List (Nat × Obj)} (h : SysA w0 A w l bs) (hq : w.heap.size ≤ q) (hE : Ext none_ noX A w B w') (hd : DiskAt B w' q s) : Sys w0 w' ((q, s) :: l) bs := by
  have h2 := h.ext (T := none_) hE (fun x _ => ⟨fun h => h, fun h => h⟩) (fun x _ h => h)
  refine ⟨B, h2.dom, h2.low, h2.below, List.nodup_cons.2 ⟨fun hm => ?_, h2.nodup⟩, fun y hy => ?_, h2.boxes⟩
  · obtain ⟨x, hx, e⟩ := List.mem_map.1 hm
    have := (h.disks x hx).lt
    have e2 : x.1 = q := e
    omega
  · rcases List.mem_cons.1 hy with rfl | hy
    · exact hd
    · exact h2.disks y hy

section
variable {w0 w : World} {p : Nat} {s : St} {l : List (Nat × St)} {bs : List (Nat × Obj)}
theorem sys_Append (h : Sys w0 w ((p, s) :: l) bs) (n c : Str) (hn : n.length ≤ 1099511627776) (hcl : c.length ≤ 1099511627776) (hlim : s.lim + 2 * (1 + c.length) ≤ 549755813888) (hst : s.steps.length ≤ 549755813888) :
    Calls Try.prog 14 #[.pointer (some ⟨p, 0, none⟩), strV n, strV c] w fun e w' => e = .returned (.int .i64 ((s.append n c).2 : Int)) ∧ Sys w0 w' ((p, (s.append n c).1) :: l) bs := by
  obtain ⟨A, hS, hd⟩ := h.head
  refine (disk_Append hd hS.dom n c hn hcl hlim hst).mono ?_
  rintro e w' ⟨he, hD⟩
  exact ⟨he, hS.turn hD⟩
theorem sys_Remove (h : Sys w0 w ((p, s) :: l) bs) (n : Str) (hn : n.length ≤ 1099511627776) (hlim : s.lim + 2 ≤ 549755813888) (hst : s.steps.length ≤ 549755813888) :
    Calls Try.prog 15 #[.pointer (some ⟨p, 0, none⟩), strV n] w fun e w' => e = .returned (.int .i64 ((s.remove n).2 : Int)) ∧ Sys w0 w' ((p, (s.remove n).1) :: l) bs := by
  obtain ⟨A, hS, hd⟩ := h.head
  refine (disk_Remove hd hS.dom n hn hlim hst).mono ?_
  rintro e w' ⟨he, hD⟩
  exact ⟨he, hS.turn hD⟩
theorem sys_Rename (h : Sys w0 w ((p, s) :: l) bs) (n m : Str) (hn : n.length ≤ 1099511627776) (hm : m.length ≤ 1099511627776) (hlim : s.lim + 2 ≤ 549755813888) (hst : s.steps.length ≤ 549755813888) :
    Calls Try.prog 16 #[.pointer (some ⟨p, 0, none⟩), strV n, strV m] w fun e w' => e = .returned (.int .i64 ((s.rename n m).2 : Int)) ∧ Sys w0 w' ((p, (s.rename n m).1) :: l) bs := by
  obtain ⟨A, hS, hd⟩ := h.head
  refine (disk_Rename hd hS.dom n m hn hm hlim hst).mono ?_
  rintro e w' ⟨he, hD⟩
  exact ⟨he, hS.turn hD⟩
theorem sys_Sync (h : Sys w0 w ((p, s) :: l) bs) (hlim : s.lim ≤ 549755813888) :
    Calls Try.prog 17 #[.pointer (some ⟨p, 0, none⟩)] w fun e w' => e = .returned (.int .i64 (s.sync.2 : Int)) ∧ Sys w0 w' ((p, s.sync.1) :: l) bs := by
  obtain ⟨A, hS, hd⟩ := h.head
  refine (disk_Sync hd hlim).mono ?_
  rintro e w' ⟨he, hD⟩
  exact ⟨he, hS.turn hD⟩
theorem sys_Fuse (h : Sys w0 w ((p, s) :: l) bs) (k : Int) (hk : k ≤ 9223372036854775807) (hk0 : -9223372036854775808 ≤ k) :
    Calls Try.prog 18 #[.pointer (some ⟨p, 0, none⟩), .int .i64 k] w fun e w' => e = .returned (.int .i64 ((s.fuse k).2 : Int)) ∧ Sys w0 w' ((p, (s.fuse k).1) :: l) bs := by
  obtain ⟨A, hS, hd⟩ := h.head
  refine (disk_Fuse hd k hk hk0).mono ?_
  rintro e w' ⟨he, hD⟩
  exact ⟨he, hS.turn hD⟩
theorem sys_Crash (h : Sys w0 w ((p, s) :: l) bs) (k : Int) (hk : k ≤ 9223372036854775807) (hk0 : -9223372036854775808 ≤ k) (hlim : s.lim ≤ 549755813888) (hst : s.steps.length ≤ 549755813888) :
    Calls Try.prog 9 #[.pointer (some ⟨p, 0, none⟩), .int .i64 k] w fun e w' => e = .returned (.int .i64 ((s.crash k).2 : Int)) ∧ Sys w0 w' ((p, (s.crash k).1) :: l) bs := by
  obtain ⟨A, hS, hd⟩ := h.head
  refine (disk_Crash hd hS.dom k hk hk0 hlim hst).mono ?_
  rintro e w' ⟨he, hD⟩
  exact ⟨he, hS.turn hD⟩
theorem sys_Read (h : Sys w0 w ((p, s) :: l) bs) (n : Str) (hn : n.length ≤ 1099511627776) (hlim : s.lim ≤ 549755813888) :
    Calls Try.prog 13 #[.pointer (some ⟨p, 0, none⟩), strV n] w fun e w' => e = .returned (.tuple #[strV (s.read n).1, .int .i64 ((s.read n).2 : Int)]) ∧ w = w' := by
  obtain ⟨A, hS, hd⟩ := h.head
  exact disk_Read hd n hn hlim
theorem sys_Units (h : Sys w0 w ((p, s) :: l) bs) : Calls Try.prog 11 #[.pointer (some ⟨p, 0, none⟩)] w fun e w' => e = .returned (.int .i64 (s.units : Int)) ∧ w = w' := by
  obtain ⟨A, hS, k, hd⟩ := h.head
  exact disk_Units hd
theorem sys_Down (h : Sys w0 w ((p, s) :: l) bs) : Calls Try.prog 19 #[.pointer (some ⟨p, 0, none⟩)] w fun e w' => e = .returned (.bool s.down) ∧ w = w' := by
  obtain ⟨A, hS, k, hd⟩ := h.head
  exact disk_Down hd
theorem sys_Used (h : Sys w0 w ((p, s) :: l) bs) (hlim : s.lim ≤ 549755813888) : Calls Try.prog 21 #[.pointer (some ⟨p, 0, none⟩)] w fun e w' => e = .returned (.int .i64 (used s.seen : Int)) ∧ Below w.heap.size w w' := by
  obtain ⟨A, hS, k, hd⟩ := h.head
  have : wt s.seen ≤ s.lim := hd.ok.wtSeen
  have h2 := used_le_wt s.seen
  exact disk_Used (cell_row hd.cells 1) (cell_row hd.cells 2) hd.parts.seen.map hd.parts.seen.sorted hd.parts.seen.same hd.parts.seen.lens (by omega)
theorem sys_List (h : Sys w0 w ((p, s) :: l) bs) (hlim : s.lim ≤ 549755813888) : Calls Try.prog 20 #[.pointer (some ⟨p, 0, none⟩)] w fun e w' => (∃ v, e = .returned v ∧ StrsAt w' v (names s.seen) ∧ NewV w.heap.size v) ∧ Below w.heap.size w w' := by
  obtain ⟨A, hS, k, hd⟩ := h.head
  have : wt s.seen ≤ s.lim := hd.ok.wtSeen
  have h2 := len_le_wt s.seen
  exact disk_List (cell_row hd.cells 1) (cell_row hd.cells 2) hd.parts.seen.map hd.parts.seen.sorted hd.parts.seen.same (by omega)
theorem sys_Copy (h : Sys w0 w ((p, s) :: l) bs) (hlim : s.lim ≤ 549755813888) (hst : s.steps.length ≤ 549755813888) :
    Calls Try.prog 10 #[.pointer (some ⟨p, 0, none⟩)] w fun e w' => ∃ q, e = .returned (.pointer (some ⟨q, 0, none⟩)) ∧ Sys w0 w' ((q, s) :: (p, s) :: l) bs := by
  obtain ⟨A, hS, hd⟩ := h.head
  refine (disk_Copy hd hS.dom hlim hst).mono ?_
  rintro e w' ⟨q, he, hq, B, hE, hD⟩
  exact ⟨q, he, hS.more hq hE hD⟩
theorem sys_New (h : Sys w0 w l bs) (room : Nat) (hr : room ≤ 16777216) :
    Calls Try.prog 5 #[.int .i64 (room : Int)] w fun e w' => ∃ q, e = .returned (.tuple #[.pointer (some ⟨q, 0, none⟩), .int .i64 0]) ∧ Sys w0 w' ((q, new room) :: l) bs := by
  obtain ⟨A, hS⟩ := h
  refine (disk_New (A := A) room hr).mono ?_
  rintro e w' ⟨q, he, hq, B, hE, hD⟩
  exact ⟨q, he, hS.more hq hE hD⟩
end
end Go.Proofs.Ytfmigkmkdhciiaa.K
