/-
  Logs in memory.
-/
import Derived.Test.YtcioomlhdaihkaaGreatDoorWD
import Derived.Lib.AppendZeros
namespace Go.Proofs.YtcioomlhdaihkaaGreatDoor.L
set_option linter.unusedVariables false
set_option linter.unusedSimpArgs false
set_option maxRecDepth 100000
open Go Go.RowKit Go.Maps Go.MapKept Go.ChangeMaps Go.Shelf Wire
open K (Gh Ext Dom noX Jd Steady)

/-- A log: its disk, its limit, its strings, how many are synced, the segment that was appended to last (none: a new one is made), is it broken? -/
structure Lg where
  disk : Nat
  limit : Nat
  texts : List Bs
  synced : Nat
  last : Bs
  broken : Bool
def lcells (x : Lg) (tv : Value) : Array Value := #[.pointer (some ⟨x.disk, 0, none⟩), .int .i64 (x.limit : Nat), tv, .int .i64 (x.synced : Nat), .string (ba x.last), .bool x.broken]
def sobj (x : Lg) (tv : Value) : Obj := .cells (lcells x tv) 57 (0, 0)
/-- The box of a row of strings. -/
def RowB (v : Value) (l : List Bs) (rb : List (Nat × Obj)) : Prop :=
  (v = .slice none 0 0 ∧ l = [] ∧ rb = []) ∨ ∃ (g cap : Nat) (cur : Array Value), v = .slice (some ⟨g, 0, none⟩) l.length cap ∧ rb = [(g, .cells cur 9 (0, 0))] ∧ l.length ≤ cap ∧ cap ≤ maxLen ∧ cur.size = cap * 1 ∧ cur.toList.take (l.length * 1) = Q.strCells l
theorem RowB.own {v : Value} {l : List Bs} {rb : List (Nat × Obj)} (h : RowB v l rb) {w : World} (hw : ∀ y ∈ rb, w.heap[y.1]? = some y.2) : OwnS 0 w v l := by
  rcases h with ⟨rfl, rfl, rfl⟩ | ⟨g, cap, cur, rfl, rfl, h1, h2, h3, h4⟩
  · exact World.ownsRow_nil _ _ _ _
  · exact ⟨by rw [strC_len, Nat.mul_one], .inr ⟨g, cap, cur, rfl, Nat.zero_le _, hw _ (List.mem_cons_self ..), h1, h2, h3, h4⟩⟩
theorem RowB.of {B : Nat} {w : World} {v : Value} {l : List Bs} (h : OwnS B w v l) : ∃ rb, RowB v l rb ∧ (∀ y ∈ rb, w.heap[y.1]? = some y.2 ∧ v.ownBlock = some y.1 ∧ B ≤ y.1) ∧ rb.length ≤ 1 := by
  rcases h.2 with ⟨rfl, h0⟩ | ⟨g, c, cur, rfl, hb, hg, h1, h2, h3, h4⟩
  · exact ⟨[], .inl ⟨rfl, List.eq_nil_of_length_eq_zero h0, rfl⟩, fun y hy => (by cases hy), by simp⟩
  · refine ⟨[(g, .cells cur 9 (0, 0))], .inr ⟨g, c, cur, rfl, rfl, h1, h2, h3, h4⟩, fun y hy => ?_, by simp⟩
    obtain rfl := List.mem_singleton.1 hy
    exact ⟨hg, rfl, hb⟩
theorem RowB.block {v : Value} {l : List Bs} {rb : List (Nat × Obj)} (h : RowB v l rb) {g : Nat} (hg : v.ownBlock = some g) : ∃ cur, rb = [(g, .cells cur 9 (0, 0))] := by
  rcases h with ⟨rfl, rfl, rfl⟩ | ⟨g', cap, cur, rfl, rfl, _⟩
  · cases hg
  · simp [Value.ownBlock] at hg
    subst hg
    exact ⟨cur, rfl⟩

/-- A disk beside other disks, a log, and other boxes. -/
abbrev Bxs := List (Nat × Obj)
def Nd (bs : Bxs) : Prop := (bs.map (·.1)).Nodup
def LS (w0 w : World) (ds : List (Nat × K.St)) (q : Nat) (x : Lg) (R : Bxs) : Prop :=
  ∃ tv rb, RowB tv x.texts rb ∧ K.Sys w0 w ds ((q, sobj x tv) :: (rb ++ R)) ∧ Nd ((q, sobj x tv) :: (rb ++ R))

theorem sysA_sub {w0 w : World} {A : Gh} {ds : List (Nat × K.St)} {bs bs' : Bxs} (h : K.SysA w0 A w ds bs) (hb : ∀ y ∈ bs', y ∈ bs) : K.SysA w0 A w ds bs' :=
  ⟨h.dom, h.low, h.below, h.nodup, h.disks, fun y hy => h.boxes y (hb y hy)⟩
theorem sysA_noDisk {w0 w : World} {A : Gh} {ds : List (Nat × K.St)} {bs : Bxs} (h : K.SysA w0 A w ds bs) {y : Nat × Obj} (hy : y ∈ bs) : ∀ d ∈ ds, ¬ (2 * d.1 = 2 * y.1) ∧ ¬ (2 * d.1 + 1 = 2 * y.1) := by
  intro d hd
  refine ⟨fun e => ?_, fun e => by omega⟩
  have e2 : d.1 = y.1 := by omega
  obtain ⟨k, hk⟩ := h.disks d hd
  have h1 := hk.parts.own
  rw [e2, (h.boxes y hy).1] at h1
  injection h1 with h1
  omega
/-- A box is written. -/
theorem sys_setbox {w0 w w' : World} {ds : List (Nat × K.St)} {b : Nat} {o o' : Obj} {bs : Bxs} (h : K.Sys w0 w ds ((b, o) :: bs)) (hn : Nd ((b, o) :: bs)) (hE : ∀ A : Gh, A b = .own (2 * b) 0 → Ext (· = 2 * b) noX A w A w') (ho : w'.heap[b]? = some o') :
    K.Sys w0 w' ds ((b, o') :: bs) ∧ Nd ((b, o') :: bs) := by
  obtain ⟨A, h⟩ := h
  have hA := (h.boxes (b, o) (List.mem_cons_self ..)).1
  have hnd := List.nodup_cons.1 hn
  have h2 := (sysA_sub h (bs' := bs) (fun y hy => List.mem_cons_of_mem _ hy)).ext (hE A hA) (fun d hd => ⟨fun e => (sysA_noDisk h (List.mem_cons_self ..) d hd).1 e, fun e => (sysA_noDisk h (List.mem_cons_self ..) d hd).2 e⟩) (fun y hy e => hnd.1 (List.mem_map.2 ⟨y, hy, by simp only; omega⟩))
  refine ⟨⟨A, h2.dom, h2.low, h2.below, h2.nodup, h2.disks, fun y hy => ?_⟩, hn⟩
  rcases List.mem_cons.1 hy with rfl | hy
  · exact ⟨hA, ho⟩
  · exact h2.boxes y hy
theorem sys_setcell {w0 w : World} {ds : List (Nat × K.St)} {b i : Nat} {cs : Array Value} {ty : TypeId} {bs : Bxs} (h : K.Sys w0 w ds ((b, .cells cs ty (0, 0)) :: bs)) (hn : Nd ((b, .cells cs ty (0, 0)) :: bs)) (v : Value) :
    K.Sys w0 (w.setCell ⟨b, i, none⟩ v) ds ((b, .cells (cs.setIfInBounds i v) ty (0, 0)) :: bs) ∧ Nd ((b, .cells (cs.setIfInBounds i v) ty (0, 0)) :: bs) := by
  have hb := h.at
  simp only at hb
  have hlt := (Array.getElem?_eq_some_iff.1 hb).1
  refine sys_setbox h hn (fun A hA => ?_) (heap_setCell_same w b i cs ty v hb)
  have := Ext.turn (X := noX) (w := w) (w' := w.setCell ⟨b, i, none⟩ v) (T := (· = 2 * b)) hA rfl (Nat.le_refl 0) rfl rfl rfl (by simp [World.setCell]) hlt (fun j hj => Below.heap_setCell w ⟨b, i, none⟩ v j hj) (fun j hj => absurd hj (Nat.not_lt_zero _))
  rwa [K.setG_eq hA] at this

/-- A log's row is appended to. -/
theorem sys_row {w0 w w' : World} {ds : List (Nat × K.St)} {q : Nat} {so : Obj} {tv v' : Value} {l l' : List Bs} {rb R : Bxs} (h : K.Sys w0 w ds ((q, so) :: (rb ++ R))) (hn : Nd ((q, so) :: (rb ++ R))) (hrb : RowB tv l rb)
    (hg : w.grownBy w' tv.ownBlock) (hown : OwnS 0 w' v' l') (hb : v'.ownBlock = none ∨ v'.ownBlock = tv.ownBlock ∨ v'.ownBlock = some w.heap.size) (hlt : v'.ownBlock = some w.heap.size → w.heap.size < w'.heap.size) :
    ∃ rb', RowB v' l' rb' ∧ K.Sys w0 w' ds ((q, so) :: (rb' ++ R)) ∧ Nd ((q, so) :: (rb' ++ R)) := by
  obtain ⟨A, h⟩ := h
  obtain ⟨rb', hrb', hrbw, hlen'⟩ := RowB.of hown
  have hsub := sysA_sub h (bs' := (q, so) :: R) (fun y hy => by
    rcases List.mem_cons.1 hy with rfl | hy
    · exact List.mem_cons_self ..
    · exact List.mem_cons_of_mem _ (List.mem_append_right _ hy))
  have hnq : ∀ y ∈ (q, so) :: R, tv.ownBlock ≠ some y.1 := fun y hy e => by
    obtain ⟨cur, rfl⟩ := hrb.block e
    have h1 := List.nodup_cons.1 hn
    rcases List.mem_cons.1 hy with rfl | hy
    · exact h1.1 (by simp)
    · have h2 : Nd (y.1 |> fun g => (g, Obj.cells cur 9 (0, 0)) :: R) := h1.2
      exact (List.nodup_cons.1 h2).1 (List.mem_map.2 ⟨y, hy, rfl⟩)
  have hnd0 : Nd ((q, so) :: R) := by
    have h1 := List.nodup_cons.1 hn
    refine List.nodup_cons.2 ⟨fun hm => h1.1 ?_, ?_⟩
    · obtain ⟨y, hy, e⟩ := List.mem_map.1 hm
      exact List.mem_map.2 ⟨y, List.mem_append_right _ hy, e⟩
    · have h2 := h1.2
      rw [List.map_append] at h2
      exact (List.nodup_append.1 h2).2.1
  have hlow : ∀ y ∈ (q, so) :: R, y.1 < w.heap.size := fun y hy => (Array.getElem?_eq_some_iff.1 (hsub.boxes y hy).2).1
  -- whose what is behind the call
  obtain ⟨A', hA', hE, hnew⟩ : ∃ A' : Gh, (∀ b, b < w.heap.size → A' b = A b) ∧ Ext (fun t => ∃ g, tv.ownBlock = some g ∧ t = 2 * g) noX A w A' w' ∧ ∀ g, v'.ownBlock = some g → A' g = .own (2 * g) 0 := by
    have hown0 : ∀ g, tv.ownBlock = some g → A g = .own (2 * g) 0 := fun g e => by
      obtain ⟨cur, rfl⟩ := hrb.block e
      exact (h.boxes (g, .cells cur 9 (0, 0)) (by simp)).1
    have mk : ∀ A' : Gh, (∀ b, b < w.heap.size → A' b = A b) → (Dom A w → Dom A' w') → Ext (fun t => ∃ g, tv.ownBlock = some g ∧ t = 2 * g) noX A w A' w' := fun A' hA' hd => by
      cases ht : tv.ownBlock with
      | none =>
        rw [ht] at hg
        refine ⟨hg.os, hg.tape, hg.output, hg.size, fun b hb _ _ => hg.block b hb (fun e => by cases e), fun b hb _ => hA' b hb, fun b t' n hb hAb hT' => ?_, hd⟩
        obtain ⟨g, e, _⟩ := hT'
        cases e
      | some g =>
        rw [ht] at hg
        exact ext_grown hg (T := fun t => ∃ g', some g = some g' ∧ t = 2 * g') (t := 2 * g) ⟨g, rfl, rfl⟩ (fun g' e => by cases e; exact hown0 g ht) hA' hd
    rcases hb with hb | hb | hb
    · exact ⟨A, fun _ _ => rfl, mk A (fun _ _ => rfl) (dom_grown (t := 0) hg.size), fun g e => by rw [hb] at e; cases e⟩
    · exact ⟨A, fun _ _ => rfl, mk A (fun _ _ => rfl) (dom_grown (t := 0) hg.size), fun g e => hown0 g (hb ▸ e)⟩
    · refine ⟨K.setG A w.heap.size (.own (2 * w.heap.size) 0), fun b hb => K.setG_other A _ (by omega), mk _ (fun b hb => K.setG_other A _ (by omega)) (dom_new hg.size (hlt hb) (by have := hlt hb; omega)), fun g e => ?_⟩
      rw [hb] at e
      cases e
      exact K.setG_same ..
  have h2 := hsub.ext hE (fun d hd => by
    have key : ∀ g, tv.ownBlock = some g → ¬ (2 * d.1 = 2 * g) ∧ ¬ (2 * d.1 + 1 = 2 * g) := fun g e => by
      obtain ⟨cur, rfl⟩ := hrb.block e
      exact sysA_noDisk h (y := (g, .cells cur 9 (0, 0))) (by simp) d hd
    exact ⟨fun ⟨g, e, e2⟩ => (key g e).1 e2, fun ⟨g, e, e2⟩ => (key g e).2 e2⟩) (fun y hy ⟨g, e, e2⟩ => hnq y hy (by rw [e]; congr 1; omega))
  have hnew' : ∀ y ∈ rb', ∀ z ∈ (q, so) :: R, z.1 ≠ y.1 := fun y hy z hz e => by
    have h3 := (hrbw y hy).2.1
    rcases hb with hb | hb | hb
    · rw [hb] at h3; cases h3
    · rw [hb] at h3; exact hnq z hz (by rw [h3, e])
    · rw [hb] at h3
      have := hlow z hz
      injection h3 with h3
      omega
  refine ⟨rb', hrb', ⟨A', h2.dom, h2.low, h2.below, h2.nodup, h2.disks, fun y hy => ?_⟩, ?_⟩
  · rcases List.mem_cons.1 hy with rfl | hy
    · exact h2.boxes _ (List.mem_cons_self ..)
    · rcases List.mem_append.1 hy with hy | hy
      · obtain ⟨i1, i2, _⟩ := hrbw y hy
        exact ⟨hnew _ i2, i1⟩
      · exact h2.boxes _ (List.mem_cons_of_mem _ hy)
  · have h1 := List.nodup_cons.1 hnd0
    refine List.nodup_cons.2 ⟨fun hm => ?_, ?_⟩
    · obtain ⟨y, hy, e⟩ := List.mem_map.1 hm
      rcases List.mem_append.1 hy with hy | hy
      · exact hnew' y hy (q, so) (List.mem_cons_self ..) e.symm
      · exact h1.1 (List.mem_map.2 ⟨y, hy, e⟩)
    · rw [List.map_append]
      refine List.nodup_append.2 ⟨?_, h1.2, fun a ha b hb e => ?_⟩
      · match rb', hlen' with
        | [], _ => exact List.nodup_nil
        | [y], _ => simp
      · obtain ⟨y, hy, rfl⟩ := List.mem_map.1 ha
        obtain ⟨z, hz, rfl⟩ := List.mem_map.1 hb
        exact hnew' y hy z (List.mem_cons_of_mem _ hz) e.symm
end Go.Proofs.YtcioomlhdaihkaaGreatDoor.L

namespace Go.Proofs.YtcioomlhdaihkaaGreatDoor.L
set_option linter.unusedVariables false
set_option linter.unusedSimpArgs false
set_option maxRecDepth 100000
open Go Go.RowKit Go.Maps Go.MapKept Go.ChangeMaps Go.Shelf Wire
open K (Gh Ext Dom noX Jd Steady)

section
variable {w0 w : World} {p q : Nat} {s : K.St} {x : Lg} {ds : List (Nat × K.St)} {R : Bxs}
/-- A log's cells. -/
structure Cel (w : World) (q : Nat) (x : Lg) (tv : Value) : Prop where
  c0 : w.cell? ⟨q, 0, none⟩ = some (.pointer (some ⟨x.disk, 0, none⟩))
  c1 : w.cell? ⟨q, 1, none⟩ = some (.int .i64 (x.limit : Nat))
  c2 : w.cell? ⟨q, 2, none⟩ = some tv
  c3 : w.cell? ⟨q, 3, none⟩ = some (.int .i64 (x.synced : Nat))
  c4 : w.cell? ⟨q, 4, none⟩ = some (.string (ba x.last))
  c5 : w.cell? ⟨q, 5, none⟩ = some (.bool x.broken)
  fz : ∀ i, w.frozen? ⟨q, i, none⟩ = false
theorem cel_of {tv : Value} (h : w.heap[q]? = some (sobj x tv)) : Cel w q x tv :=
  ⟨(K.cell_row h 0).trans rfl, (K.cell_row h 1).trans rfl, (K.cell_row h 2).trans rfl, (K.cell_row h 3).trans rfl, (K.cell_row h 4).trans rfl, (K.cell_row h 5).trans rfl, fun i => by unfold sobj at h; simp [World.frozen?, h]⟩
theorem LS.cel (h : LS w0 w ds q x R) : ∃ tv, Cel w q x tv ∧ OwnS 0 w tv x.texts := by
  obtain ⟨tv, rb, hrb, hS, hn⟩ := h
  refine ⟨tv, cel_of hS.at, hrb.own (fun y hy => ?_)⟩
  obtain ⟨A, hS⟩ := hS
  exact (hS.boxes y (List.mem_cons_of_mem _ (List.mem_append_left _ hy))).2
theorem LS.box (h : LS w0 w ds q x R) {y : Nat × Obj} (hy : y ∈ R) : w.heap[y.1]? = some y.2 := by
  obtain ⟨tv, rb, hrb, ⟨A, hS⟩, hn⟩ := h
  exact (hS.boxes y (List.mem_cons_of_mem _ (List.mem_append_right _ hy))).2
theorem LS.below {w' : World} (h : LS w0 w ds q x R) (hB : Below w.heap.size w w') : LS w0 w' ds q x R := by
  obtain ⟨tv, rb, hrb, hS, hn⟩ := h
  exact ⟨tv, rb, hrb, hS.below hB, hn⟩
theorem LS.low (h : LS w0 w ds q x R) : Below w0.heap.size w0 w := by
  obtain ⟨tv, rb, hrb, ⟨A, hS⟩, hn⟩ := h
  exact hS.below
theorem LS.tab (h : LS w0 w ds q x R) (ht : Tab w0) : Tab w := ht.keep h.low (Nat.le_refl _)
theorem LS.sys (h : LS w0 w ds q x R) : ∃ bs, K.Sys w0 w ds bs := by
  obtain ⟨tv, rb, hrb, hS, hn⟩ := h
  exact ⟨_, hS⟩
/-- A field is written. -/
theorem LS.set {i : Nat} {v : Value} {x' : Lg} (h : LS w0 w ds q x R) (ht : x'.texts = x.texts) (hc : ∀ tv, (lcells x tv).setIfInBounds i v = lcells x' tv) : LS w0 (w.setCell ⟨q, i, none⟩ v) ds q x' R := by
  obtain ⟨tv, rb, hrb, hS, hn⟩ := h
  obtain ⟨h1, h2⟩ := sys_setcell (i := i) hS hn v
  rw [hc tv] at h1 h2
  exact ⟨tv, rb, ht ▸ hrb, h1, h2⟩
theorem LS.disk {w' : World} {s' : K.St} (hw : ∀ bs, K.Sys w0 w ((p, s) :: ds) bs → K.Sys w0 w' ((p, s') :: ds) bs) (h : LS w0 w ((p, s) :: ds) q x R) : LS w0 w' ((p, s') :: ds) q x R := by
  obtain ⟨tv, rb, hrb, hS, hn⟩ := h
  exact ⟨tv, rb, hrb, hw _ hS, hn⟩
/-- A new box beside. -/
theorem LS.more {w' : World} {g : Nat} {o : Obj} (h : LS w0 w ds q x R) (hB : Below w.heap.size w w') (hg : w.heap.size ≤ g) (ho : w'.heap[g]? = some o) : LS w0 w' ds q x ((g, o) :: R) := by
  obtain ⟨tv, rb, hrb, hS, hn⟩ := h
  have hb := hS.box hB hg ho
  have hlt : ∀ y ∈ (q, sobj x tv) :: (rb ++ R), y.1 < w.heap.size := fun y hy => by
    obtain ⟨A, hS⟩ := hS
    exact (Array.getElem?_eq_some_iff.1 (hS.boxes y hy).2).1
  refine ⟨tv, rb, hrb, hb.perm (List.Perm.refl _) (fun y hy => ?_), ?_⟩
  · rcases List.mem_cons.1 hy with rfl | hy
    · exact List.mem_cons_of_mem _ (List.mem_cons_self ..)
    · rcases List.mem_append.1 hy with hy | hy
      · exact List.mem_cons_of_mem _ (List.mem_cons_of_mem _ (List.mem_append_left _ hy))
      · rcases List.mem_cons.1 hy with rfl | hy
        · exact List.mem_cons_self ..
        · exact List.mem_cons_of_mem _ (List.mem_cons_of_mem _ (List.mem_append_right _ hy))
  · have hp : (((q, sobj x tv) :: (rb ++ (g, o) :: R)).map (·.1)).Perm (((g, o) :: (q, sobj x tv) :: (rb ++ R)).map (·.1)) := by
      refine List.Perm.map _ ?_
      refine ((List.perm_middle (l₁ := rb) (l₂ := R) (a := (g, o))).cons _).trans (List.Perm.swap _ _ _)
    refine hp.nodup_iff.2 (List.nodup_cons.2 ⟨fun hm => ?_, hn⟩)
    obtain ⟨y, hy, e⟩ := List.mem_map.1 hm
    have := hlt y hy
    have e2 : y.1 = g := e
    omega
theorem LS.drop {R' : Bxs} (h : LS w0 w ds q x R) (hs : ∀ y ∈ R', y ∈ R) (hn' : R'.Sublist R) : LS w0 w ds q x R' := by
  obtain ⟨tv, rb, hrb, hS, hn⟩ := h
  refine ⟨tv, rb, hrb, hS.perm (List.Perm.refl _) (fun y hy => ?_), ?_⟩
  · rcases List.mem_cons.1 hy with rfl | hy
    · exact List.mem_cons_self ..
    · rcases List.mem_append.1 hy with hy | hy
      · exact List.mem_cons_of_mem _ (List.mem_append_left _ hy)
      · exact List.mem_cons_of_mem _ (List.mem_append_right _ (hs y hy))
  · exact List.Nodup.sublist ((((List.Sublist.refl rb).append hn').cons_cons _).map _) hn

/-! ### what is asked -/
theorem log_none_some (h : LS w0 w ds q x R) : Calls Tryz.prog 24 #[.pointer (some ⟨q, 0, none⟩)] w fun e w' => e = .returned (.bool false) ∧ w = w' := by
  obtain ⟨tv, ⟨c0, c1, c2, c3, c4, c5, fz⟩, _⟩ := h.cel
  clear h
  go_enter Tryz.func24, Tryz.ntmps24
  go_wp2
  go_ret
  exact ⟨rfl, rfl⟩
theorem log_none_nil (w : World) : Calls Tryz.prog 24 #[.pointer none] w fun e w' => e = .returned (.bool true) ∧ w = w' := by
  go_enter Tryz.func24, Tryz.ntmps24
  go_wp2
  go_ret
  exact ⟨rfl, rfl⟩
theorem log_refuses (h : LS w0 w ds q x R) : Calls Tryz.prog 26 #[.pointer (some ⟨q, 0, none⟩)] w fun e w' => e = .returned (.int .i64 (if x.broken then 9 else 0)) ∧ w = w' := by
  obtain ⟨tv, ⟨c0, c1, c2, c3, c4, c5, fz⟩, _⟩ := h.cel
  have hn := log_none_some h
  clear h
  cases hb : x.broken with
  | true =>
    rw [hb] at c5
    go_enter Tryz.func26, Tryz.ntmps26
    go_wp2_with (go_at_call 24; refine hn.mono ?_; rintro e w' ⟨rfl, rfl⟩)
    go_ret
    exact ⟨rfl, rfl⟩
  | false =>
    rw [hb] at c5
    go_enter Tryz.func26, Tryz.ntmps26
    go_wp2_with (go_at_call 24; refine hn.mono ?_; rintro e w' ⟨rfl, rfl⟩)
    go_ret
    exact ⟨rfl, rfl⟩
theorem log_refuses_nil (w : World) : Calls Tryz.prog 26 #[.pointer none] w fun e w' => e = .returned (.int .i64 1) ∧ w = w' := by
  go_enter Tryz.func26, Tryz.ntmps26
  go_wp2_with (go_at_call 24; refine (log_none_nil _).mono ?_; rintro e w' ⟨rfl, rfl⟩)
  go_ret
  exact ⟨rfl, rfl⟩
theorem log_Synced (h : LS w0 w ds q x R) : Calls Tryz.prog 11 #[.pointer (some ⟨q, 0, none⟩)] w fun e w' => e = .returned (.int .i64 (x.synced : Nat)) ∧ w = w' := by
  obtain ⟨tv, ⟨c0, c1, c2, c3, c4, c5, fz⟩, _⟩ := h.cel
  have hn := log_none_some h
  clear h
  go_enter Tryz.func11, Tryz.ntmps11
  go_wp2_with (go_at_call 24; refine hn.mono ?_; rintro e w' ⟨rfl, rfl⟩)
  go_ret
  exact ⟨rfl, rfl⟩
theorem log_Synced_nil (w : World) : Calls Tryz.prog 11 #[.pointer none] w fun e w' => e = .returned (.int .i64 0) ∧ w = w' := by
  go_enter Tryz.func11, Tryz.ntmps11
  go_wp2_with (go_at_call 24; refine (log_none_nil _).mono ?_; rintro e w' ⟨rfl, rfl⟩)
  go_ret
  exact ⟨rfl, rfl⟩
theorem log_Names_nil (w : World) : Calls Tryz.prog 20 #[.pointer none] w fun e w' => e = .returned (.slice none 0 0) ∧ w = w' := by
  go_enter Tryz.func20, Tryz.ntmps20
  go_wp2_with (go_at_call 24; refine (log_none_nil _).mono ?_; rintro e w' ⟨rfl, rfl⟩)
  go_ret
  exact ⟨rfl, rfl⟩
theorem log_Texts_nil (w : World) : Calls Tryz.prog 17 #[.pointer none] w fun e w' => e = .returned (.slice none 0 0) ∧ w = w' := by
  go_enter Tryz.func17, Tryz.ntmps17
  go_wp2_with (go_at_call 24; refine (log_none_nil _).mono ?_; rintro e w' ⟨rfl, rfl⟩)
  go_ret
  exact ⟨rfl, rfl⟩
theorem log_Sync_nil (w : World) : Calls Tryz.prog 14 #[.pointer none] w fun e w' => e = .returned (.int .i64 1) ∧ w = w' := by
  go_enter Tryz.func14, Tryz.ntmps14
  go_wp2_with (go_at_call 26; refine (log_refuses_nil _).mono ?_; rintro e w' ⟨rfl, rfl⟩)
  go_ret
  exact ⟨rfl, rfl⟩
theorem log_Names (h : LS w0 w ((p, s) :: ds) q x R) (hp : x.disk = p) (hlim : s.lim ≤ 549755813888) {ks : List Nat} {dr : Bool} (hk : NamesOk s.seen ks dr) :
    Calls Tryz.prog 20 #[.pointer (some ⟨q, 0, none⟩)] w fun e w' => ∃ v, e = .returned v ∧ Q.SV w' v (namesOf ks false) ∧ (∃ ad cap, v = .slice ad ks.length cap) ∧ Below w.heap.size w w' := by
  obtain ⟨tv, ⟨c0, c1, c2, c3, c4, c5, fz⟩, _⟩ := h.cel
  have hn := log_none_some h
  obtain ⟨bs, hS⟩ := h.sys
  have hsn := log_segmentNames hS hlim hk
  rw [hp] at c0
  clear h hS
  go_enter Tryz.func20, Tryz.ntmps20
  go_wp2_with (first
    | (go_at_call 24; refine hn.mono ?_; rintro e w' ⟨rfl, rfl⟩)
    | (go_at_call 46; refine hsn.mono ?_; rintro e w1 ⟨ad, len, cap, rfl, hF, _, hb⟩))
  go_ret
  have h1 := hF.hlen
  rw [namesOf_len] at h1
  simp at h1
  subst h1
  exact ⟨_, rfl, hF.sv, ⟨ad, cap, rfl⟩, hb⟩

/-- What the disk holds under a name. -/
theorem log_unlessFull (h : LS w0 w ((p, s) :: ds) q x R) (hp : x.disk = p) (hlim : s.lim ≤ 549755813888) (n : Bs) (hn : n.length ≤ 1000) (c : Bs) (hc : s.read n = (c, 0)) (hcl : c.length ≤ 1000000) (hx : x.limit ≤ 1048576) :
    Calls Tryz.prog 32 #[.pointer (some ⟨q, 0, none⟩), .string (ba n)] w fun e w' => e = .returned (.string (ba (if x.limit ≤ c.length then [] else n))) ∧ w = w' := by
  obtain ⟨tv, ⟨c0, c1, c2, c3, c4, c5, fz⟩, _⟩ := h.cel
  obtain ⟨bs, hS⟩ := h.sys
  have hrd := K.sys_Read hS n (by omega) hlim
  rw [hc] at hrd
  have hrd3 : Calls Tryz.prog 47 #[.pointer (some ⟨p, 0, none⟩), .string (ba n)] w fun e w' => e = .returned (.tuple #[.string (ba c), .int .i64 0]) ∧ w = w' := hrd
  rw [hp] at c0
  have hcs : (ba c).size = c.length := ba_size c
  clear h hS hrd hc
  by_cases hle : x.limit ≤ c.length
  · rw [if_pos hle]
    go_enter Tryz.func32, Tryz.ntmps32
    go_wp2_with (go_at_call 47; refine hrd3.mono ?_; rintro e w' ⟨rfl, rfl⟩)
    go_ret
    exact ⟨rfl, rfl⟩
  · rw [if_neg hle]
    go_enter Tryz.func32, Tryz.ntmps32
    go_wp2_with (go_at_call 47; refine hrd3.mono ?_; rintro e w' ⟨rfl, rfl⟩)
    go_ret
    exact ⟨rfl, rfl⟩
end
end Go.Proofs.YtcioomlhdaihkaaGreatDoor.L

namespace Go.Proofs.YtcioomlhdaihkaaGreatDoor.L
set_option linter.unusedVariables false
set_option linter.unusedSimpArgs false
set_option maxRecDepth 100000
open Go Go.RowKit Go.Maps Go.MapKept Go.ChangeMaps Go.Shelf Wire
attribute [-go_sem] Go.Builtin.append_

set_option maxHeartbeats 1000000 in
theorem sl_Grow (n : Nat) (h0 : 0 < n) (hn : n ≤ 1000000) (w : World) :
    Calls Tryz.prog 79 #[.slice none 0 0, .int .i64 (n : Nat)] w fun e w' => ∃ cap, e = .returned (.slice (some ⟨w.heap.size, 0, none⟩) 0 cap) ∧ w'.ownsRow w.heap.size 9 1 (.slice (some ⟨w.heap.size, 0, none⟩) 0 cap) 0 [] ∧ Below w.heap.size w w' := by
  obtain ⟨i0, hi, hz0, hz1, hz2⟩ := info_parts Q.str_info
  have hrun := Lib.run_append_nil_zeros (P := Tryz.prog) w 36 3 36 9 i0 (.string ⟨#[]⟩) .i64 .i64 Tryz.underlying36 Tryz.underlying3 hi hz0 n h0 (by omega) (by omega) (by rw [hz2]; omega)
  have hge := grownCap_ge w n 0 9
  have hle := grownCap_le_maxLen w n 0 9 (by unfold maxLen; omega)
  have hzc : ∀ k, (Builtin.zeroCells (Value.string ⟨#[]⟩).cells k).size = k := fun k => by rw [size_zeroCells]; simp [Value.cells]
  generalize hC : grownCap w n 0 9 = C at *
  have hsz : (Builtin.zeroCells (Value.string ⟨#[]⟩).cells n ++ Builtin.zeroCells (Value.string ⟨#[]⟩).cells (C - n)).size = C * 1 := by rw [Array.size_append, hzc, hzc]; omega
  generalize (Builtin.zeroCells (Value.string ⟨#[]⟩).cells n ++ Builtin.zeroCells (Value.string ⟨#[]⟩).cells (C - n)) = cur at *
  have hown := World.ownsRow_made w.drew (base := w.heap.size) (e := 9) (size := 1) cur C (Nat.le_refl _) hle hsz
  have HOWN := hid hown
  have HB := hid (((Below.refl w.heap.size w).drew).alloc (Nat.le_refl _) (.cells cur 9))
  have hC9 : C ≤ 9223372036854775807 := by unfold maxLen at hle; omega
  clear hown hsz hzc hC hi hz0 hz1 hz2 hle
  go_enter Tryz.func79, Tryz.ntmps79
  go_wp2
  go_ret
  exact ⟨C, rfl, HOWN.out, HB.out⟩

/-- Two rows behind one another. -/
theorem own_append {B : Nat} {w : World} {v : Value} {xs ys : List Bs} (hR : OwnS B w v xs) (hB : B ≤ w.heap.size) {ad : Option Addr} {len cap : Nat} (hI : Q.IsSV w ad len cap ys) (hx : xs.length ≤ 1000000) (hy : ys.length ≤ 1000000) :
    ∃ v' w', (Builtin.append_ #[36, 36] 36 #[v, .slice ad len cap]).run Tryz.prog w = .ok v' w' ∧ OwnS B w' v' (xs ++ ys) ∧ (∃ p n c, v' = .slice p n c) ∧ Below B w w' := by
  obtain ⟨v', w', hr, hown, hg, _, _⟩ := strs_append hR hB hI hx hy
  obtain ⟨p, c, e⟩ := Q.out_form hown
  exact ⟨v', w', hr, hown, ⟨p, _, c, e⟩, (Below.refl B w).grown hg hB (fun k hk => (hR.lt k hk).1)⟩

set_option maxHeartbeats 2000000 in
theorem sl_Concat (g : Nat) (v1 v2 : Value) (l1 l2 : List Bs) (h1 : 0 < l1.length) (hl : l1.length + l2.length ≤ 500000) (w : World) (hc1 : w.cell? ⟨g, 0, none⟩ = some v1) (hc2 : w.cell? ⟨g, 1, none⟩ = some v2) (hs1 : Q.SV w v1 l1) (hs2 : Q.SV w v2 l2) :
    Calls Tryz.prog 51 #[.slice (some ⟨g, 0, none⟩) 2 2] w fun e w' => ∃ v, e = .returned v ∧ Q.SV w' v (l1 ++ l2) ∧ Below w.heap.size w w' := by
  obtain ⟨ad1, len1, cap1, rfl, hI1⟩ := hs1
  obtain ⟨ad2, len2, cap2, rfl, hI2⟩ := hs2
  have e1 := hI1.hlen
  have e2 := hI2.hlen
  have HI1 := hid hI1
  have HI2 := hid hI2
  have hgr := sl_Grow (l1.length + l2.length) (by omega) (by omega) w
  have HL := hid hl
  have HC1 := hid hc1
  have HC2 := hid hc2
  rw [e1] at h1
  rw [e1, e2] at hl hgr
  clear hI1 hI2
  rw [Int.natCast_add] at hgr
  go_enter Tryz.func51, Tryz.ntmps51
  have hgB := World.block_lt_of_cell? w _ hc1
  simp only at hgB
  go_wp2
  go_loopw [3, 11] (fun z i wr => wr = w ∧ ((i = .int .i64 0 ∧ z = .int .i64 0) ∨ (i = .int .i64 1 ∧ z = .int .i64 (len1 : Nat)) ∨ (i = .int .i64 2 ∧ z = .int .i64 ((len1 : Int) + (len2 : Int))))) (fun z i _ => 2 - (intOf i).toNat)
  case atStart => exact ⟨rfl, .inl ⟨rfl, rfl⟩⟩
  case round =>
    obtain ⟨rfl, ⟨rfl, rfl⟩ | ⟨rfl, rfl⟩ | ⟨rfl, rfl⟩⟩ := hrel
    · go_wp2
      go_roundw
      case rel => simp
      case measure => simp [intOf]
    · go_wp2
      go_roundw
      case rel => first | exact ⟨rfl, .inr (.inr ⟨rfl, rfl⟩)⟩ | simp
      case measure => simp [intOf]
    · go_wp2_with (go_at_call 79; refine hgr.mono ?_; rintro e w1 ⟨cap, rfl, hown, hb1⟩; have HOWN := hid hown; have HB1 := hid hb1; clear hown hb1)
      go_loopw [6, 27] (fun v i W => ∃ L p n c, v = .slice p n c ∧ Hid (OwnS wr.heap.size W (.slice p n c) L) ∧ Hid (Below wr.heap.size wr W) ∧ ((i = .int .i64 0 ∧ L = []) ∨ (i = .int .i64 1 ∧ L = l1) ∨ (i = .int .i64 2 ∧ L = l1 ++ l2))) (fun v i _ => 2 - (intOf i).toNat)
      case atStart => exact ⟨[], _, _, _, rfl, HOWN, HB1, .inl ⟨rfl, rfl⟩⟩
      case round =>
        obtain ⟨L, p, n, c, rfl, HO, HB, hor⟩ := hrel
        have hx1 := ((HB.out).cell (p := ⟨g, 0, none⟩) hgB).trans HC1.out
        have hx2 := ((HB.out).cell (p := ⟨g, 1, none⟩) hgB).trans HC2.out
        have hll := HL.out
        rcases hor with ⟨rfl, rfl⟩ | ⟨rfl, rfl⟩ | ⟨rfl, rfl⟩
        · obtain ⟨v', w', hrun, hO, ⟨p', n', c', rfl⟩, hb⟩ := own_append HO.out HB.out.size (HI1.out.keep HB.out) (by simp) (by omega)
          have HO' := hid hO
          have HB' := hid hb
          clear hO hb
          go_wp2
          go_roundw
          case rel => exact ⟨_, _, _, _, rfl, HO', hid (HB.out.trans HB'.out), .inr (.inl ⟨rfl, rfl⟩)⟩
          case measure => simp [intOf]
        · obtain ⟨v', w', hrun, hO, ⟨p', n', c', rfl⟩, hb⟩ := own_append HO.out HB.out.size (HI2.out.keep HB.out) (by omega) (by omega)
          have HO' := hid hO
          have HB' := hid hb
          clear hO hb
          go_wp2
          go_roundw
          case rel => exact ⟨_, _, _, _, rfl, HO', hid (HB.out.trans HB'.out), .inr (.inr ⟨rfl, rfl⟩)⟩
          case measure => simp [intOf]
        · go_wp2
          go_ret
          exact ⟨_, rfl, (Q.OutV.sv HO.out : Q.SV wr (.slice p n c) (l1 ++ l2)), HB.out⟩
end Go.Proofs.YtcioomlhdaihkaaGreatDoor.L
