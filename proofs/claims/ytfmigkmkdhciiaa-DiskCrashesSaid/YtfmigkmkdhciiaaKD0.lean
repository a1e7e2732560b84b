/-
  Disks: an act of the law.
-/
import Derived.Test.YtfmigkmkdhciiaaKRa
import Derived.Test.YtfmigkmkdhciiaaKArg
import Derived.Test.YtfmigkmkdhciiaaKSy
namespace Go.Proofs.Ytfmigkmkdhciiaa.K
set_option linter.unusedVariables false
set_option linter.unusedSimpArgs false
set_option maxRecDepth 100000
open Go Go.RowKit Go.Maps Go.MapKept Go.ChangeMaps

def doM (s : St) (x : ActM) : St :=
  if x.a % 7 = 0 ∨ x.a % 7 = 1 then (s.append x.b x.c).1 else if x.a % 7 = 2 then (s.remove x.b).1 else if x.a % 7 = 3 then (s.rename x.b x.c).1 else if x.a % 7 = 4 then s.sync.1 else if x.a % 7 = 6 then (s.fuse x.k).1 else (s.crash x.k).1

/-- A box is written. -/
theorem Sys.turnBox {w0 W W' : World} {l : List (Nat × St)} {bs : List (Nat × Obj)} {b : Nat} {o o' : Obj} (h : Sys w0 W l ((b, o) :: bs)) (hne : ∀ x ∈ bs, x.1 ≠ b) (hos : W'.os = W.os) (htp : W'.tape = W.tape) (hop : W'.output = W.output) (hsz : W'.heap.size = W.heap.size)
    (hb : ∀ j, j ≠ b → W'.heap[j]? = W.heap[j]?) (ho : W'.heap[b]? = some o') : Sys w0 W' l ((b, o') :: bs) := by
  obtain ⟨A, h⟩ := h
  obtain ⟨hA, hob⟩ := h.boxes (b, o) (List.mem_cons_self ..)
  have hE : Ext (· = 2 * b) noX A W A W' := by
    have := Ext.turn (X := noX) (T := (· = 2 * b)) hA rfl (Nat.le_refl 0) hos htp hop hsz (Array.getElem?_eq_some_iff.1 hob).1 hb (fun i hi => absurd hi (Nat.not_lt_zero _))
    rwa [setG_eq hA] at this
  have h1 : SysA w0 A W l bs := ⟨h.dom, h.low, h.below, h.nodup, h.disks, fun y hy => h.boxes y (List.mem_cons_of_mem _ hy)⟩
  have h2 := h1.ext hE (fun x hx => by
    obtain ⟨k, hk⟩ := h1.disks x hx
    have hown := hk.parts.own
    refine ⟨fun e => ?_, fun e => by omega⟩
    have e2 : x.1 = b := by omega
    rw [e2, hA] at hown
    injection hown with e3
    omega) (fun x hx e => hne x hx (by omega))
  refine ⟨A, h2.dom, h2.low, h2.below, h2.nodup, h2.disks, fun y hy => ?_⟩
  rcases List.mem_cons.1 hy with rfl | hy
  · exact ⟨hA, ho⟩
  · exact h2.boxes y hy
theorem set_os (W : World) (a : Addr) (v : Value) : (W.setCell a v).os = W.os := rfl
theorem set_tape (W : World) (a : Addr) (v : Value) : (W.setCell a v).tape = W.tape := rfl
theorem set_output (W : World) (a : Addr) (v : Value) : (W.setCell a v).output = W.output := rfl
abbrev six (V : World) (b : Nat) (v0 v1 v2 v3 v4 v5 : Value) : World := ((((((V.setCell ⟨b, 0, none⟩ v0).setCell ⟨b, 1, none⟩ v1).setCell ⟨b, 2, none⟩ v2).setCell ⟨b, 3, none⟩ v3).setCell ⟨b, 4, none⟩ v4).setCell ⟨b, 5, none⟩ v5)
theorem Sys.six {w0 V : World} {l : List (Nat × St)} {bs : List (Nat × Obj)} {b : Nat} (h : Sys w0 V l ((b, .cells #[.int .i64 0, .slice none 0 0, .slice none 0 0, .bool false, .int .i64 0, .bool false] 32 (0, 0)) :: bs)) (hne : ∀ x ∈ bs, x.1 ≠ b) (v0 v1 v2 v3 v4 v5 : Value) :
    Sys w0 (K.six V b v0 v1 v2 v3 v4 v5) l ((b, .cells #[v0, v1, v2, v3, v4, v5] 32 (0, 0)) :: bs) := by
  have h1 := h.at
  have hsz : (K.six V b v0 v1 v2 v3 v4 v5).heap.size = V.heap.size := by simp only [K.six, set_size]
  have hos : (K.six V b v0 v1 v2 v3 v4 v5).os = V.os := by simp only [K.six, set_os]
  have htp : (K.six V b v0 v1 v2 v3 v4 v5).tape = V.tape := by simp only [K.six, set_tape]
  have hop : (K.six V b v0 v1 v2 v3 v4 v5).output = V.output := by simp only [K.six, set_output]
  have hot : ∀ j, j ≠ b → (K.six V b v0 v1 v2 v3 v4 v5).heap[j]? = V.heap[j]? := fun j hj => by
    show (((((((V.setCell ⟨b, 0, none⟩ v0).setCell ⟨b, 1, none⟩ v1).setCell ⟨b, 2, none⟩ v2).setCell ⟨b, 3, none⟩ v3).setCell ⟨b, 4, none⟩ v4).setCell ⟨b, 5, none⟩ v5)).heap[j]? = _
    rw [Below.heap_setCell _ _ _ _ (by simpa using hj), Below.heap_setCell _ _ _ _ (by simpa using hj), Below.heap_setCell _ _ _ _ (by simpa using hj), Below.heap_setCell _ _ _ _ (by simpa using hj), Below.heap_setCell _ _ _ _ (by simpa using hj), Below.heap_setCell _ _ _ _ (by simpa using hj)]
  have hho : (K.six V b v0 v1 v2 v3 v4 v5).heap[b]? = some (.cells #[v0, v1, v2, v3, v4, v5] 32 (0, 0)) := by
    show (((((((V.setCell ⟨b, 0, none⟩ v0).setCell ⟨b, 1, none⟩ v1).setCell ⟨b, 2, none⟩ v2).setCell ⟨b, 3, none⟩ v3).setCell ⟨b, 4, none⟩ v4).setCell ⟨b, 5, none⟩ v5)).heap[b]? = _
    rw [set_row (set_row (set_row (set_row (set_row (set_row h1 _) _) _) _) _) _]
    rfl
  generalize K.six V b v0 v1 v2 v3 v4 v5 = W' at *
  exact h.turnBox hne hos htp hop hsz hot hho
theorem Sys.boxLt {w0 w : World} {l : List (Nat × St)} {bs : List (Nat × Obj)} (h : Sys w0 w l bs) : ∀ x ∈ bs, x.1 < w.heap.size := fun x hx => by
  obtain ⟨A, h⟩ := h
  exact (Array.getElem?_eq_some_iff.1 (h.boxes x hx).2).1
theorem Sys.mem {w0 w : World} {l : List (Nat × St)} {bs : List (Nat × Obj)} (h : Sys w0 w l bs) : ∀ x ∈ bs, w.heap[x.1]? = some x.2 := fun x hx => by
  obtain ⟨A, h⟩ := h
  exact (h.boxes x hx).2
abbrev zObj : Obj := .cells #[.int .i64 0, .slice none 0 0, .slice none 0 0, .bool false, .int .i64 0, .bool false] 32 (0, 0)
abbrev xObj (x : ActM) : Obj := .cells #[.int .u8 x.a, strV x.b, strV x.c, .int .i64 x.k] 36 (0, 0)
theorem does_boxes {w0 w : World} {l : List (Nat × St)} {bs : List (Nat × Obj)} (h : Sys w0 w l bs) (x : ActM) :
    Sys w0 (((w.alloc (.cells #[.int .i64 0, .slice none 0 0, .slice none 0 0, .bool false, .int .i64 0, .bool false] 32)).alloc (.cells #[.int .u8 x.a, strV x.b, strV x.c, .int .i64 x.k] 36)).alloc (.cells #[.int .i64 0, .slice none 0 0, .slice none 0 0, .bool false, .int .i64 0, .bool false] 32)) l ((w.heap.size + 2, zObj) :: (w.heap.size + 1, xObj x) :: (w.heap.size, zObj) :: bs) := by
  have e1 : (w.alloc (.cells #[.int .i64 0, .slice none 0 0, .slice none 0 0, .bool false, .int .i64 0, .bool false] 32)).heap.size = w.heap.size + 1 := by simp
  have e2 : ((w.alloc (.cells #[.int .i64 0, .slice none 0 0, .slice none 0 0, .bool false, .int .i64 0, .bool false] 32)).alloc (.cells #[.int .u8 x.a, strV x.b, strV x.c, .int .i64 x.k] 36)).heap.size = w.heap.size + 2 := by simp
  have h1 := h.box ((Below.refl _ w).alloc (Nat.le_refl _) (.cells #[.int .i64 0, .slice none 0 0, .slice none 0 0, .bool false, .int .i64 0, .bool false] 32)) (Nat.le_refl _) (heap_last w _)
  have h2 := h1.box ((Below.refl _ _).alloc (Nat.le_refl _) (.cells #[.int .u8 x.a, strV x.b, strV x.c, .int .i64 x.k] 36)) (Nat.le_refl _) (heap_last _ _)
  rw [e1] at h2
  have h3 := h2.box ((Below.refl _ _).alloc (Nat.le_refl _) (.cells #[.int .i64 0, .slice none 0 0, .slice none 0 0, .bool false, .int .i64 0, .bool false] 32)) (Nat.le_refl _) (heap_last _ _)
  rw [e2] at h3
  exact h3
/-- What a walk needs of the boxes. -/
structure Bx (n : Nat) (x : ActM) (V : World) : Prop where
  q : V.heap[n]? = some zObj
  x : V.heap[n + 1]? = some (xObj x)
  r : V.heap[n + 2]? = some zObj
theorem bx_of {w0 V : World} {l : List (Nat × St)} {bs : List (Nat × Obj)} {n : Nat} {x : ActM} (h : Sys w0 V l ((n + 2, zObj) :: (n + 1, xObj x) :: (n, zObj) :: bs)) : Bx n x V :=
  ⟨h.mem (n, zObj) (by simp), h.mem (n + 1, xObj x) (by simp), h.mem (n + 2, zObj) (by simp)⟩
theorem does_end {w0 V : World} {l : List (Nat × St)} {bs : List (Nat × Obj)} {n : Nat} {x : ActM} (h : Sys w0 V l ((n + 2, zObj) :: (n + 1, xObj x) :: (n, zObj) :: bs)) (hlt : ∀ y ∈ bs, y.1 < n) (v0 v1 v2 v3 v4 v5 : Value) :
    (K.six (K.six V n v0 v1 v2 v3 v4 v5) (n + 2) v0 v1 v2 v3 v4 v5).heap[n + 2]? = some (.cells #[v0, v1, v2, v3, v4, v5] 32 (0, 0)) ∧ Sys w0 (K.six (K.six V n v0 v1 v2 v3 v4 v5) (n + 2) v0 v1 v2 v3 v4 v5) l bs := by
  have h1 : Sys w0 V l ((n, zObj) :: (n + 2, zObj) :: bs) := h.perm (List.Perm.refl _) (fun y hy => by
    simp only [List.mem_cons] at hy ⊢
    rcases hy with hy | hy | hy
    · exact .inr (.inr (.inl hy))
    · exact .inl hy
    · exact .inr (.inr (.inr hy)))
  have h2 := h1.six (fun y hy => by
    simp only [List.mem_cons] at hy
    rcases hy with rfl | hy
    · simp
    · have := hlt y hy; omega) v0 v1 v2 v3 v4 v5
  have h3 : Sys w0 (K.six V n v0 v1 v2 v3 v4 v5) l ((n + 2, zObj) :: bs) := h2.perm (List.Perm.refl _) (fun y hy => by
    simp only [List.mem_cons] at hy ⊢
    rcases hy with hy | hy
    · exact .inr (.inl hy)
    · exact .inr (.inr hy))
  have h4 := h3.six (fun y hy => by have := hlt y hy; omega) v0 v1 v2 v3 v4 v5
  exact ⟨h4.at, h4.perm (List.Perm.refl _) (fun y hy => List.mem_cons_of_mem _ hy)⟩
end Go.Proofs.Ytfmigkmkdhciiaa.K
