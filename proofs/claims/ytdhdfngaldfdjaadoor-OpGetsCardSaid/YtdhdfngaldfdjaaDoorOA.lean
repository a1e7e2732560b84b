/-
  Operations as rows of cells; what one covers; the document's.
-/
import Derived.Test.YtdhdfngaldfdjaaDoorVVec
import Derived.BigQuiet
import Derived.BigFrame
namespace Go.Proofs.YtdhdfngaldfdjaaDoor.V
set_option linter.unusedVariables false
set_option linter.unusedSimpArgs false
open Go Go.RowKit Go.Maps Go.Sort

/-- An operation: its numbers, and the value of its lines. -/
structure OpM where
  (r n : Nat) (dep : Vec) (tm who cr cn kd dr dn to ro de cap ar an vr vn it qt pr : Nat) (lv : Value)
structure okO (o : OpM) : Prop where
  dep : okV o.dep
  r : o.r < 256
  n : o.n < 4294967296
  tm : o.tm < 18446744073709551616
  who : o.who < 4294967296
  cr : o.cr < 256
  cn : o.cn < 4294967296
  kd : o.kd < 256
  dr : o.dr < 256
  dn : o.dn < 4294967296
  to : o.to < 4294967296
  ro : o.ro < 256
  de : o.de < 256
  cap : o.cap < 18446744073709551616
  ar : o.ar < 256
  an : o.an < 4294967296
  vr : o.vr < 256
  vn : o.vn < 4294967296
  it : o.it < 4294967296
  qt : o.qt < 4294967296
  pr : o.pr < 4294967296
def oc (o : OpM) : Array Value := #[.int .u8 (o.r : Int), .int .u32 (o.n : Int), .int .u32 (o.dep 0 : Int), .int .u32 (o.dep 1 : Int), .int .u32 (o.dep 2 : Int), .int .u32 (o.dep 3 : Int), .int .u32 (o.dep 4 : Int), .int .u32 (o.dep 5 : Int), .int .u32 (o.dep 6 : Int), .int .u32 (o.dep 7 : Int), .int .u64 (o.tm : Int), .int .u32 (o.who : Int), .int .u8 (o.cr : Int), .int .u32 (o.cn : Int), .int .u8 (o.kd : Int), .int .u8 (o.dr : Int), .int .u32 (o.dn : Int), .int .u32 (o.to : Int), .int .u8 (o.ro : Int), .int .u8 (o.de : Int), .int .u64 (o.cap : Int), .int .u8 (o.ar : Int), .int .u32 (o.an : Int), .int .u8 (o.vr : Int), .int .u32 (o.vn : Int), .int .u32 (o.it : Int), .int .u32 (o.qt : Int), .int .u32 (o.pr : Int), o.lv]
theorem oc_size (o : OpM) : (oc o).size = 29 := rfl
/-- An operation's block. -/
def OpAt (w : World) (b : Nat) (o : OpM) : Prop := w.heap[b]? = some (.cells (oc o) 30 (0, 0))
theorem OpAt.lt {w : World} {b : Nat} {o : OpM} (h : OpAt w b o) : b < w.heap.size := lt_of_heap h
theorem OpAt.keep {w w' : World} {b : Nat} {o : OpM} (h : OpAt w b o) (hb : Below w.heap.size w w') : OpAt w' b o := heap_keep h hb
theorem OpAt.al {w : World} {b : Nat} {o : OpM} (h : OpAt w b o) (x : Obj) : OpAt (w.alloc x) b o := heap_al h x
theorem OpAt.dr {w : World} {b : Nat} {o : OpM} (h : OpAt w b o) : OpAt w.drew b o := h
theorem OpAt.cell {w : World} {b : Nat} {o : OpM} (h : OpAt w b o) (k : Nat) : w.cell? ⟨b, k, none⟩ = (oc o)[k]? := by
  unfold OpAt at h
  simp [World.cell?, h]
theorem OpAt.c0 {w : World} {b : Nat} {o : OpM} (h : OpAt w b o) : w.cell? ⟨b, 0, none⟩ = some (.int .u8 (o.r : Int)) := (h.cell 0).trans rfl
theorem OpAt.c1 {w : World} {b : Nat} {o : OpM} (h : OpAt w b o) : w.cell? ⟨b, 1, none⟩ = some (.int .u32 (o.n : Int)) := (h.cell 1).trans rfl
theorem OpAt.c2 {w : World} {b : Nat} {o : OpM} (h : OpAt w b o) : w.cell? ⟨b, 2, none⟩ = some (.int .u32 (o.dep 0 : Int)) := (h.cell 2).trans rfl
theorem OpAt.c3 {w : World} {b : Nat} {o : OpM} (h : OpAt w b o) : w.cell? ⟨b, 3, none⟩ = some (.int .u32 (o.dep 1 : Int)) := (h.cell 3).trans rfl
theorem OpAt.c4 {w : World} {b : Nat} {o : OpM} (h : OpAt w b o) : w.cell? ⟨b, 4, none⟩ = some (.int .u32 (o.dep 2 : Int)) := (h.cell 4).trans rfl
theorem OpAt.c5 {w : World} {b : Nat} {o : OpM} (h : OpAt w b o) : w.cell? ⟨b, 5, none⟩ = some (.int .u32 (o.dep 3 : Int)) := (h.cell 5).trans rfl
theorem OpAt.c6 {w : World} {b : Nat} {o : OpM} (h : OpAt w b o) : w.cell? ⟨b, 6, none⟩ = some (.int .u32 (o.dep 4 : Int)) := (h.cell 6).trans rfl
theorem OpAt.c7 {w : World} {b : Nat} {o : OpM} (h : OpAt w b o) : w.cell? ⟨b, 7, none⟩ = some (.int .u32 (o.dep 5 : Int)) := (h.cell 7).trans rfl
theorem OpAt.c8 {w : World} {b : Nat} {o : OpM} (h : OpAt w b o) : w.cell? ⟨b, 8, none⟩ = some (.int .u32 (o.dep 6 : Int)) := (h.cell 8).trans rfl
theorem OpAt.c9 {w : World} {b : Nat} {o : OpM} (h : OpAt w b o) : w.cell? ⟨b, 9, none⟩ = some (.int .u32 (o.dep 7 : Int)) := (h.cell 9).trans rfl
theorem OpAt.c10 {w : World} {b : Nat} {o : OpM} (h : OpAt w b o) : w.cell? ⟨b, 10, none⟩ = some (.int .u64 (o.tm : Int)) := (h.cell 10).trans rfl
theorem OpAt.c11 {w : World} {b : Nat} {o : OpM} (h : OpAt w b o) : w.cell? ⟨b, 11, none⟩ = some (.int .u32 (o.who : Int)) := (h.cell 11).trans rfl
theorem OpAt.c12 {w : World} {b : Nat} {o : OpM} (h : OpAt w b o) : w.cell? ⟨b, 12, none⟩ = some (.int .u8 (o.cr : Int)) := (h.cell 12).trans rfl
theorem OpAt.c13 {w : World} {b : Nat} {o : OpM} (h : OpAt w b o) : w.cell? ⟨b, 13, none⟩ = some (.int .u32 (o.cn : Int)) := (h.cell 13).trans rfl
theorem OpAt.c14 {w : World} {b : Nat} {o : OpM} (h : OpAt w b o) : w.cell? ⟨b, 14, none⟩ = some (.int .u8 (o.kd : Int)) := (h.cell 14).trans rfl
theorem OpAt.c15 {w : World} {b : Nat} {o : OpM} (h : OpAt w b o) : w.cell? ⟨b, 15, none⟩ = some (.int .u8 (o.dr : Int)) := (h.cell 15).trans rfl
theorem OpAt.c16 {w : World} {b : Nat} {o : OpM} (h : OpAt w b o) : w.cell? ⟨b, 16, none⟩ = some (.int .u32 (o.dn : Int)) := (h.cell 16).trans rfl
theorem OpAt.c17 {w : World} {b : Nat} {o : OpM} (h : OpAt w b o) : w.cell? ⟨b, 17, none⟩ = some (.int .u32 (o.to : Int)) := (h.cell 17).trans rfl
theorem OpAt.c18 {w : World} {b : Nat} {o : OpM} (h : OpAt w b o) : w.cell? ⟨b, 18, none⟩ = some (.int .u8 (o.ro : Int)) := (h.cell 18).trans rfl
theorem OpAt.c19 {w : World} {b : Nat} {o : OpM} (h : OpAt w b o) : w.cell? ⟨b, 19, none⟩ = some (.int .u8 (o.de : Int)) := (h.cell 19).trans rfl
theorem OpAt.c20 {w : World} {b : Nat} {o : OpM} (h : OpAt w b o) : w.cell? ⟨b, 20, none⟩ = some (.int .u64 (o.cap : Int)) := (h.cell 20).trans rfl
theorem OpAt.c21 {w : World} {b : Nat} {o : OpM} (h : OpAt w b o) : w.cell? ⟨b, 21, none⟩ = some (.int .u8 (o.ar : Int)) := (h.cell 21).trans rfl
theorem OpAt.c22 {w : World} {b : Nat} {o : OpM} (h : OpAt w b o) : w.cell? ⟨b, 22, none⟩ = some (.int .u32 (o.an : Int)) := (h.cell 22).trans rfl
theorem OpAt.c23 {w : World} {b : Nat} {o : OpM} (h : OpAt w b o) : w.cell? ⟨b, 23, none⟩ = some (.int .u8 (o.vr : Int)) := (h.cell 23).trans rfl
theorem OpAt.c24 {w : World} {b : Nat} {o : OpM} (h : OpAt w b o) : w.cell? ⟨b, 24, none⟩ = some (.int .u32 (o.vn : Int)) := (h.cell 24).trans rfl
theorem OpAt.c25 {w : World} {b : Nat} {o : OpM} (h : OpAt w b o) : w.cell? ⟨b, 25, none⟩ = some (.int .u32 (o.it : Int)) := (h.cell 25).trans rfl
theorem OpAt.c26 {w : World} {b : Nat} {o : OpM} (h : OpAt w b o) : w.cell? ⟨b, 26, none⟩ = some (.int .u32 (o.qt : Int)) := (h.cell 26).trans rfl
theorem OpAt.c27 {w : World} {b : Nat} {o : OpM} (h : OpAt w b o) : w.cell? ⟨b, 27, none⟩ = some (.int .u32 (o.pr : Int)) := (h.cell 27).trans rfl
theorem OpAt.c28 {w : World} {b : Nat} {o : OpM} (h : OpAt w b o) : w.cell? ⟨b, 28, none⟩ = some (o.lv) := (h.cell 28).trans rfl
theorem OpAt.dep {w : World} {b : Nat} {o : OpM} (h : OpAt w b o) {k : Nat} (hk : k < 8) : w.cell? ⟨b, 2 + k, none⟩ = some (.int .u32 (o.dep k : Int)) := by
  match k, hk with
  | 0, _ => exact h.c2
  | 1, _ => exact h.c3
  | 2, _ => exact h.c4
  | 3, _ => exact h.c5
  | 4, _ => exact h.c6
  | 5, _ => exact h.c7
  | 6, _ => exact h.c8
  | 7, _ => exact h.c9
theorem opSize (o : OpM) : (Tryd.prog.info? 30).map (·.size) = some (oc o).size := by rw [oc_size]; kernel_rfl
theorem load_op {ops : Array Oper} {rest : List Oper} {c : Oper} {a : Act} {w : World} {Q : Exit → Act → World → Prop} (hw : Region.wanted c (yielded ops a.tmps) = true) (x : Operand) (ho : c.op = .load 30 x)
    (g : Nat) (hx : a.eval x = .pointer (some ⟨g, 0, none⟩)) (o : OpM) (hg : OpAt w g o)
    (h : wpList Tryd.prog ops Q rest (a.put c.dst (.agg (oc o))) w) : wpList Tryd.prog ops Q (c :: rest) a w :=
  BigFrame.wpList_want hw fun _ hK => wp_load_row 30 x ho g hx _ _ _ _ hg Tryd.underlying30 rfl (opSize _) (hK _ _ h)
theorem opAt_new (w : World) (o : OpM) : OpAt (w.alloc (.cells (oc o) 30)) w.heap.size o := heap_alloc_last' _ _
theorem below_al2 (w : World) (a b : Obj) : Below w.heap.size w ((w.alloc a).alloc b) := ((Below.refl _ _).alloc (Nat.le_refl _) a).alloc (by simp) b

def covB (v : Vec) (d : Dot) : Bool := mayD d && decide (d.2 ≤ v d.1)

theorem op_Covers (o : OpM) (d : Dot) (w : World) :
    Calls Tryd.prog 9 #[.agg (oc o), .agg #[.int .u8 (d.1 : Int), .int .u32 (d.2 : Int)]] w
      fun e w' => e = .returned (.bool (covB o.dep d)) ∧ Below w.heap.size w w' := by
  obtain ⟨r, n⟩ := d
  dsimp only
  unfold covB mayD
  go_enter Tryd.func9, Tryd.ntmps9
  go_wp2
  refine wp_region_later_n (by kernel_rfl) (by kernel_rfl) ?_
  intro wd hwd
  have HW := hid (show Below w.heap.size w wd by rw [hwd]; exact below_al2 _ _ _)
  have hO : OpAt wd w.heap.size o := by rw [hwd]; exact (opAt_new w o).al _
  have hc0 : ∀ p : Later wd.heap.size wd, p.val.cell? ⟨w.heap.size + 1, 0, none⟩ = some (.int .u8 (r : Int)) := fun p => cell_keep p.ok (by rw [hwd]; simp)
  have hc1 : ∀ p : Later wd.heap.size wd, p.val.cell? ⟨w.heap.size + 1, 1, none⟩ = some (.int .u32 (n : Int)) := fun p => cell_keep p.ok (by rw [hwd]; simp)
  have HO := hid hO
  clear hwd hO
  by_cases h1 : r < 8
  · have h1' : decide ((r : Int) < 8) = true := decide_eq_true (by omega)
    by_cases h2 : n = 0
    · have h2' : ((n : Int) != 0) = false := by simpa using h2
      have HE := hid h2
      clear h2
      repeat (go_big_quiet_step (fail))
      refine wpQuiet_nil ?_
      rintro _ ⟨p, rfl⟩
      have HP := hid p.ok
      generalize p.val = w2 at HP
      clear hc0 hc1
      go_wp2
      go_ret
      exact ⟨by simp [HE.out], HW.out.trans (HP.out.mono HW.out.size)⟩
    · have h2' : ((n : Int) != 0) = true := by simpa using h2
      have hk := fun p : Later wd.heap.size wd => (HO.out.keep p.ok).dep h1
      have HE := hid h2
      clear h2
      repeat (go_big_quiet_step (fail))
      refine wpQuiet_nil ?_
      rintro _ ⟨p, rfl⟩
      have HP := hid p.ok
      generalize p.val = w2 at HP
      clear hc0 hc1 hk
      go_wp2
      go_ret
      exact ⟨by simp [HE.out, h1], HW.out.trans (HP.out.mono HW.out.size)⟩
  · have h1' : decide ((r : Int) < 8) = false := decide_eq_false (by omega)
    repeat (go_big_quiet_step (fail))
    refine wpQuiet_nil ?_
    rintro _ ⟨p, rfl⟩
    have HP := hid p.ok
    generalize p.val = w2 at HP
    clear hc0 hc1
    go_wp2
    go_ret
    exact ⟨by simp [h1], HW.out.trans (HP.out.mono HW.out.size)⟩

end Go.Proofs.YtdhdfngaldfdjaaDoor.V
