/-
  Operations as rows of cells; what one covers; the document's.
-/
import Derived.Test.YtfnmekmgjcjglaaDoorYMV
import Derived.BigQuiet
import Derived.BigFrame
import Derived.StillTailTactics
namespace Go.Proofs.YtfnmekmgjcjglaaDoor.V
set_option linter.unusedVariables false
set_option linter.unusedSimpArgs false
open Go Go.RowKit Go.Maps Go.Sort
set_option maxRecDepth 100000
set_option linter.unusedVariables false
set_option linter.unusedSimpArgs false
set_option maxRecDepth 100000
set_option linter.unusedVariables false
set_option linter.unusedSimpArgs false
/-- An operation: its numbers, and the value of its lines. -/
structure OpM where
  (r n : Nat) (dep : Vec) (tm who cr cn kd dr dn to ro de cap ar an vr vn it qt pr : Nat) (lv : Value)
structure okO (o : OpM) : Prop where
  dep : okV o.dep
  r : o.r < 256
  n : o.n < 4294967296
  tm : o.tm < 18446744073709551616
  who : o.who < 4294967296
  cr : o.cr < 256
  cn : o.cn < 4294967296
  kd : o.kd < 256
  dr : o.dr < 256
  dn : o.dn < 4294967296
  to : o.to < 4294967296
  ro : o.ro < 256
  de : o.de < 256
  cap : o.cap < 18446744073709551616
  ar : o.ar < 256
  an : o.an < 4294967296
  vr : o.vr < 256
  vn : o.vn < 4294967296
  it : o.it < 4294967296
  qt : o.qt < 4294967296
  pr : o.pr < 4294967296
def oc (o : OpM) : Array Value := #[.int .u8 (o.r : Int), .int .u32 (o.n : Int), .int .u32 (o.dep 0 : Int), .int .u32 (o.dep 1 : Int), .int .u32 (o.dep 2 : Int), .int .u32 (o.dep 3 : Int), .int .u32 (o.dep 4 : Int), .int .u32 (o.dep 5 : Int), .int .u32 (o.dep 6 : Int), .int .u32 (o.dep 7 : Int), .int .u64 (o.tm : Int), .int .u32 (o.who : Int), .int .u8 (o.cr : Int), .int .u32 (o.cn : Int), .int .u8 (o.kd : Int), .int .u8 (o.dr : Int), .int .u32 (o.dn : Int), .int .u32 (o.to : Int), .int .u8 (o.ro : Int), .int .u8 (o.de : Int), .int .u64 (o.cap : Int), .int .u8 (o.ar : Int), .int .u32 (o.an : Int), .int .u8 (o.vr : Int), .int .u32 (o.vn : Int), .int .u32 (o.it : Int), .int .u32 (o.qt : Int), .int .u32 (o.pr : Int), o.lv]
theorem oc_size (o : OpM) : (oc o).size = 29 := rfl
/-- An operation's block. -/
def OpAt (w : World) (b : Nat) (o : OpM) : Prop := w.heap[b]? = some (.cells (oc o) 50 (0, 0))
theorem OpAt.lt {w : World} {b : Nat} {o : OpM} (h : OpAt w b o) : b < w.heap.size := lt_of_heap h
theorem OpAt.keep {w w' : World} {b : Nat} {o : OpM} (h : OpAt w b o) (hb : Below w.heap.size w w') : OpAt w' b o := heap_keep h hb
theorem OpAt.al {w : World} {b : Nat} {o : OpM} (h : OpAt w b o) (x : Obj) : OpAt (w.alloc x) b o := heap_al h x
theorem OpAt.dr {w : World} {b : Nat} {o : OpM} (h : OpAt w b o) : OpAt w.drew b o := h
theorem OpAt.cell {w : World} {b : Nat} {o : OpM} (h : OpAt w b o) (k : Nat) : w.cell? ⟨b, k, none⟩ = (oc o)[k]? := by
  unfold OpAt at h
  simp [World.cell?, h]
theorem OpAt.c0 {w : World} {b : Nat} {o : OpM} (h : OpAt w b o) : w.cell? ⟨b, 0, none⟩ = some (.int .u8 (o.r : Int)) := (h.cell 0).trans rfl
theorem OpAt.c1 {w : World} {b : Nat} {o : OpM} (h : OpAt w b o) : w.cell? ⟨b, 1, none⟩ = some (.int .u32 (o.n : Int)) := (h.cell 1).trans rfl
theorem OpAt.c2 {w : World} {b : Nat} {o : OpM} (h : OpAt w b o) : w.cell? ⟨b, 2, none⟩ = some (.int .u32 (o.dep 0 : Int)) := (h.cell 2).trans rfl
theorem OpAt.c3 {w : World} {b : Nat} {o : OpM} (h : OpAt w b o) : w.cell? ⟨b, 3, none⟩ = some (.int .u32 (o.dep 1 : Int)) := (h.cell 3).trans rfl
theorem OpAt.c4 {w : World} {b : Nat} {o : OpM} (h : OpAt w b o) : w.cell? ⟨b, 4, none⟩ = some (.int .u32 (o.dep 2 : Int)) := (h.cell 4).trans rfl
theorem OpAt.c5 {w : World} {b : Nat} {o : OpM} (h : OpAt w b o) : w.cell? ⟨b, 5, none⟩ = some (.int .u32 (o.dep 3 : Int)) := (h.cell 5).trans rfl
theorem OpAt.c6 {w : World} {b : Nat} {o : OpM} (h : OpAt w b o) : w.cell? ⟨b, 6, none⟩ = some (.int .u32 (o.dep 4 : Int)) := (h.cell 6).trans rfl
theorem OpAt.c7 {w : World} {b : Nat} {o : OpM} (h : OpAt w b o) : w.cell? ⟨b, 7, none⟩ = some (.int .u32 (o.dep 5 : Int)) := (h.cell 7).trans rfl
theorem OpAt.c8 {w : World} {b : Nat} {o : OpM} (h : OpAt w b o) : w.cell? ⟨b, 8, none⟩ = some (.int .u32 (o.dep 6 : Int)) := (h.cell 8).trans rfl
theorem OpAt.c9 {w : World} {b : Nat} {o : OpM} (h : OpAt w b o) : w.cell? ⟨b, 9, none⟩ = some (.int .u32 (o.dep 7 : Int)) := (h.cell 9).trans rfl
theorem OpAt.c10 {w : World} {b : Nat} {o : OpM} (h : OpAt w b o) : w.cell? ⟨b, 10, none⟩ = some (.int .u64 (o.tm : Int)) := (h.cell 10).trans rfl
theorem OpAt.c11 {w : World} {b : Nat} {o : OpM} (h : OpAt w b o) : w.cell? ⟨b, 11, none⟩ = some (.int .u32 (o.who : Int)) := (h.cell 11).trans rfl
theorem OpAt.c12 {w : World} {b : Nat} {o : OpM} (h : OpAt w b o) : w.cell? ⟨b, 12, none⟩ = some (.int .u8 (o.cr : Int)) := (h.cell 12).trans rfl
theorem OpAt.c13 {w : World} {b : Nat} {o : OpM} (h : OpAt w b o) : w.cell? ⟨b, 13, none⟩ = some (.int .u32 (o.cn : Int)) := (h.cell 13).trans rfl
theorem OpAt.c14 {w : World} {b : Nat} {o : OpM} (h : OpAt w b o) : w.cell? ⟨b, 14, none⟩ = some (.int .u8 (o.kd : Int)) := (h.cell 14).trans rfl
theorem OpAt.c15 {w : World} {b : Nat} {o : OpM} (h : OpAt w b o) : w.cell? ⟨b, 15, none⟩ = some (.int .u8 (o.dr : Int)) := (h.cell 15).trans rfl
theorem OpAt.c16 {w : World} {b : Nat} {o : OpM} (h : OpAt w b o) : w.cell? ⟨b, 16, none⟩ = some (.int .u32 (o.dn : Int)) := (h.cell 16).trans rfl
theorem OpAt.c17 {w : World} {b : Nat} {o : OpM} (h : OpAt w b o) : w.cell? ⟨b, 17, none⟩ = some (.int .u32 (o.to : Int)) := (h.cell 17).trans rfl
theorem OpAt.c18 {w : World} {b : Nat} {o : OpM} (h : OpAt w b o) : w.cell? ⟨b, 18, none⟩ = some (.int .u8 (o.ro : Int)) := (h.cell 18).trans rfl
theorem OpAt.c19 {w : World} {b : Nat} {o : OpM} (h : OpAt w b o) : w.cell? ⟨b, 19, none⟩ = some (.int .u8 (o.de : Int)) := (h.cell 19).trans rfl
theorem OpAt.c20 {w : World} {b : Nat} {o : OpM} (h : OpAt w b o) : w.cell? ⟨b, 20, none⟩ = some (.int .u64 (o.cap : Int)) := (h.cell 20).trans rfl
theorem OpAt.c21 {w : World} {b : Nat} {o : OpM} (h : OpAt w b o) : w.cell? ⟨b, 21, none⟩ = some (.int .u8 (o.ar : Int)) := (h.cell 21).trans rfl
theorem OpAt.c22 {w : World} {b : Nat} {o : OpM} (h : OpAt w b o) : w.cell? ⟨b, 22, none⟩ = some (.int .u32 (o.an : Int)) := (h.cell 22).trans rfl
theorem OpAt.c23 {w : World} {b : Nat} {o : OpM} (h : OpAt w b o) : w.cell? ⟨b, 23, none⟩ = some (.int .u8 (o.vr : Int)) := (h.cell 23).trans rfl
theorem OpAt.c24 {w : World} {b : Nat} {o : OpM} (h : OpAt w b o) : w.cell? ⟨b, 24, none⟩ = some (.int .u32 (o.vn : Int)) := (h.cell 24).trans rfl
theorem OpAt.c25 {w : World} {b : Nat} {o : OpM} (h : OpAt w b o) : w.cell? ⟨b, 25, none⟩ = some (.int .u32 (o.it : Int)) := (h.cell 25).trans rfl
theorem OpAt.c26 {w : World} {b : Nat} {o : OpM} (h : OpAt w b o) : w.cell? ⟨b, 26, none⟩ = some (.int .u32 (o.qt : Int)) := (h.cell 26).trans rfl
theorem OpAt.c27 {w : World} {b : Nat} {o : OpM} (h : OpAt w b o) : w.cell? ⟨b, 27, none⟩ = some (.int .u32 (o.pr : Int)) := (h.cell 27).trans rfl
theorem OpAt.c28 {w : World} {b : Nat} {o : OpM} (h : OpAt w b o) : w.cell? ⟨b, 28, none⟩ = some (o.lv) := (h.cell 28).trans rfl
theorem OpAt.dep {w : World} {b : Nat} {o : OpM} (h : OpAt w b o) {k : Nat} (hk : k < 8) : w.cell? ⟨b, 2 + k, none⟩ = some (.int .u32 (o.dep k : Int)) := by
  match k, hk with
  | 0, _ => exact h.c2
  | 1, _ => exact h.c3
  | 2, _ => exact h.c4
  | 3, _ => exact h.c5
  | 4, _ => exact h.c6
  | 5, _ => exact h.c7
  | 6, _ => exact h.c8
  | 7, _ => exact h.c9
theorem opSize (o : OpM) : (Tryd.prog.info? 50).map (·.size) = some (oc o).size := by rw [oc_size]; kernel_rfl
theorem load_op {ops : Array Oper} {rest : List Oper} {c : Oper} {a : Act} {w : World} {Q : Exit → Act → World → Prop} (hw : Region.wanted c (yielded ops a.tmps) = true) (x : Operand) (ho : c.op = .load 50 x)
    (g : Nat) (hx : a.eval x = .pointer (some ⟨g, 0, none⟩)) (o : OpM) (hg : OpAt w g o)
    (h : wpList Tryd.prog ops Q rest (a.put c.dst (.agg (oc o))) w) : wpList Tryd.prog ops Q (c :: rest) a w :=
  BigFrame.wpList_want hw fun _ hK => wp_load_row 50 x ho g hx _ _ _ _ hg Tryd.underlying50 rfl (opSize _) (hK _ _ h)
theorem opAt_new (w : World) (o : OpM) : OpAt (w.alloc (.cells (oc o) 50)) w.heap.size o := heap_alloc_last' _ _
theorem below_al2 (w : World) (a b : Obj) : Below w.heap.size w ((w.alloc a).alloc b) := ((Below.refl _ _).alloc (Nat.le_refl _) a).alloc (by simp) b
def covB (v : Vec) (d : Dot) : Bool := mayD d && decide (d.2 ≤ v d.1)
theorem op_Covers (o : OpM) (d : Dot) (w : World) :
    Calls Tryd.prog 65 #[.agg (oc o), .agg #[.int .u8 (d.1 : Int), .int .u32 (d.2 : Int)]] w
      fun e w' => e = .returned (.bool (covB o.dep d)) ∧ Below w.heap.size w w' := by
  obtain ⟨r, n⟩ := d
  dsimp only
  unfold covB mayD
  go_enter Tryd.func65, Tryd.ntmps65
  go_wp2
  refine wp_region_later_n (by kernel_rfl) (by kernel_rfl) ?_
  intro wd hwd
  have HW := hid (show Below w.heap.size w wd by rw [hwd]; exact below_al2 _ _ _)
  have hO : OpAt wd w.heap.size o := by rw [hwd]; exact (opAt_new w o).al _
  have hc0 : ∀ p : Later wd.heap.size wd, p.val.cell? ⟨w.heap.size + 1, 0, none⟩ = some (.int .u8 (r : Int)) := fun p => cell_keep p.ok (by rw [hwd]; simp)
  have hc1 : ∀ p : Later wd.heap.size wd, p.val.cell? ⟨w.heap.size + 1, 1, none⟩ = some (.int .u32 (n : Int)) := fun p => cell_keep p.ok (by rw [hwd]; simp)
  have HO := hid hO
  clear hwd hO
  by_cases h1 : r < 8
  · have h1' : decide ((r : Int) < 8) = true := decide_eq_true (by omega)
    by_cases h2 : n = 0
    · have h2' : ((n : Int) != 0) = false := by simpa using h2
      have HE := hid h2
      clear h2
      repeat (go_big_quiet_step (fail))
      refine wpQuiet_nil ?_
      rintro _ ⟨p, rfl⟩
      have HP := hid p.ok
      generalize p.val = w2 at HP
      clear hc0 hc1
      go_wp2
      go_ret
      exact ⟨by simp [HE.out], HW.out.trans (HP.out.mono HW.out.size)⟩
    · have h2' : ((n : Int) != 0) = true := by simpa using h2
      have hk := fun p : Later wd.heap.size wd => (HO.out.keep p.ok).dep h1
      have HE := hid h2
      clear h2
      repeat (go_big_quiet_step (fail))
      refine wpQuiet_nil ?_
      rintro _ ⟨p, rfl⟩
      have HP := hid p.ok
      generalize p.val = w2 at HP
      clear hc0 hc1 hk
      go_wp2
      go_ret
      exact ⟨by simp [HE.out, h1], HW.out.trans (HP.out.mono HW.out.size)⟩
  · have h1' : decide ((r : Int) < 8) = false := decide_eq_false (by omega)
    repeat (go_big_quiet_step (fail))
    refine wpQuiet_nil ?_
    rintro _ ⟨p, rfl⟩
    have HP := hid p.ok
    generalize p.val = w2 at HP
    clear hc0 hc1
    go_wp2
    go_ret
    exact ⟨by simp [h1], HW.out.trans (HP.out.mono HW.out.size)⟩
end Go.Proofs.YtfnmekmgjcjglaaDoor.V
namespace Go.Proofs.YtfnmekmgjcjglaaDoor.V
set_option linter.unusedVariables false
set_option linter.unusedSimpArgs false
set_option maxRecDepth 100000
open Go Go.RowKit Go.Maps Go.Sort
set_option maxRecDepth 100000
set_option linter.unusedVariables false
set_option linter.unusedSimpArgs false
set_option maxRecDepth 100000
set_option linter.unusedVariables false
set_option linter.unusedSimpArgs false
def nearM (h n l m : Nat) : Nat := if h = 0 then 0 else min (max n l) m
theorem near_u8 (h n l m : Nat) (w : World) :
    Calls Tryd.prog 67 #[.int .u16 (h : Int), .int .u8 (n : Int), .int .u8 (l : Int), .int .u8 (m : Int)] w fun e w' => e = .returned (.int .u8 (nearM h n l m : Int)) ∧ w = w' := by
  unfold nearM
  go_enter Tryd.func67, Tryd.ntmps67
  go_wp2
  all_goals go_ret
  all_goals (refine ⟨ret_int ?_, rfl⟩)
  all_goals (first | (split <;> omega) | (simp_all; done) | omega)
theorem near_u32 (h n l m : Nat) (w : World) :
    Calls Tryd.prog 66 #[.int .u16 (h : Int), .int .u32 (n : Int), .int .u32 (l : Int), .int .u32 (m : Int)] w fun e w' => e = .returned (.int .u32 (nearM h n l m : Int)) ∧ w = w' := by
  unfold nearM
  go_enter Tryd.func66, Tryd.ntmps66
  go_wp2
  all_goals go_ret
  all_goals (refine ⟨ret_int ?_, rfl⟩)
  all_goals (first | (split <;> omega) | (simp_all; done) | omega)
theorem near_u64 (h n l m : Nat) (w : World) :
    Calls Tryd.prog 68 #[.int .u16 (h : Int), .int .u64 (n : Int), .int .u64 (l : Int), .int .u64 (m : Int)] w fun e w' => e = .returned (.int .u64 (nearM h n l m : Int)) ∧ w = w' := by
  unfold nearM
  go_enter Tryd.func68, Tryd.ntmps68
  go_wp2
  all_goals go_ret
  all_goals (refine ⟨ret_int ?_, rfl⟩)
  all_goals (first | (split <;> omega) | (simp_all; done) | omega)
theorem wp_region_still_tail_w {P : Program} {id : Nat} {Q : Exit → Act → World → Prop} {a : Act} {w : World} {l : List Oper} (n : Nat) (hm : P.follows .mixedOrders = true) (hB : Region.lexTailB .any l.toArray n = true)
    (h : ∀ wd, wd = w.drew → wpStill P l.toArray wd (fun a' => wpList P l.toArray Q (l.drop n) a' wd) (l.take n) a) : (Code.region id l.toArray true).wp P Q a w :=
  wp_region_still_tail n hm hB (h w.drew rfl)
theorem last2 (w : World) (a b : Obj) : ((w.alloc a).alloc b).heap[w.heap.size + 1]? = some b := by
  have h := heap_alloc_last' (w.alloc a) b
  rw [World.size_alloc] at h
  exact h
theorem and_u16 (a b : Nat) (ha : a < 65536) (hb : b < 65536) : bits .and .u16 (a : Int) (b : Int) = ((a &&& b : Nat) : Int) := by
  have hx : a &&& b < 2 ^ 16 := Nat.and_lt_two_pow _ (by omega)
  show IntKind.u16.wrap ((BitVec.ofInt 16 (a : Int) &&& BitVec.ofInt 16 (b : Int)).toNat : Int) = _
  rw [BitVec.toNat_and, ofNat_toNat 16 a (by omega), ofNat_toNat 16 b (by omega), wrap_u16]; omega
set_option maxHeartbeats 1000000 in
theorem op_simpleOf (o : OpM) (w : World) :
    Calls Tryd.prog 44 #[.agg (oc o)] w
      fun e w' => e = .returned (.agg #[.int .u32 (o.to : Int), .int .u8 (o.ro : Int), .int .u8 (o.de : Int), .int .u64 (o.cap : Int), .int .u32 (o.it : Int), .int .u32 (o.qt : Int), .int .u32 (o.pr : Int)]) ∧ Below w.heap.size w w' := by
  have f17 : (oc o)[17]? = some (.int .u32 (o.to : Int)) := rfl
  have f18 : (oc o)[18]? = some (.int .u8 (o.ro : Int)) := rfl
  have f19 : (oc o)[19]? = some (.int .u8 (o.de : Int)) := rfl
  have f20 : (oc o)[20]? = some (.int .u64 (o.cap : Int)) := rfl
  have f25 : (oc o)[25]? = some (.int .u32 (o.it : Int)) := rfl
  have f26 : (oc o)[26]? = some (.int .u32 (o.qt : Int)) := rfl
  have f27 : (oc o)[27]? = some (.int .u32 (o.pr : Int)) := rfl
  go_enter Tryd.func44, Tryd.ntmps44
  go_wp2
  exact bodyPost_ret (results_cell_row rfl _ _ _ _ _ _ _ rfl (last2 _ _ _) Tryd.underlying88 rfl (by kernel_rfl)) rfl ⟨rfl, below_al2 _ _ _⟩
set_option maxHeartbeats 4000000 in
theorem op_validSimple (o : OpM) (h : Nat) (hh : h < 65536) (w : World) :
    Calls Tryd.prog 45 #[.agg (oc o), .int .u16 (h : Int)] w
      fun e w' => e = .returned (.agg #[.int .u32 (nearM (h &&& 2) o.to 1 4294967295 : Int), .int .u8 (nearM (h &&& 4) o.ro 1 7 : Int), .int .u8 (nearM (h &&& 8) o.de 0 7 : Int), .int .u64 (nearM (h &&& 16) o.cap 0 1099511627776 : Int), .int .u32 (nearM (h &&& 128) o.it 0 4294967295 : Int), .int .u32 (nearM (h &&& 256) o.qt 1 65535 : Int), .int .u32 (nearM (h &&& 512) o.pr 0 16777215 : Int)]) ∧ Below w.heap.size w w' := by
  have b1 : bits .and .u16 (h : Int) 2 = ((h &&& 2 : Nat) : Int) := and_u16 h 2 hh (by omega)
  have b2 : bits .and .u16 (h : Int) 4 = ((h &&& 4 : Nat) : Int) := and_u16 h 4 hh (by omega)
  have b3 : bits .and .u16 (h : Int) 8 = ((h &&& 8 : Nat) : Int) := and_u16 h 8 hh (by omega)
  have b4 : bits .and .u16 (h : Int) 16 = ((h &&& 16 : Nat) : Int) := and_u16 h 16 hh (by omega)
  have b5 : bits .and .u16 (h : Int) 128 = ((h &&& 128 : Nat) : Int) := and_u16 h 128 hh (by omega)
  have b6 : bits .and .u16 (h : Int) 256 = ((h &&& 256 : Nat) : Int) := and_u16 h 256 hh (by omega)
  have b7 : bits .and .u16 (h : Int) 512 = ((h &&& 512 : Nat) : Int) := and_u16 h 512 hh (by omega)
  go_enter Tryd.func45, Tryd.ntmps45
  go_wp2
  refine wp_region_still_tail_w 35 (by kernel_rfl) (by kernel_rfl) ?_
  intro wd hwd
  have hO : OpAt wd w.heap.size o := by rw [hwd]; exact ((opAt_new w o).al _).dr
  have e17 := hO.c17
  have e18 := hO.c18
  have e19 := hO.c19
  have e20 := hO.c20
  have e25 := hO.c25
  have e26 := hO.c26
  have e27 := hO.c27
  have HW := hid hwd
  clear hwd hO
  simp only [List.take_succ_cons, List.take_zero, List.drop_succ_cons, List.drop_zero]
  repeat still_step
  still_call ((near_u32 _ _ 1 4294967295 _).mono fun _ _ ⟨he, hw⟩ => ⟨he, hw.symm⟩)
  repeat still_step
  still_call ((near_u8 _ _ 1 7 _).mono fun _ _ ⟨he, hw⟩ => ⟨he, hw.symm⟩)
  repeat still_step
  still_call ((near_u8 _ _ 0 7 _).mono fun _ _ ⟨he, hw⟩ => ⟨he, hw.symm⟩)
  repeat still_step
  still_call ((near_u64 _ _ 0 1099511627776 _).mono fun _ _ ⟨he, hw⟩ => ⟨he, hw.symm⟩)
  repeat still_step
  still_call ((near_u32 _ _ 0 4294967295 _).mono fun _ _ ⟨he, hw⟩ => ⟨he, hw.symm⟩)
  repeat still_step
  still_call ((near_u32 _ _ 1 65535 _).mono fun _ _ ⟨he, hw⟩ => ⟨he, hw.symm⟩)
  repeat still_step
  still_call ((near_u32 _ _ 0 16777215 _).mono fun _ _ ⟨he, hw⟩ => ⟨he, hw.symm⟩)
  repeat still_step
  refine wpStill_nil ?_
  have hx := HW.out
  clear HW e17 e18 e19 e20 e25 e26 e27
  subst hx
  go_wp2
  have hl := last2 w (.cells (oc o) 50) (.cells #[.int .u32 (nearM (h &&& 2) o.to 1 4294967295 : Int), .int .u8 (nearM (h &&& 4) o.ro 1 7 : Int), .int .u8 (nearM (h &&& 8) o.de 0 7 : Int), .int .u64 (nearM (h &&& 16) o.cap 0 1099511627776 : Int), .int .u32 (nearM (h &&& 128) o.it 0 4294967295 : Int), .int .u32 (nearM (h &&& 256) o.qt 1 65535 : Int), .int .u32 (nearM (h &&& 512) o.pr 0 16777215 : Int)] 88)
  rw [← heap_drew ((w.alloc (.cells (oc o) 50)).alloc (.cells #[.int .u32 (nearM (h &&& 2) o.to 1 4294967295 : Int), .int .u8 (nearM (h &&& 4) o.ro 1 7 : Int), .int .u8 (nearM (h &&& 8) o.de 0 7 : Int), .int .u64 (nearM (h &&& 16) o.cap 0 1099511627776 : Int), .int .u32 (nearM (h &&& 128) o.it 0 4294967295 : Int), .int .u32 (nearM (h &&& 256) o.qt 1 65535 : Int), .int .u32 (nearM (h &&& 512) o.pr 0 16777215 : Int)] 88))] at hl
  exact bodyPost_ret (results_cell_row rfl _ _ _ _ _ _ _ rfl hl Tryd.underlying88 rfl (by kernel_rfl)) rfl ⟨rfl, (below_al2 _ _ _).drew⟩
theorem eq_simple (a0 a1 a2 a3 a4 a5 a6 b0 b1 b2 b3 b4 b5 b6 : Int) (w : World) : (Op.equalIn 10000 88 (.agg #[.int .u32 a0, .int .u8 a1, .int .u8 a2, .int .u64 a3, .int .u32 a4, .int .u32 a5, .int .u32 a6]) (.agg #[.int .u32 b0, .int .u8 b1, .int .u8 b2, .int .u64 b3, .int .u32 b4, .int .u32 b5, .int .u32 b6])).run Tryd.prog w = .ok (a0 == b0 && a1 == b1 && a2 == b2 && a3 == b3 && a4 == b4 && a5 == b5 && a6 == b6) w := by
  have hf : Tryd.prog.underlying 88 = some (.struct (Tryd.prog.fieldsOf 88)) := by simp [Program.fieldsOf, Tryd.underlying88]
  have hp : Tryd.prog.stoodInHeld 88 = false := by kernel_rfl
  have u1 := Tryd.underlying5
  have u2 := Tryd.underlying28
  have u3 := Tryd.underlying47
  rw [show (10000 : Nat) = 9999 + 1 from rfl, run_equalIn_struct w 9999 88 _ _ hf hp]
  simp only [Program.fieldsOf, Tryd.underlying88, Op.eqFields]
  go_simp
  by_cases h0 : a0 = b0
  · by_cases h1 : a1 = b1
    · by_cases h2 : a2 = b2
      · by_cases h3 : a3 = b3
        · by_cases h4 : a4 = b4
          · by_cases h5 : a5 = b5
            · by_cases h6 : a6 = b6 <;> simp [h0, h1, h2, h3, h4, h5, h6]
            · simp [h0, h1, h2, h3, h4, h5]
          · simp [h0, h1, h2, h3, h4]
        · simp [h0, h1, h2, h3]
      · simp [h0, h1, h2]
    · simp [h0, h1]
  · simp [h0]
end Go.Proofs.YtfnmekmgjcjglaaDoor.V
namespace Go.Proofs.YtfnmekmgjcjglaaDoor.V
set_option linter.unusedVariables false
set_option linter.unusedSimpArgs false
set_option maxRecDepth 100000
open Go Go.RowKit Go.Maps Go.Sort
set_option maxRecDepth 100000
set_option linter.unusedVariables false
set_option linter.unusedSimpArgs false
set_option maxRecDepth 100000
set_option linter.unusedVariables false
set_option linter.unusedSimpArgs false
def fitD (o : OpM) (d : Dot) (h : Nat) : Bool := if h = 0 then eqB d (0, 0) else covB o.dep d
theorem below_next {A B C : World} (h : Below A.heap.size A B) (k : Below B.heap.size B C) : Below A.heap.size A C := h.trans (k.mono h.size)
set_option maxHeartbeats 400000 in
theorem op_dotFits (o : OpM) (d : Dot) (h : Nat) (w : World) :
    Calls Tryd.prog 69 #[.agg (oc o), .agg #[.int .u8 (d.1 : Int), .int .u32 (d.2 : Int)], .int .u16 (h : Int)] w
      fun e w' => e = .returned (.bool (fitD o d h)) ∧ Below w.heap.size w w' := by
  have hcov := fun W => op_Covers o d W
  obtain ⟨r, n⟩ := d
  dsimp only at hcov ⊢
  unfold fitD
  by_cases h0 : h = 0
  · rw [if_pos h0]
    subst h0
    have hq : ∀ W, (binOp .eql 46 (.agg #[.int .u8 (r : Int), .int .u32 (n : Int)]) (.agg #[.int .u8 0, .int .u32 0])).run Tryd.prog W = .ok (.bool (eqB (r, n) (0, 0))) W := fun W => run_eql r n 0 0 W
    generalize eqB (r, n) (0, 0) = bb at hq ⊢
    go_enter Tryd.func69, Tryd.ntmps69
    go_wp2
    go_ret
    exact ⟨rfl, below_al2 _ _ _⟩
  · have h1 : ((h : Int) == 0) = false := by simp [h0]
    rw [if_neg h0]
    clear h0
    generalize covB o.dep (r, n) = bb at hcov ⊢
    go_enter Tryd.func69, Tryd.ntmps69
    go_wp2_with (first
      | (refine load_op rfl _ rfl w.heap.size rfl _ ((opAt_new w o).al _) ?_)
      | (go_at_call 65; (with_reducible refine (hcov _).mono ?_); rintro e w' ⟨rfl, hB⟩))
    go_ret
    exact ⟨rfl, below_next (below_al2 _ _ _) hB⟩
def dotsM (o : OpM) (h : Nat) : Bool := fitD o (o.dr, o.dn) (h &&& 1) && (fitD o (o.ar, o.an) (h &&& 32) && fitD o (o.vr, o.vn) (h &&& 64))
set_option maxHeartbeats 400000 in
theorem op_dotsFit (o : OpM) (h : Nat) (hh : h < 65536) (w : World) :
    Calls Tryd.prog 46 #[.agg (oc o), .int .u16 (h : Int)] w
      fun e w' => e = .returned (.bool (dotsM o h)) ∧ Below w.heap.size w w' := by
  have b1 : bits .and .u16 (h : Int) 1 = ((h &&& 1 : Nat) : Int) := and_u16 h 1 hh (by omega)
  have b2 : bits .and .u16 (h : Int) 32 = ((h &&& 32 : Nat) : Int) := and_u16 h 32 hh (by omega)
  have b3 : bits .and .u16 (h : Int) 64 = ((h &&& 64 : Nat) : Int) := and_u16 h 64 hh (by omega)
  have k1 := fun W => op_dotFits o (o.dr, o.dn) (h &&& 1) W
  have k2 := fun W => op_dotFits o (o.ar, o.an) (h &&& 32) W
  have k3 := fun W => op_dotFits o (o.vr, o.vn) (h &&& 64) W
  dsimp only at k1 k2 k3
  unfold dotsM
  generalize fitD o (o.dr, o.dn) (h &&& 1) = f1 at k1 ⊢
  generalize fitD o (o.ar, o.an) (h &&& 32) = f2 at k2 ⊢
  generalize fitD o (o.vr, o.vn) (h &&& 64) = f3 at k3 ⊢
  generalize h &&& 1 = x1 at b1 k1
  generalize h &&& 32 = x2 at b2 k2
  generalize h &&& 64 = x3 at b3 k3
  have g15 : (oc o)[15]? = some (.int .u8 (o.dr : Int)) := rfl
  have g16 : (oc o)[16]? = some (.int .u32 (o.dn : Int)) := rfl
  have g21 : (oc o)[21]? = some (.int .u8 (o.ar : Int)) := rfl
  have g22 : (oc o)[22]? = some (.int .u32 (o.an : Int)) := rfl
  have g23 : (oc o)[23]? = some (.int .u8 (o.vr : Int)) := rfl
  have g24 : (oc o)[24]? = some (.int .u32 (o.vn : Int)) := rfl
  go_enter Tryd.func46, Tryd.ntmps46
  cases f1
  · go_wp2_with (first
      | (refine load_op rfl _ rfl w.heap.size rfl _ (opAt_new w o) ?_)
      | (go_at_call 69; (with_reducible refine (k1 _).mono ?_); rintro e w1 ⟨rfl, hB1⟩))
    go_ret
    exact ⟨rfl, below_next ((Below.refl _ _).alloc (Nat.le_refl _) _) hB1⟩
  · cases f2
    · go_wp2_with (first
        | (refine load_op rfl _ rfl w.heap.size rfl _ (opAt_new w o) ?_)
        | (refine load_op rfl _ rfl w.heap.size rfl _ (HO1.out) ?_)
        | (go_at_call 69; (with_reducible refine (k1 _).mono ?_); rintro e w1 ⟨rfl, hB1⟩; have HO1 := hid ((opAt_new w o).keep hB1); have c21 := HO1.out.c21; have c22 := HO1.out.c22)
        | (go_at_call 69; (with_reducible refine (k2 _).mono ?_); rintro e w2 ⟨rfl, hB2⟩))
      go_ret
      exact ⟨rfl, below_next (below_next ((Below.refl _ _).alloc (Nat.le_refl _) _) hB1) hB2⟩
    · go_wp2_with (first
        | (refine load_op rfl _ rfl w.heap.size rfl _ (opAt_new w o) ?_)
        | (refine load_op rfl _ rfl w.heap.size rfl _ (HO2.out) ?_)
        | (refine load_op rfl _ rfl w.heap.size rfl _ (HO1.out) ?_)
        | (go_at_call 69; (with_reducible refine (k1 _).mono ?_); rintro e w1 ⟨rfl, hB1⟩; have HO1 := hid ((opAt_new w o).keep hB1); have c21 := HO1.out.c21; have c22 := HO1.out.c22)
        | (go_at_call 69; (with_reducible refine (k2 _).mono ?_); rintro e w2 ⟨rfl, hB2⟩; have HO2 := hid (HO1.out.keep hB2); have d23 := HO2.out.c23; have d24 := HO2.out.c24)
        | (go_at_call 69; (with_reducible refine (k3 _).mono ?_); rintro e w3 ⟨rfl, hB3⟩))
      go_ret
      exact ⟨by simp, below_next (below_next (below_next ((Below.refl _ _).alloc (Nat.le_refl _) _) hB1) hB2) hB3⟩
def headM (o : OpM) : Bool := decide (1 ≤ o.tm ∧ o.tm ≤ 281474976710656 ∧ o.who ≠ 0 ∧ o.kd ≤ 8) && (if o.kd = 0 then eqB (o.cr, o.cn) (o.r, o.n) else covB o.dep (o.cr, o.cn))
set_option maxHeartbeats 400000 in
theorem op_headFits (o : OpM) (w : World) :
    Calls Tryd.prog 43 #[.agg (oc o)] w
      fun e w' => e = .returned (.bool (headM o)) ∧ Below w.heap.size w w' := by
  have k1 := fun W => op_Covers o (o.cr, o.cn) W
  have hq := fun W => run_eql o.cr o.cn o.r o.n W
  dsimp only at k1 hq
  unfold headM
  generalize covB o.dep (o.cr, o.cn) = f1 at k1 ⊢
  generalize eqB (o.cr, o.cn) (o.r, o.n) = f2 at hq ⊢
  have HE := hid (below_al w (.cells (oc o) 50))
  have g0 : (oc o)[0]? = some (.int .u8 (o.r : Int)) := rfl
  have g1 : (oc o)[1]? = some (.int .u32 (o.n : Int)) := rfl
  have g10 : (oc o)[10]? = some (.int .u64 (o.tm : Int)) := rfl
  have g11 : (oc o)[11]? = some (.int .u32 (o.who : Int)) := rfl
  have g12 : (oc o)[12]? = some (.int .u8 (o.cr : Int)) := rfl
  have g13 : (oc o)[13]? = some (.int .u32 (o.cn : Int)) := rfl
  have g14 : (oc o)[14]? = some (.int .u8 (o.kd : Int)) := rfl
  by_cases ht : 1 ≤ o.tm
  · have t1 : decide ((o.tm : Int) < 1) = false := decide_eq_false (by omega)
    by_cases hm : o.tm ≤ 281474976710656
    · have t2 : decide (281474976710656 < (o.tm : Int)) = false := decide_eq_false (by omega)
      by_cases hw : o.who = 0
      · rw [decide_eq_false (by omega), Bool.false_and]
        have t3 : ((o.who : Int) == 0) = true := by simp [hw]
        clear hw ht hm
        go_enter Tryd.func43, Tryd.ntmps43
        go_wp2
        go_ret
        exact ⟨rfl, HE.out⟩
      · have t3 : ((o.who : Int) == 0) = false := by simp [hw]
        by_cases hk : o.kd ≤ 8
        · have t4 : decide (8 < (o.kd : Int)) = false := decide_eq_false (by omega)
          rw [decide_eq_true ⟨ht, hm, hw, hk⟩, Bool.true_and]
          by_cases h0 : o.kd = 0
          · rw [if_pos h0]
            have t5 : ((o.kd : Int) == 0) = true := by simp [h0]
            clear h0 hw ht hm hk
            go_enter Tryd.func43, Tryd.ntmps43
            go_wp2
            go_ret
            exact ⟨rfl, HE.out⟩
          · rw [if_neg h0]
            have t5 : ((o.kd : Int) == 0) = false := by simp [h0]
            clear h0 hw ht hm hk
            go_enter Tryd.func43, Tryd.ntmps43
            go_wp2_with (first
              | (refine load_op rfl _ rfl w.heap.size rfl _ (opAt_new w o) ?_)
              | (go_at_call 65; (with_reducible refine (k1 _).mono ?_); rintro e w1 ⟨rfl, hB1⟩))
            go_ret
            exact ⟨rfl, below_next HE.out hB1⟩
        · rw [decide_eq_false (by omega), Bool.false_and]
          have t4 : decide (8 < (o.kd : Int)) = true := decide_eq_true (by omega)
          clear hw ht hm hk
          go_enter Tryd.func43, Tryd.ntmps43
          go_wp2
          go_ret
          exact ⟨rfl, HE.out⟩
    · rw [decide_eq_false (by omega), Bool.false_and]
      have t2 : decide (281474976710656 < (o.tm : Int)) = true := decide_eq_true (by omega)
      clear ht hm
      go_enter Tryd.func43, Tryd.ntmps43
      go_wp2
      go_ret
      exact ⟨rfl, HE.out⟩
  · rw [decide_eq_false (by omega), Bool.false_and]
    have t1 : decide ((o.tm : Int) < 1) = true := decide_eq_true (by omega)
    clear ht
    go_enter Tryd.func43, Tryd.ntmps43
    go_wp2
    go_ret
    exact ⟨rfl, HE.out⟩
end Go.Proofs.YtfnmekmgjcjglaaDoor.V
namespace Go.Proofs.YtfnmekmgjcjglaaDoor.V
set_option linter.unusedVariables false
set_option linter.unusedSimpArgs false
set_option maxRecDepth 100000
open Go Go.RowKit Go.Maps Go.Sort
set_option maxRecDepth 100000
set_option linter.unusedVariables false
set_option linter.unusedSimpArgs false
set_option maxRecDepth 100000
set_option linter.unusedVariables false
set_option linter.unusedSimpArgs false
abbrev Claim := Dot × Dot
def Claim.ok (x : Claim) : Prop := x.1.ok ∧ x.2.ok
def cl (x : Claim) : Array Value := #[.int .u8 (x.1.1 : Int), .int .u32 (x.1.2 : Int), .int .u8 (x.2.1 : Int), .int .u32 (x.2.2 : Int)]
theorem cl_size (x : Claim) : (cl x).size = 4 := rfl
theorem cl_get (x : Claim) {k : Nat} (hk : k < 4) : ∃ v, (cl x)[k]? = some v := ⟨_, Array.getElem?_eq_getElem (by rw [cl_size]; exact hk)⟩
/-- A slice that reads as these claims. -/
def IsClaims (w : World) (a : Option Addr) (len cap : Nat) (xs : List Claim) : Prop :=
  xs.length = len ∧ len ≤ cap ∧ cap ≤ maxLen ∧ (∀ x ∈ xs, Claim.ok x) ∧
    match a with
    | none => len = 0 ∧ cap = 0
    | some ad => ∀ i x, xs[i]? = some x → ∀ k, k < 4 → w.cell? ((ad.add (i * 4)).add k) = (cl x)[k]?
theorem IsClaims.keep {w w' : World} {a : Option Addr} {len cap : Nat} {xs : List Claim} (h : IsClaims w a len cap xs) (hb : Below w.heap.size w w') : IsClaims w' a len cap xs := by
  obtain ⟨h1, h2, h3, h4, h5⟩ := h
  refine ⟨h1, h2, h3, h4, ?_⟩
  cases a with
  | none => exact h5
  | some ad =>
    intro i x hx k hk
    obtain ⟨v, hv⟩ := cl_get x hk
    have h := h5 i x hx k hk
    rw [hv] at h ⊢
    exact cell_keep hb h
theorem IsClaims.at {w : World} {ad : Addr} {len cap : Nat} {xs : List Claim} (h : IsClaims w (some ad) len cap xs) (i : Nat) (hi : i < len) :
    ∃ (x : Claim) (B O : Nat) (sp : Option Nat), xs[i]? = some x ∧ Claim.ok x ∧ ad.add (i * 4) = ⟨B, O, sp⟩ ∧ w.cell? ⟨B, O, sp⟩ = some (.int .u8 (x.1.1 : Int)) ∧ w.cell? ⟨B, O + 1, none⟩ = some (.int .u32 (x.1.2 : Int)) ∧ w.cell? ⟨B, O + 2, none⟩ = some (.int .u8 (x.2.1 : Int)) ∧ w.cell? ⟨B, O + 3, none⟩ = some (.int .u32 (x.2.2 : Int)) := by
  obtain ⟨h1, h2, h3, h4, h5⟩ := h
  have hx : xs[i]? = some (xs[i]'(by omega)) := List.getElem?_eq_getElem (by omega)
  have hc := h5 i _ hx
  have hok := h4 _ (List.mem_of_getElem? hx)
  generalize xs[i]'(by omega) = x at hx hc hok
  obtain ⟨A, hA⟩ : ∃ A, A = ad.add (i * 4) := ⟨_, rfl⟩
  rw [← hA] at hc
  obtain ⟨B, O, sp⟩ := A
  have e : ∀ k, 0 < k → k < 4 → w.cell? ⟨B, O + k, none⟩ = (cl x)[k]? := fun k h0 hk => by
    have h := hc k hk
    unfold Addr.add at h
    rw [if_neg (by omega)] at h
    exact h
  exact ⟨x, B, O, sp, hx, hok, hA.symm, hc 0 (by omega), e 1 (by omega) (by omega), e 2 (by omega) (by omega), e 3 (by omega) (by omega)⟩
theorem IsClaims.none_len {w : World} {len cap : Nat} {xs : List Claim} (h : IsClaims w none len cap xs) : len = 0 := h.2.2.2.2.1
def ClaimsV (w : World) (v : Value) (l : List Claim) : Prop := ∃ a len cap, v = .slice a len cap ∧ IsClaims w a len cap l
theorem ClaimsV.keep {w w' : World} {v : Value} {l : List Claim} (h : ClaimsV w v l) (hb : Below w.heap.size w w') : ClaimsV w' v l := by
  obtain ⟨a, len, cap, e, h⟩ := h
  exact ⟨a, len, cap, e, h.keep hb⟩
theorem ClaimsV.nil (w : World) : ClaimsV w (.slice none 0 0) [] := ⟨none, 0, 0, rfl, rfl, Nat.le_refl _, by unfold maxLen; omega, by simp, rfl, rfl⟩
theorem take_snocC {α : Type} {l : List α} {k : Nat} {x : α} (hx : l[k]? = some x) : l.take k ++ [x] = l.take (k + 1) := by
  rw [List.take_succ_eq_append_getElem (List.getElem?_eq_some_iff.1 hx).1, (List.getElem?_eq_some_iff.1 hx).2]
/-- May these be a submit's lines? -/
def okL (v : Vec) (l : List Claim) : Prop := 1 ≤ l.length ∧ l.length ≤ 16 ∧ (∀ x ∈ l, covB v x.1 = true ∧ covB v x.2 = true) ∧ (l.map Prod.fst).Nodup
/-- The first k of them do. -/
def OkTo (v : Vec) (l : List Claim) (k : Nat) : Prop := (∀ x ∈ l.take k, covB v x.1 = true ∧ covB v x.2 = true) ∧ ((l.take k).map Prod.fst).Nodup
theorem OkTo.zero (v : Vec) (l : List Claim) : OkTo v l 0 := by constructor <;> simp
theorem OkTo.succ {v : Vec} {l : List Claim} {k : Nat} {x : Claim} (h : OkTo v l k) (hx : l[k]? = some x) (h1 : covB v x.1 = true) (h2 : covB v x.2 = true) (hn : x.1 ∉ (l.take k).map Prod.fst) : OkTo v l (k + 1) := by
  unfold OkTo
  rw [← take_snocC hx]
  refine ⟨fun y hy => ?_, ?_⟩
  · rcases List.mem_append.1 hy with hy | hy
    · exact h.1 y hy
    · simp at hy; subst hy; exact ⟨h1, h2⟩
  · rw [List.map_append, List.nodup_append]
    refine ⟨h.2, by simp, ?_⟩
    intro a ha b hb
    simp at hb
    subst hb
    intro e
    subst e
    exact hn ha
theorem not_okL_cov {v : Vec} {l : List Claim} {k : Nat} {x : Claim} (hx : l[k]? = some x) (h : covB v x.1 = false ∨ covB v x.2 = false) : ¬ okL v l := by
  rintro ⟨_, _, h1, _⟩
  have := h1 x (List.mem_of_getElem? hx)
  rcases h with h | h
  · rw [h] at this; exact absurd this.1 (by decide)
  · rw [h] at this; exact absurd this.2 (by decide)
theorem not_okL_dup {v : Vec} {l : List Claim} {k : Nat} {x : Claim} (hx : l[k]? = some x) (h : x.1 ∈ (l.take k).map Prod.fst) : ¬ okL v l := by
  rintro ⟨_, _, _, hn⟩
  have h2 : ((l.take (k + 1)).map Prod.fst).Nodup := by
    rw [List.map_take]
    exact hn.sublist (List.take_sublist _ _)
  rw [← take_snocC hx, List.map_append, List.nodup_append] at h2
  exact h2.2.2 _ h _ (by simp) rfl
theorem okL_of {v : Vec} {l : List Claim} {k : Nat} (hk : l.length ≤ k) (h1 : 1 ≤ l.length) (h16 : l.length ≤ 16) (h : OkTo v l k) : okL v l := by
  unfold OkTo at h
  rw [List.take_of_length_le hk] at h
  exact ⟨h1, h16, h.1, h.2⟩
instance (v : Vec) (l : List Claim) : Decidable (okL v l) := inferInstanceAs (Decidable (_ ∧ _ ∧ _ ∧ _))
def okLB (v : Vec) (l : List Claim) : Bool := decide (okL v l)
theorem okLB_true {v : Vec} {l : List Claim} (h : okL v l) : okLB v l = true := decide_eq_true h
theorem okLB_false {v : Vec} {l : List Claim} (h : ¬ okL v l) : okLB v l = false := decide_eq_false h
end Go.Proofs.YtfnmekmgjcjglaaDoor.V
namespace Go.Proofs.YtfnmekmgjcjglaaDoor.V
set_option linter.unusedVariables false
set_option linter.unusedSimpArgs false
open Go Go.RowKit Go.Maps Go.Sort
set_option maxRecDepth 100000
set_option linter.unusedVariables false
set_option linter.unusedSimpArgs false
set_option maxRecDepth 100000
set_option linter.unusedVariables false
set_option linter.unusedSimpArgs false
theorem run_load_op {c : Oper} {a : Act} {w : World} (x : Operand) (ho : c.op = .load 50 x) (g : Nat) (hx : a.eval x = .pointer (some ⟨g, 0, none⟩)) (o : OpM) (hg : OpAt w g o) :
    (execOp a.eval c).run Tryd.prog w = .ok (.value (.agg (oc o))) w := by
  unfold execOp
  simp only [ho, hx, Instr.loadAt, Instr.sureAddr, Sem.run_bind, Sem.run_pure, Result.andThen_ok, run_loadVar_row w g 50 50 _ _ _ hg Tryd.underlying50 rfl (opSize _)]
theorem quiet_load_op {ops : Array Oper} {C : World → Prop} {Q : Act → Prop} {a : Act} {c : Oper} {rest : List Oper} (hw : Region.wanted c (yielded ops a.tmps) = true) (x : Operand) (ho : c.op = .load 50 x)
    (g : Nat) (hx : a.eval x = .pointer (some ⟨g, 0, none⟩)) (o : OpM) (hC : ∀ w, C w → OpAt w g o) (h : wpQuiet Tryd.prog ops C Q rest (a.put c.dst (.agg (oc o)))) : wpQuiet Tryd.prog ops C Q (c :: rest) a :=
  BigFrame.wpQuiet_want hw fun K hK => ⟨_, fun w hCw => by unfold Oper.quietAt; rw [run_load_op x ho g hx o (hC w hCw)]; exact ⟨rfl, rfl⟩, hK _ h⟩
end Go.Proofs.YtfnmekmgjcjglaaDoor.V
