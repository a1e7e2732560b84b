/-
  The numbers that some kinds have alone: nearest, and those of an operation; compared.
-/
import Derived.Test.YtdhdfngaldfdjaaDoorOA
import Derived.StillTailTactics
namespace Go.Proofs.YtdhdfngaldfdjaaDoor.V
set_option linter.unusedVariables false
set_option linter.unusedSimpArgs false
set_option maxRecDepth 100000
open Go Go.RowKit Go.Maps Go.Sort

theorem ref_Covers (o : OpM) (d : Dot) (w : World) :
    Calls Tryd.prog 10 #[.agg (oc o), .agg #[.int .u8 (d.1 : Int), .int .u32 (d.2 : Int)]] w
      fun e w' => e = .returned (.bool (covB o.dep d)) ∧ Below w.heap.size w w' := by
  obtain ⟨r, n⟩ := d
  dsimp only
  unfold covB mayD
  go_enter Tryd.func10, Tryd.ntmps10
  go_wp2
  refine wp_region_later_n (by kernel_rfl) (by kernel_rfl) ?_
  intro wd hwd
  have HW := hid (show Below w.heap.size w wd by rw [hwd]; exact below_al2 _ _ _)
  have hO : OpAt wd w.heap.size o := by rw [hwd]; exact (opAt_new w o).al _
  have hc0 : ∀ p : Later wd.heap.size wd, p.val.cell? ⟨w.heap.size + 1, 0, none⟩ = some (.int .u8 (r : Int)) := fun p => cell_keep p.ok (by rw [hwd]; simp)
  have hc1 : ∀ p : Later wd.heap.size wd, p.val.cell? ⟨w.heap.size + 1, 1, none⟩ = some (.int .u32 (n : Int)) := fun p => cell_keep p.ok (by rw [hwd]; simp)
  have HO := hid hO
  clear hwd hO
  by_cases h1 : r < 8
  · have h1' : decide ((r : Int) < 8) = true := decide_eq_true (by omega)
    by_cases h2 : n = 0
    · have h2' : decide (1 ≤ (n : Int)) = false := decide_eq_false (by omega)
      have HE := hid h2
      clear h2
      repeat (go_big_quiet_step (fail))
      refine wpQuiet_nil ?_
      rintro _ ⟨p, rfl⟩
      have HP := hid p.ok
      generalize p.val = w2 at HP
      clear hc0 hc1
      go_wp2
      go_ret
      exact ⟨by simp [HE.out], HW.out.trans (HP.out.mono HW.out.size)⟩
    · have h2' : decide (1 ≤ (n : Int)) = true := decide_eq_true (by omega)
      have hk := fun p : Later wd.heap.size wd => (HO.out.keep p.ok).dep h1
      have HE := hid h2
      clear h2
      repeat (go_big_quiet_step (fail))
      refine wpQuiet_nil ?_
      rintro _ ⟨p, rfl⟩
      have HP := hid p.ok
      generalize p.val = w2 at HP
      clear hc0 hc1 hk
      go_wp2
      go_ret
      exact ⟨by simp [HE.out, h1], HW.out.trans (HP.out.mono HW.out.size)⟩
  · have h1' : decide ((r : Int) < 8) = false := decide_eq_false (by omega)
    repeat (go_big_quiet_step (fail))
    refine wpQuiet_nil ?_
    rintro _ ⟨p, rfl⟩
    have HP := hid p.ok
    generalize p.val = w2 at HP
    clear hc0 hc1
    go_wp2
    go_ret
    exact ⟨by simp [h1], HW.out.trans (HP.out.mono HW.out.size)⟩

def nearM (h n l m : Nat) : Nat := if h = 0 then 0 else min (max n l) m

theorem near_u8 (h n l m : Nat) (w : World) :
    Calls Tryd.prog 49 #[.int .u16 (h : Int), .int .u8 (n : Int), .int .u8 (l : Int), .int .u8 (m : Int)] w fun e w' => e = .returned (.int .u8 (nearM h n l m : Int)) ∧ w = w' := by
  unfold nearM
  go_enter Tryd.func49, Tryd.ntmps49
  go_wp2
  all_goals go_ret
  all_goals (refine ⟨ret_int ?_, rfl⟩)
  all_goals (first | (split <;> omega) | (simp_all; done) | omega)

theorem near_u32 (h n l m : Nat) (w : World) :
    Calls Tryd.prog 48 #[.int .u16 (h : Int), .int .u32 (n : Int), .int .u32 (l : Int), .int .u32 (m : Int)] w fun e w' => e = .returned (.int .u32 (nearM h n l m : Int)) ∧ w = w' := by
  unfold nearM
  go_enter Tryd.func48, Tryd.ntmps48
  go_wp2
  all_goals go_ret
  all_goals (refine ⟨ret_int ?_, rfl⟩)
  all_goals (first | (split <;> omega) | (simp_all; done) | omega)

theorem near_u64 (h n l m : Nat) (w : World) :
    Calls Tryd.prog 50 #[.int .u16 (h : Int), .int .u64 (n : Int), .int .u64 (l : Int), .int .u64 (m : Int)] w fun e w' => e = .returned (.int .u64 (nearM h n l m : Int)) ∧ w = w' := by
  unfold nearM
  go_enter Tryd.func50, Tryd.ntmps50
  go_wp2
  all_goals go_ret
  all_goals (refine ⟨ret_int ?_, rfl⟩)
  all_goals (first | (split <;> omega) | (simp_all; done) | omega)

theorem wp_region_still_tail_w {P : Program} {id : Nat} {Q : Exit → Act → World → Prop} {a : Act} {w : World} {l : List Oper} (n : Nat) (hm : P.follows .mixedOrders = true) (hB : Region.lexTailB .any l.toArray n = true)
    (h : ∀ wd, wd = w.drew → wpStill P l.toArray wd (fun a' => wpList P l.toArray Q (l.drop n) a' wd) (l.take n) a) : (Code.region id l.toArray true).wp P Q a w :=
  wp_region_still_tail n hm hB (h w.drew rfl)
theorem last2 (w : World) (a b : Obj) : ((w.alloc a).alloc b).heap[w.heap.size + 1]? = some b := by
  have h := heap_alloc_last' (w.alloc a) b
  rw [World.size_alloc] at h
  exact h
theorem and_u16 (a b : Nat) (ha : a < 65536) (hb : b < 65536) : bits .and .u16 (a : Int) (b : Int) = ((a &&& b : Nat) : Int) := by
  have hx : a &&& b < 2 ^ 16 := Nat.and_lt_two_pow _ (by omega)
  show IntKind.u16.wrap ((BitVec.ofInt 16 (a : Int) &&& BitVec.ofInt 16 (b : Int)).toNat : Int) = _
  rw [BitVec.toNat_and, ofNat_toNat 16 a (by omega), ofNat_toNat 16 b (by omega), wrap_u16]; omega

theorem simpleInfo : (Tryd.prog.info? 55).map (fun i => (i.zero, i.size, i.bytes)) = some (some (.agg #[.int .u32 0, .int .u8 0, .int .u8 0, .int .u64 0, .int .u32 0, .int .u32 0, .int .u32 0]), 7, 32) := by kernel_rfl

set_option maxHeartbeats 1000000 in
theorem op_simpleOf (o : OpM) (w : World) :
    Calls Tryd.prog 20 #[.agg (oc o)] w
      fun e w' => e = .returned (.agg #[.int .u32 (o.to : Int), .int .u8 (o.ro : Int), .int .u8 (o.de : Int), .int .u64 (o.cap : Int), .int .u32 (o.it : Int), .int .u32 (o.qt : Int), .int .u32 (o.pr : Int)]) ∧ Below w.heap.size w w' := by
  have f17 : (oc o)[17]? = some (.int .u32 (o.to : Int)) := rfl
  have f18 : (oc o)[18]? = some (.int .u8 (o.ro : Int)) := rfl
  have f19 : (oc o)[19]? = some (.int .u8 (o.de : Int)) := rfl
  have f20 : (oc o)[20]? = some (.int .u64 (o.cap : Int)) := rfl
  have f25 : (oc o)[25]? = some (.int .u32 (o.it : Int)) := rfl
  have f26 : (oc o)[26]? = some (.int .u32 (o.qt : Int)) := rfl
  have f27 : (oc o)[27]? = some (.int .u32 (o.pr : Int)) := rfl
  go_enter Tryd.func20, Tryd.ntmps20
  go_wp2
  exact bodyPost_ret (results_cell_row rfl _ _ _ _ _ _ _ rfl (last2 _ _ _) Tryd.underlying55 rfl (by kernel_rfl)) rfl ⟨rfl, below_al2 _ _ _⟩

set_option maxHeartbeats 4000000 in
theorem op_validSimple (o : OpM) (h : Nat) (hh : h < 65536) (w : World) :
    Calls Tryd.prog 21 #[.agg (oc o), .int .u16 (h : Int)] w
      fun e w' => e = .returned (.agg #[.int .u32 (nearM (h &&& 2) o.to 1 4294967295 : Int), .int .u8 (nearM (h &&& 4) o.ro 1 7 : Int), .int .u8 (nearM (h &&& 8) o.de 0 7 : Int), .int .u64 (nearM (h &&& 16) o.cap 0 1099511627776 : Int), .int .u32 (nearM (h &&& 128) o.it 0 4294967295 : Int), .int .u32 (nearM (h &&& 256) o.qt 1 65535 : Int), .int .u32 (nearM (h &&& 512) o.pr 0 16777215 : Int)]) ∧ Below w.heap.size w w' := by
  have b1 : bits .and .u16 (h : Int) 2 = ((h &&& 2 : Nat) : Int) := and_u16 h 2 hh (by omega)
  have b2 : bits .and .u16 (h : Int) 4 = ((h &&& 4 : Nat) : Int) := and_u16 h 4 hh (by omega)
  have b3 : bits .and .u16 (h : Int) 8 = ((h &&& 8 : Nat) : Int) := and_u16 h 8 hh (by omega)
  have b4 : bits .and .u16 (h : Int) 16 = ((h &&& 16 : Nat) : Int) := and_u16 h 16 hh (by omega)
  have b5 : bits .and .u16 (h : Int) 128 = ((h &&& 128 : Nat) : Int) := and_u16 h 128 hh (by omega)
  have b6 : bits .and .u16 (h : Int) 256 = ((h &&& 256 : Nat) : Int) := and_u16 h 256 hh (by omega)
  have b7 : bits .and .u16 (h : Int) 512 = ((h &&& 512 : Nat) : Int) := and_u16 h 512 hh (by omega)
  go_enter Tryd.func21, Tryd.ntmps21
  go_wp2
  refine wp_region_still_tail_w 35 (by kernel_rfl) (by kernel_rfl) ?_
  intro wd hwd
  have hO : OpAt wd w.heap.size o := by rw [hwd]; exact ((opAt_new w o).al _).dr
  have e17 := hO.c17
  have e18 := hO.c18
  have e19 := hO.c19
  have e20 := hO.c20
  have e25 := hO.c25
  have e26 := hO.c26
  have e27 := hO.c27
  have HW := hid hwd
  clear hwd hO
  simp only [List.take_succ_cons, List.take_zero, List.drop_succ_cons, List.drop_zero]
  repeat still_step
  still_call ((near_u32 _ _ 1 4294967295 _).mono fun _ _ ⟨he, hw⟩ => ⟨he, hw.symm⟩)
  repeat still_step
  still_call ((near_u8 _ _ 1 7 _).mono fun _ _ ⟨he, hw⟩ => ⟨he, hw.symm⟩)
  repeat still_step
  still_call ((near_u8 _ _ 0 7 _).mono fun _ _ ⟨he, hw⟩ => ⟨he, hw.symm⟩)
  repeat still_step
  still_call ((near_u64 _ _ 0 1099511627776 _).mono fun _ _ ⟨he, hw⟩ => ⟨he, hw.symm⟩)
  repeat still_step
  still_call ((near_u32 _ _ 0 4294967295 _).mono fun _ _ ⟨he, hw⟩ => ⟨he, hw.symm⟩)
  repeat still_step
  still_call ((near_u32 _ _ 1 65535 _).mono fun _ _ ⟨he, hw⟩ => ⟨he, hw.symm⟩)
  repeat still_step
  still_call ((near_u32 _ _ 0 16777215 _).mono fun _ _ ⟨he, hw⟩ => ⟨he, hw.symm⟩)
  repeat still_step
  refine wpStill_nil ?_
  have hx := HW.out
  clear HW e17 e18 e19 e20 e25 e26 e27
  subst hx
  go_wp2
  have hl := last2 w (.cells (oc o) 30) (.cells #[.int .u32 (nearM (h &&& 2) o.to 1 4294967295 : Int), .int .u8 (nearM (h &&& 4) o.ro 1 7 : Int), .int .u8 (nearM (h &&& 8) o.de 0 7 : Int), .int .u64 (nearM (h &&& 16) o.cap 0 1099511627776 : Int), .int .u32 (nearM (h &&& 128) o.it 0 4294967295 : Int), .int .u32 (nearM (h &&& 256) o.qt 1 65535 : Int), .int .u32 (nearM (h &&& 512) o.pr 0 16777215 : Int)] 55)
  rw [← heap_drew ((w.alloc (.cells (oc o) 30)).alloc (.cells #[.int .u32 (nearM (h &&& 2) o.to 1 4294967295 : Int), .int .u8 (nearM (h &&& 4) o.ro 1 7 : Int), .int .u8 (nearM (h &&& 8) o.de 0 7 : Int), .int .u64 (nearM (h &&& 16) o.cap 0 1099511627776 : Int), .int .u32 (nearM (h &&& 128) o.it 0 4294967295 : Int), .int .u32 (nearM (h &&& 256) o.qt 1 65535 : Int), .int .u32 (nearM (h &&& 512) o.pr 0 16777215 : Int)] 55))] at hl
  exact bodyPost_ret (results_cell_row rfl _ _ _ _ _ _ _ rfl hl Tryd.underlying55 rfl (by kernel_rfl)) rfl ⟨rfl, (below_al2 _ _ _).drew⟩

theorem eq_simple (a0 a1 a2 a3 a4 a5 a6 b0 b1 b2 b3 b4 b5 b6 : Int) (w : World) : (Op.equalIn 10000 55 (.agg #[.int .u32 a0, .int .u8 a1, .int .u8 a2, .int .u64 a3, .int .u32 a4, .int .u32 a5, .int .u32 a6]) (.agg #[.int .u32 b0, .int .u8 b1, .int .u8 b2, .int .u64 b3, .int .u32 b4, .int .u32 b5, .int .u32 b6])).run Tryd.prog w = .ok (a0 == b0 && a1 == b1 && a2 == b2 && a3 == b3 && a4 == b4 && a5 == b5 && a6 == b6) w := by
  have hf : Tryd.prog.underlying 55 = some (.struct (Tryd.prog.fieldsOf 55)) := by simp [Program.fieldsOf, Tryd.underlying55]
  have hp : Tryd.prog.stoodInHeld 55 = false := by kernel_rfl
  have u1 := Tryd.underlying5
  have u2 := Tryd.underlying22
  have u3 := Tryd.underlying27
  rw [show (10000 : Nat) = 9999 + 1 from rfl, run_equalIn_struct w 9999 55 _ _ hf hp]
  simp only [Program.fieldsOf, Tryd.underlying55, Op.eqFields]
  go_simp
  by_cases h0 : a0 = b0
  · by_cases h1 : a1 = b1
    · by_cases h2 : a2 = b2
      · by_cases h3 : a3 = b3
        · by_cases h4 : a4 = b4
          · by_cases h5 : a5 = b5
            · by_cases h6 : a6 = b6 <;> simp [h0, h1, h2, h3, h4, h5, h6]
            · simp [h0, h1, h2, h3, h4, h5]
          · simp [h0, h1, h2, h3, h4]
        · simp [h0, h1, h2, h3]
      · simp [h0, h1, h2]
    · simp [h0, h1]
  · simp [h0]

end Go.Proofs.YtdhdfngaldfdjaaDoor.V
