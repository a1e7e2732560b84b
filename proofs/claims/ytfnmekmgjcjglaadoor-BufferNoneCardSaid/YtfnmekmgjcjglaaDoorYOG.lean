/-
  op.Check.
-/
import Derived.Test.YtfnmekmgjcjglaaDoorYMB
import Derived.Test.YtfnmekmgjcjglaaDoorYMA
namespace Go.Proofs.YtfnmekmgjcjglaaDoor.V
set_option linter.unusedVariables false
set_option linter.unusedSimpArgs false
set_option maxRecDepth 100000
open Go Go.RowKit Go.Maps
set_option maxRecDepth 100000
set_option linter.unusedVariables false
set_option linter.unusedSimpArgs false
set_option maxRecDepth 100000
set_option linter.unusedVariables false
set_option linter.unusedSimpArgs false
/-- What a kind has, as bits. -/
def hasP (k : Nat) : Nat := match k with
  | 0 => 0 | 1 => 31 | 2 => 33 | 3 => 897 | 4 => 289 | 5 => 33 | 6 => 97 | 7 => 97 | 8 => 1025 | _ => 0
theorem hasP_lt (k : Nat) : hasP k < 65536 := by unfold hasP; split <;> decide
/-- The table holds it. -/
def Tab (w : World) : Prop := ∀ k, k < 9 → w.cell? ⟨0, k, none⟩ = some (.int .u16 (hasP k : Int))
theorem Tab.keep {w w' : World} (h : Tab w) (hb : Below w.heap.size w w') : Tab w' := fun k hk => cell_keep hb (h k hk)
def simM (o : OpM) (h : Nat) : Bool := decide (o.to = nearM (h &&& 2) o.to 1 4294967295 ∧ o.ro = nearM (h &&& 4) o.ro 1 7 ∧ o.de = nearM (h &&& 8) o.de 0 7 ∧ o.cap = nearM (h &&& 16) o.cap 0 1099511627776 ∧ o.it = nearM (h &&& 128) o.it 0 4294967295 ∧ o.qt = nearM (h &&& 256) o.qt 1 65535 ∧ o.pr = nearM (h &&& 512) o.pr 0 16777215)
def simV (o : OpM) : Array Value := #[.int .u32 (o.to : Int), .int .u8 (o.ro : Int), .int .u8 (o.de : Int), .int .u64 (o.cap : Int), .int .u32 (o.it : Int), .int .u32 (o.qt : Int), .int .u32 (o.pr : Int)]
def valV (o : OpM) (h : Nat) : Array Value := #[.int .u32 (nearM (h &&& 2) o.to 1 4294967295 : Int), .int .u8 (nearM (h &&& 4) o.ro 1 7 : Int), .int .u8 (nearM (h &&& 8) o.de 0 7 : Int), .int .u64 (nearM (h &&& 16) o.cap 0 1099511627776 : Int), .int .u32 (nearM (h &&& 128) o.it 0 4294967295 : Int), .int .u32 (nearM (h &&& 256) o.qt 1 65535 : Int), .int .u32 (nearM (h &&& 512) o.pr 0 16777215 : Int)]
theorem run_neq_simple (o : OpM) (h : Nat) (w : World) : (binOp .neq 88 (.agg (simV o)) (.agg (valV o h))).run Tryd.prog w = .ok (.bool (!simM o h)) w := by
  have h1 : (Op.equalIn 10000 88 (.agg #[.int .u32 (o.to : Int), .int .u8 (o.ro : Int), .int .u8 (o.de : Int), .int .u64 (o.cap : Int), .int .u32 (o.it : Int), .int .u32 (o.qt : Int), .int .u32 (o.pr : Int)]) (.agg #[.int .u32 (nearM (h &&& 2) o.to 1 4294967295 : Int), .int .u8 (nearM (h &&& 4) o.ro 1 7 : Int), .int .u8 (nearM (h &&& 8) o.de 0 7 : Int), .int .u64 (nearM (h &&& 16) o.cap 0 1099511627776 : Int), .int .u32 (nearM (h &&& 128) o.it 0 4294967295 : Int), .int .u32 (nearM (h &&& 256) o.qt 1 65535 : Int), .int .u32 (nearM (h &&& 512) o.pr 0 16777215 : Int)])).run Tryd.prog w = .ok (simM o h) w := by
    refine (eq_simple _ _ _ _ _ _ _ _ _ _ _ _ _ _ w).trans ?_
    congr 1
    unfold simM
    rw [Bool.eq_iff_iff]
    simp only [Bool.and_eq_true, beq_iff_eq, decide_eq_true_eq, Int.natCast_inj, and_assoc]
  unfold simV valV
  simp only [binOp]
  simp [Op.equal, Op.maxDepth]
  rw [h1]; rfl
theorem OpAt.loads {w : World} {b : Nat} {o : OpM} (h : OpAt w b o) : (loadCellsFrom ⟨b, 0, none⟩ 0 29 #[]).run Tryd.prog w = .ok (oc o) w := by
  have := run_loadCells_list (P := Tryd.prog) w ⟨b, 0, none⟩ (oc o).toList (fun j v hv => by
    have hadd : (⟨b, 0, none⟩ : Addr).add j = ⟨b, j, none⟩ := add8 b j
    rw [hadd, h.cell j]
    simpa using hv)
  simpa [loadCells, oc_size] using this
def checkM (o : OpM) (l : List Claim) (n : Int) : Int :=
  if n < 1 then 2 else if 8 < n then 2 else if nameM o n.toNat = true then (if headM o = true then (if (simM o (hasP o.kd) && (dotsM o (hasP o.kd) && linesM o l (hasP o.kd))) = true then 0 else 5) else 5) else 5
set_option maxHeartbeats 1000000 in
theorem op_Check (o : OpM) (hok : okO o) (l : List Claim) (n : Int) (w : World) (hv : ClaimsV w o.lv l) (hT : Tab w) :
    Calls Tryd.prog 27 #[.agg (oc o), .int .i64 n] w
      fun e w' => e = .returned (.int .i64 (checkM o l n)) ∧ Below w.heap.size w w' := by
  unfold checkM
  have HE := hid (below_al w (.cells (oc o) 50))
  by_cases h1 : n < 1
  · rw [if_pos h1]
    go_enter Tryd.func27, Tryd.ntmps27
    go_wp2
    go_ret
    exact ⟨rfl, HE.out⟩
  · by_cases h8 : 8 < n
    · rw [if_neg h1, if_pos h8]
      go_enter Tryd.func27, Tryd.ntmps27
      go_wp2
      go_ret
      exact ⟨rfl, HE.out⟩
    · rw [if_neg h1, if_neg h8]
      obtain ⟨m, rfl⟩ : ∃ m : Nat, n = m := ⟨n.toNat, by omega⟩
      have t1 : decide ((m : Int) < 1) = false := decide_eq_false (by omega)
      have t2 : decide (8 < (m : Int)) = false := decide_eq_false (by omega)
      rw [Int.toNat_natCast]
      have k1 := fun W => op_nameFits o hok m (by omega) (by omega) W
      have k2 := fun W => op_headFits o W
      have HV := hid (And.intro hv hT)
      clear hv hT h1 h8
      cases hn : nameM o m
      · rw [hn] at k1
        clear hn k2
        rw [if_neg (by decide)]
        go_enter Tryd.func27, Tryd.ntmps27
        go_wp2_with (first
          | (refine load_op rfl _ rfl w.heap.size rfl _ (opAt_new w o) ?_)
          | (go_at_call 42; (with_reducible refine (k1 _).mono ?_); rintro e w1 ⟨rfl, hB1⟩))
        go_ret
        exact ⟨rfl, below_next HE.out hB1⟩
      · rw [hn] at k1
        clear hn
        rw [if_pos rfl]
        cases hh : headM o
        · rw [hh] at k2
          clear hh
          rw [if_neg (by decide)]
          go_enter Tryd.func27, Tryd.ntmps27
          go_wp2_with (first
            | (refine load_op rfl _ rfl w.heap.size rfl _ (opAt_new w o) ?_)
            | (refine load_op rfl _ rfl w.heap.size rfl _ (HP1.out) ?_)
            | (go_at_call 42; (with_reducible refine (k1 _).mono ?_); rintro e w1 ⟨rfl, hB1⟩; have HP1 := hid ((opAt_new w o).keep hB1))
            | (go_at_call 43; (with_reducible refine (k2 _).mono ?_); rintro e w2 ⟨rfl, hB2⟩))
          go_ret
          exact ⟨rfl, below_next (below_next HE.out hB1) hB2⟩
        · rw [hh] at k2
          rw [if_pos rfl]
          have hk8 : o.kd < 9 := by
            have := hh
            unfold headM at this
            rw [Bool.and_eq_true] at this
            have := of_decide_eq_true this.1
            omega
          have HH := hid hh
          clear hh
          have hP := hasP_lt o.kd
          have hq := fun W => run_neq_simple o (hasP o.kd) W
          have k3 : ∀ W, Calls Tryd.prog 44 #[.agg (oc o)] W fun e w' => e = .returned (.agg (simV o)) ∧ Below W.heap.size W w' := fun W => op_simpleOf o W
          have k4 : ∀ W, Calls Tryd.prog 45 #[.agg (oc o), .int .u16 (hasP o.kd : Int)] W fun e w' => e = .returned (.agg (valV o (hasP o.kd))) ∧ Below W.heap.size W w' := fun W => op_validSimple o (hasP o.kd) hP W
          have k5 := fun W => op_dotsFit o (hasP o.kd) hP W
          have k6 := fun W hW => op_linesFit o l (hasP o.kd) hP W hW
          have hcell := fun (W : World) (hW : Tab W) => hW o.kd hk8
          generalize valV o (hasP o.kd) = vs at hq k4
          generalize simV o = ss at hq k3
          generalize simM o (hasP o.kd) = f1 at hq ⊢
          generalize dotsM o (hasP o.kd) = f2 at k5 ⊢
          generalize linesM o l (hasP o.kd) = f3 at k6 ⊢
          generalize hasP o.kd = hb at hcell k4 k5 k6
          clear hP
          go_enter Tryd.func27, Tryd.ntmps27
          go_wp2_with (first
            | (refine load_op rfl _ rfl w.heap.size rfl _ (opAt_new w o) ?_)
            | (refine load_op rfl _ rfl w.heap.size rfl _ (HP1.out) ?_)
            | (go_at_call 42; (with_reducible refine (k1 _).mono ?_); rintro e w1 ⟨rfl, hB1⟩; have HP1 := hid ((opAt_new w o).keep hB1); have HB1 := hid (below_next HE.out hB1); clear hB1)
            | (go_at_call 43; (with_reducible refine (k2 _).mono ?_); rintro e w2 ⟨rfl, hB2⟩; have HP2 := hid (HP1.out.keep hB2); have c14 := HP2.out.c14; have HB2 := hid (below_next HB1.out hB2); have ct := hcell _ (HV.out.2.keep HB2.out); clear hB2))
          refine wp_region_later_n (by kernel_rfl) (by kernel_rfl) ?_
          intro wd hwd
          have hw2 : Below w2.heap.size w2 wd := by rw [hwd]; first | exact Below.refl _ _ | exact below_dr _
          clear hwd c14 ct
          have HBd := hid (below_next HB2.out hw2)
          have HPd := hid (HP2.out.keep hw2)
          have fl : ∀ w', (∃ p : Later wd.heap.size wd, w' = p.val) → OpAt w' w.heap.size o := by rintro _ ⟨p, rfl⟩; exact HPd.out.keep p.ok
          have FL := hid fl
          clear fl
          have hl4 := fun p : Later wd.heap.size wd => HV.out.1.keep (below_next HBd.out p.ok)
          clear hw2 k1 k2 hcell
          cases f1
          · simp only [Bool.not_false] at hq
            repeat (first | (refine quiet_load_op rfl _ rfl w.heap.size rfl o FL.out ?_; simp only [Act.put, List.setIfInBounds_toArray, List.set_cons_zero, List.set_cons_succ]) | go_big_quiet_step (first | (go_at_call 44; with_reducible exact Calls.later_of (Nat.le_refl _) (k3 _)) | (go_at_call 45; with_reducible exact Calls.later_of (Nat.le_refl _) (k4 _))))
            refine wpQuiet_nil ?_
            rintro _ ⟨p, rfl⟩
            have HP := hid p.ok
            generalize p.val = w5 at HP
            clear hl4
            go_wp2
            go_ret
            exact ⟨rfl, below_next HBd.out HP.out⟩
          · simp only [Bool.not_true] at hq
            cases f2
            · repeat (first | (refine quiet_load_op rfl _ rfl w.heap.size rfl o FL.out ?_; simp only [Act.put, List.setIfInBounds_toArray, List.set_cons_zero, List.set_cons_succ]) | go_big_quiet_step (first | (go_at_call 44; with_reducible exact Calls.later_of (Nat.le_refl _) (k3 _)) | (go_at_call 45; with_reducible exact Calls.later_of (Nat.le_refl _) (k4 _)) | (go_at_call 46; with_reducible exact Calls.later_of (Nat.le_refl _) (k5 _))))
              refine wpQuiet_nil ?_
              rintro _ ⟨p, rfl⟩
              have HP := hid p.ok
              generalize p.val = w5 at HP
              clear hl4
              go_wp2
              go_ret
              exact ⟨rfl, below_next HBd.out HP.out⟩
            · cases f3
              · repeat (first | (refine quiet_load_op rfl _ rfl w.heap.size rfl o FL.out ?_; simp only [Act.put, List.setIfInBounds_toArray, List.set_cons_zero, List.set_cons_succ]) | go_big_quiet_step (first | (go_at_call 44; with_reducible exact Calls.later_of (Nat.le_refl _) (k3 _)) | (go_at_call 45; with_reducible exact Calls.later_of (Nat.le_refl _) (k4 _)) | (go_at_call 46; with_reducible exact Calls.later_of (Nat.le_refl _) (k5 _)) | (go_at_call 47; with_reducible exact Calls.later_of (Nat.le_refl _) (k6 _ (hl4 _)))))
                refine wpQuiet_nil ?_
                rintro _ ⟨p, rfl⟩
                have HP := hid p.ok
                generalize p.val = w5 at HP
                clear hl4
                go_wp2
                go_ret
                exact ⟨rfl, below_next HBd.out HP.out⟩
              · repeat (first | (refine quiet_load_op rfl _ rfl w.heap.size rfl o FL.out ?_; simp only [Act.put, List.setIfInBounds_toArray, List.set_cons_zero, List.set_cons_succ]) | go_big_quiet_step (first | (go_at_call 44; with_reducible exact Calls.later_of (Nat.le_refl _) (k3 _)) | (go_at_call 45; with_reducible exact Calls.later_of (Nat.le_refl _) (k4 _)) | (go_at_call 46; with_reducible exact Calls.later_of (Nat.le_refl _) (k5 _)) | (go_at_call 47; with_reducible exact Calls.later_of (Nat.le_refl _) (k6 _ (hl4 _)))))
                refine wpQuiet_nil ?_
                rintro _ ⟨p, rfl⟩
                have HP := hid p.ok
                generalize p.val = w5 at HP
                clear hl4
                go_wp2
                go_ret
                exact ⟨rfl, below_next HBd.out HP.out⟩
end Go.Proofs.YtfnmekmgjcjglaaDoor.V
