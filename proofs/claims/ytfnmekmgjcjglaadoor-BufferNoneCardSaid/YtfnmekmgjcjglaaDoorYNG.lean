/-
  The document's Sorted.
-/
import Derived.Test.YtfnmekmgjcjglaaDoorYNE
import Derived.Test.YtfnmekmgjcjglaaDoorYMO
import Derived.Test.YtfnmekmgjcjglaaDoorYND
import Derived.Test.YtfnmekmgjcjglaaDoorYOU
import Derived.Test.YtfnmekmgjcjglaaDoorYNF
namespace Go.Proofs.YtfnmekmgjcjglaaDoor.V
set_option linter.unusedVariables false
set_option linter.unusedSimpArgs false
set_option maxRecDepth 100000
open Go Go.RowKit Go.Maps Wire
section
variable {ops : Array Oper} {Q : Exit → Act → World → Prop} {Fv : Nat → Option Value} {M : Nat → (Nat → Value) → World → Prop} {a0 : Act} {k : Nat} {op : Oper}
end
end Go.Proofs.YtfnmekmgjcjglaaDoor.V
namespace Go.Proofs.YtfnmekmgjcjglaaDoor.V
set_option linter.unusedVariables false
set_option linter.unusedSimpArgs false
set_option maxRecDepth 100000
open Go Go.RowKit Go.Maps Wire
set_option maxHeartbeats 800000 in
theorem ref_SameAll (u v : Value) (l m : List OC) (W0 : World) (hu : OpsV W0 u l) (hv : OpsV W0 v m) (h : l.map core = m.map core) :
    Calls Tryd.prog 15 #[u, v] W0 fun e w' => e = .returned (.bool true) ∧ Below W0.heap.size W0 w' := by
  obtain ⟨a, n, cp, rfl, hI⟩ := hu
  obtain ⟨a2, n2, cp2, rfl, hI2⟩ := hv
  have hm : n ≤ 9223372036854775807 := Nat.le_trans hI.2.1 hI.2.2.1
  have hlen : l.length = m.length := by have := congrArg List.length h; simpa using this
  obtain rfl : n2 = n := by rw [← hI.1, ← hI2.1, hlen]
  have HI := hid hI
  have HI2 := hid hI2
  have HH := hid h
  have HN := hid (show n2 = l.length from hI.1.symm)
  clear hI hI2 h hlen
  obtain ⟨n, hn⟩ : ∃ n, n = n2 := ⟨_, rfl⟩
  subst hn
  go_enter Tryd.func15, Tryd.ntmps15
  go_wp2
  go_loopw [5] (fun i wr => ∃ k : Nat, k ≤ n ∧ i = .int .i64 (k : Nat) ∧ Hid (Below W0.heap.size W0 wr)) (fun i _ => n - (intOf i).toNat)
  case atStart => exact ⟨0, by omega, rfl, hid (Below.refl _ _)⟩
  case round =>
    obtain ⟨k, hk, rfl, HB⟩ := hrel
    by_cases hlt : k < n
    · cases a with
      | none => have := HI.out.none_len; omega
      | some ad =>
        cases a2 with
        | none => have := HI2.out.none_len; omega
        | some ad2 =>
          obtain ⟨o, cl', hx, hok, hcl, hin⟩ := (HI.out.keep HB.out).at k hlt
          obtain ⟨o2, cl2, hx2, hok2, hcl2, hin2⟩ := (HI2.out.keep HB.out).at k hlt
          have hcore : core (o, cl') = core (o2, cl2) := by
            have := congrArg (fun t => t[k]?) HH.out
            simp only [List.getElem?_map, hx, hx2, Option.map_some] at this
            exact Option.some.inj this
          have hsm := same_core hcore
          have HS := hid (show ∀ w, Below wr.heap.size wr w → Calls Tryd.prog 33 #[.agg (oc o), .agg (oc o2)] w fun e w' => e = .returned (.bool true) ∧ Below w.heap.size w w' from fun w hb => by
            have := ref_Same o o2 cl' cl2 w (hcl.keep hb) (hcl2.keep hb)
            rw [show sameM o o2 cl' cl2 = true from hsm] at this
            exact this)
          have HX := hid hin
          have HX2 := hid hin2
          clear hx hx2 hok hok2 hcl hcl2 hin hin2 hcore hsm
          go_upto_region 6 with (fail)
          refine wp_flow (fun _ => none) (Fa.eq (.slice (some ad) n cp) :: Fa.eq (.int .i64 ((k : Nat))) :: Fa.eq (.pointer (some (ad.add (k * 29)))) :: Fa.eq (.agg (oc o)) :: Fa.eq (.slice (some ad2) n cp2) :: Fa.eq (.int .i64 ((k : Nat))) :: Fa.eq (.pointer (some (ad2.add (k * 29)))) :: Fa.eq (.agg (oc o2)) :: Fa.eq (.bool (true)) :: Fa.eq (.bool (!true)) :: []) 27 (by kernel_rfl) rfl (by kernel_rfl) rfl (by kernel_rfl) ?_ ?_ ?_
          · exact fits_plain _ _ rfl
          · refine ⟨?_, ?_, ?_, ?_, ?_, ?_, ?_, ?_, ?_, ?_, trivial⟩
            · exact v_move (.inl rfl) rfl (by kernel_rfl) True.intro (Ev.out (by kernel_rfl) rfl)
            · exact v_move (.inl rfl) rfl (by kernel_rfl) True.intro (Ev.out (by kernel_rfl) rfl)
            · exact v_iaddr (u := .slice (some ad) n cp) (v := .int .i64 ((k : Nat))) (c := .pointer (some (ad.add (k * 29)))) rfl (fun w => idx_op ad n cp k hlt w) rfl (by kernel_rfl) True.intro (Ev.at (i := 0) (by kernel_rfl) (by kernel_rfl) rfl) (Ev.at (i := 1) (by kernel_rfl) (by kernel_rfl) rfl)
            · exact v_load (u := .pointer (some (ad.add (k * 29)))) (c := .agg (oc o)) rfl (fun w hB => ldp_op (OpIn.keep (OpIn.dr HX.out) hB)) rfl (by kernel_rfl) True.intro (Ev.at (i := 2) (by kernel_rfl) (by kernel_rfl) rfl)
            · exact v_move (.inl rfl) rfl (by kernel_rfl) True.intro (Ev.out (by kernel_rfl) rfl)
            · exact v_move (.inl rfl) rfl (by kernel_rfl) True.intro (Ev.out (by kernel_rfl) rfl)
            · exact v_iaddr (u := .slice (some ad2) n cp2) (v := .int .i64 ((k : Nat))) (c := .pointer (some (ad2.add (k * 29)))) rfl (fun w => idx_op ad2 n cp2 k hlt w) rfl (by kernel_rfl) True.intro (Ev.at (i := 4) (by kernel_rfl) (by kernel_rfl) rfl) (Ev.at (i := 5) (by kernel_rfl) (by kernel_rfl) rfl)
            · exact v_load (u := .pointer (some (ad2.add (k * 29)))) (c := .agg (oc o2)) rfl (fun w hB => ldp_op (OpIn.keep (OpIn.dr HX2.out) hB)) rfl (by kernel_rfl) True.intro (Ev.at (i := 6) (by kernel_rfl) (by kernel_rfl) rfl)
            · exact v_call (vs := #[.agg (oc o), .agg (oc o2)]) (c := .bool (true)) rfl (fun args w => rfl) (fun w hB => HS.out w ((below_dr _).trans (hB.mono (below_dr _).size))) rfl (by kernel_rfl) True.intro (ev2 (Ev.at (i := 3) (by kernel_rfl) (by kernel_rfl) rfl) (Ev.at (i := 7) (by kernel_rfl) (by kernel_rfl) rfl))
            · exact v_not rfl rfl (by kernel_rfl) True.intro (Ev.at (i := 8) (by kernel_rfl) (by kernel_rfl) rfl)
          intro _ vs W2 hB2 hf
          have e0 : vs 0 = .slice (some ad) n cp := hf 0 (by decide)
          have e1 : vs 1 = .int .i64 ((k : Nat)) := hf 1 (by decide)
          have e2 : vs 2 = .pointer (some (ad.add (k * 29))) := hf 2 (by decide)
          have e3 : vs 3 = .agg (oc o) := hf 3 (by decide)
          have e4 : vs 4 = .slice (some ad2) n cp2 := hf 4 (by decide)
          have e5 : vs 5 = .int .i64 ((k : Nat)) := hf 5 (by decide)
          have e6 : vs 6 = .pointer (some (ad2.add (k * 29))) := hf 6 (by decide)
          have e7 : vs 7 = .agg (oc o2) := hf 7 (by decide)
          have e8 : vs 8 = .bool (true) := hf 8 (by decide)
          have e9 : vs 9 = .bool (!true) := hf 9 (by decide)
          simp only [fill, List.setIfInBounds_toArray, List.set_cons_zero, List.set_cons_succ, e0, e1, e2, e3, e4, e5, e6, e7, e8, e9]
          clear e0 e1 e2 e3 e4 e5 e6 e7 e8 e9
          have HB2 := hid (below_next HB.out hB2)
          clear hB2 hf
          go_wp2
          go_roundw
          case rel => exact ⟨k + 1, by omega, by go_num, HB2⟩
          case measure => exact meas1 hlt
    · obtain rfl : k = n := by omega
      go_wp2
      go_ret
      exact ⟨rfl, HB.out⟩
end Go.Proofs.YtfnmekmgjcjglaaDoor.V
namespace Go.Proofs.YtfnmekmgjcjglaaDoor.V
set_option linter.unusedVariables false
set_option linter.unusedSimpArgs false
set_option maxRecDepth 100000
open Go Go.RowKit Go.Maps Wire
def WaitP (c : List OC) (v : Value) (w : World) : Prop := ∃ s s', OpsV w v s' ∧ SortOf c s ∧ s'.map core = s.map core
theorem WaitP.keep {c : List OC} {v : Value} {w w' : World} (h : WaitP c v w) (hb : Below w.heap.size w w') : WaitP c v w' := by
  obtain ⟨s, s', h1, h2, h3⟩ := h
  exact ⟨s, s', h1.keep hb, h2, h3⟩
section
variable {ops : Array Oper} {Q : Exit → Act → World → Prop} {tgt : Nat → Option Nat} {F : Nat → Fa} {a0 : Act} {w0 : World} {k : Nat} {op : Oper}
theorem eql_vv (v : Vec) (x y : Operand) (w : World) : (do eqGuard .eql 30 x y (.agg (vc v)) (.agg (vc v)); binOp .eql 30 (.agg (vc v)) (.agg (vc v)) : Sem Value).run Tryd.prog w = .ok (.bool true) w := by
  have h : (Op.equalIn 10000 30 (.agg (vc v)) (.agg (vc v))).run Tryd.prog w = .ok true w := (eq_vec v v w).trans (by rw [eqV_refl])
  go_simp
end
theorem law_great (v : Value) (l : List OC) (W0 : World) (hv : OpsV W0 v l) :
    Calls Tryd.prog 10 #[v] W0 fun e w' => e = .returned (.bool (decide (80 < l.length))) ∧ w' = W0 := by
  obtain ⟨a, n, cp, rfl, hI⟩ := hv
  have hn : n = l.length := hI.1.symm
  obtain ⟨z, hz⟩ : ∃ z, decide ((80 : Int) < (n : Int)) = z := ⟨_, rfl⟩
  have hz2 : decide (80 < l.length) = z := by rw [← hz, ← hn]; exact decide_eq_decide.2 (by omega)
  have HZ := hid hz2
  clear hI hn hz2
  go_enter Tryd.func10, Tryd.ntmps10
  go_wp2
  go_ret
  exact ⟨by rw [HZ.out]; rfl, rfl⟩
section
variable {ops : Array Oper} {rest : List Oper} {c : Oper} {a : Act} {w : World} {Q : Exit → Act → World → Prop}
end
def RNewP (w : World) (n : Int) (e : Ending) (w' : World) : Prop := ((n < 1 ∨ 8 < n) → e = .returned (.tuple #[.agg (rfC 0 zeroV (.slice none 0 0)), .int .i64 2])) ∧ (¬ (n < 1 ∨ 8 < n) → e = .returned (.tuple #[.agg (rfC n.toNat zeroV (.slice none 0 0)), .int .i64 0])) ∧ Below w.heap.size w w'
end Go.Proofs.YtfnmekmgjcjglaaDoor.V
