/-
  The document's Great.
-/
import Derived.Test.YtagdapmnghnphaaDoorMK
import Derived.Test.YtagdapmnghnphaaDoorMH
import Derived.Test.YtagdapmnghnphaaDoorZOU
namespace Go.Proofs.YtagdapmnghnphaaDoor.V
set_option linter.unusedVariables false
set_option linter.unusedSimpArgs false
set_option maxRecDepth 100000
open Go Go.RowKit Go.Maps Wire

/-- The number of lines. -/
def sumL (l : List OC) : Nat := (l.map fun x => x.2.length).sum
theorem sum_step {l : List OC} {k : Nat} {x : OC} (hx : l[k]? = some x) : sumL (l.take (k + 1)) = sumL (l.take k) + x.2.length := by
  unfold sumL; rw [take_snocO hx, List.map_append, List.sum_append]; simp
theorem sum_le {l : List OC} {M : Nat} (h : ∀ x ∈ l, x.2.length ≤ M) : sumL l ≤ l.length * M := by
  unfold sumL
  induction l with
  | nil => simp
  | cons a l ih =>
    have h1 := ih fun x hx => h x (List.mem_cons_of_mem _ hx)
    have h2 := h a List.mem_cons_self
    rw [List.map_cons, List.sum_cons, List.length_cons, Nat.add_mul]
    omega
theorem le_sum : ∀ {l : List Nat} {a : Nat}, a ∈ l → a ≤ l.sum
  | b :: l, a, h => by
    rw [List.sum_cons]
    rcases List.mem_cons.1 h with rfl | h
    · omega
    · have := le_sum h; omega
/-- More than the statements look at. -/
def greatM (l : List OC) : Bool := decide (80 < l.length) || decide (300 < sumL (l.take 100))
theorem great_not {l : List OC} (h : greatM l = false) : l.length ≤ 80 ∧ ∀ x ∈ l, x.2.length ≤ 300 := by
  unfold greatM at h
  rw [Bool.or_eq_false_iff, decide_eq_false_iff_not, decide_eq_false_iff_not] at h
  have hl : l.length ≤ 80 := by omega
  refine ⟨hl, fun x hx => ?_⟩
  rw [List.take_of_length_le (by omega)] at h
  have : x.2.length ≤ sumL l := by
    unfold sumL
    have hm : x.2.length ∈ l.map fun x => x.2.length := List.mem_map.2 ⟨x, hx, rfl⟩
    exact le_sum hm
  omega
theorem ClaimsV.form {w : World} {v : Value} {l : List Claim} (h : ClaimsV w v l) : ∃ a c, v = .slice a l.length c := by
  obtain ⟨a, n, c, rfl, h1, _⟩ := h
  exact ⟨a, c, by rw [h1]⟩
set_option maxHeartbeats 800000 in
theorem ref_Great (v : Value) (l : List OC) (W0 : World) (hv : OpsV W0 v l) (hsz : ∀ x ∈ l, x.2.length ≤ 8796093022208) :
    Calls Tryd.prog 8 #[v] W0 fun e w' => e = .returned (.bool (greatM l)) ∧ w' = W0 := by
  obtain ⟨a, n, cp, rfl, hI⟩ := hv
  have HN := hid (show n = l.length from hI.1.symm)
  have hm : n ≤ 9223372036854775807 := Nat.le_trans hI.2.1 hI.2.2.1
  have HI := hid hI
  have HZ := hid hsz
  clear hI hsz
  go_enter Tryd.func8, Tryd.ntmps8
  go_wp2
  go_loopw [3, 4] (fun s i wr => ∃ k t : Nat, k ≤ n ∧ k ≤ 100 ∧ i = .int .i64 (k : Nat) ∧ s = .int .i64 (t : Nat) ∧ Hid (t = sumL (l.take k)) ∧ t ≤ k * 8796093022208 ∧ wr = W0) (fun _ i _ => n - (intOf i).toNat)
  case atStart => exact ⟨0, 0, by omega, by omega, rfl, rfl, hid (by simp [sumL]), by omega, rfl⟩
  case round =>
    obtain ⟨k, t, hk, hk1, rfl, rfl, HT, ht, rfl⟩ := hrel
    by_cases hlt : k < n
    · have k1 : decide ((k : Int) < (n : Int)) = true := decide_eq_true (by omega)
      by_cases h100 : k < 100
      · have k2 : decide ((k : Int) < 100) = true := decide_eq_true (by omega)
        cases a with
        | none => have := HI.out.none_len; omega
        | some ad =>
          obtain ⟨x, B, O, sp, hx, hok, hcl, hA, hC⟩ := OpsV.at HI.out hlt
          obtain ⟨ca, cc, hlv⟩ := hcl.form
          obtain ⟨m, hmE⟩ : ∃ m, m = x.2.length := ⟨_, rfl⟩
          rw [← hmE] at hlv
          have hm43 : m ≤ 8796093022208 := by rw [hmE]; exact HZ.out _ (List.mem_of_getElem? hx)
          have c28 := hC.c28
          rw [hlv] at c28
          have HX := hid (And.intro hx hmE)
          clear hx hmE hlv hcl hok
          go_wp2
          go_roundw
          case rel => exact ⟨k + 1, t + m, by omega, by omega, by go_num, by go_num, hid (by rw [sum_step HX.out.1, ← HT.out, HX.out.2]), by omega, by first | rfl | trivial⟩
          case measure => exact meas1 hlt
      · have k2 : decide ((k : Int) < 100) = false := decide_eq_false (by omega)
        have ht2 : t = sumL (l.take 100) := by
          rw [HT.out]
          congr 1
          by_cases e : k = 100
          · rw [e]
          · rw [List.take_of_length_le (by have := HN.out; omega), List.take_of_length_le (by have := HN.out; omega)]
        have HR := hid (show greatM l = (decide (80 < n) || decide (300 < t)) by unfold greatM; rw [← ht2, HN.out])
        have hd3 : decide ((300 : Int) < (t : Int)) = decide (300 < t) := by
          rw [decide_eq_decide]; omega
        clear ht2
        by_cases h80 : 80 < n
        · have k3 : decide ((80 : Int) < (n : Int)) = true := decide_eq_true (by omega)
          have HE := hid (show greatM l = true by rw [HR.out, decide_eq_true h80]; rfl)
          clear HR hd3 HT
          go_wp2
          go_ret
          exact ⟨by rw [HE.out]; rfl, rfl⟩
        · have k3 : decide ((80 : Int) < (n : Int)) = false := decide_eq_false (by omega)
          have HE := hid (show decide ((300 : Int) < (t : Int)) = greatM l by rw [HR.out, decide_eq_false h80, hd3]; rfl)
          clear HR hd3 HT
          go_wp2
          go_ret
          exact ⟨by rw [← HE.out]; rfl, rfl⟩
    · have k1 : decide ((k : Int) < (n : Int)) = false := decide_eq_false (by omega)
      have ht2 : t = sumL (l.take 100) := by
        rw [HT.out]
        congr 1
        by_cases e : k = 100
        · rw [e]
        · rw [List.take_of_length_le (by have := HN.out; omega), List.take_of_length_le (by have := HN.out; omega)]
      have HR := hid (show greatM l = (decide (80 < n) || decide (300 < t)) by unfold greatM; rw [← ht2, HN.out])
      have hd3 : decide ((300 : Int) < (t : Int)) = decide (300 < t) := by
        rw [decide_eq_decide]; omega
      clear ht2
      by_cases h80 : 80 < n
      · have k3 : decide ((80 : Int) < (n : Int)) = true := decide_eq_true (by omega)
        have HE := hid (show greatM l = true by rw [HR.out, decide_eq_true h80]; rfl)
        clear HR hd3 HT
        go_wp2
        go_ret
        exact ⟨by rw [HE.out]; rfl, rfl⟩
      · have k3 : decide ((80 : Int) < (n : Int)) = false := decide_eq_false (by omega)
        have HE := hid (show decide ((300 : Int) < (t : Int)) = greatM l by rw [HR.out, decide_eq_false h80, hd3]; rfl)
        clear HR hd3 HT
        go_wp2
        go_ret
        exact ⟨by rw [← HE.out]; rfl, rfl⟩
end Go.Proofs.YtagdapmnghnphaaDoor.V

namespace Go.Proofs.YtagdapmnghnphaaDoor.V
set_option linter.unusedVariables false
set_option linter.unusedSimpArgs false
set_option maxRecDepth 100000
open Go Go.RowKit Go.Maps Wire

theorem eqB_refl (d : Dot) : eqB (d.1, d.2) (d.1, d.2) = true := by unfold eqB; simp
theorem core_eq {x y : OC} (h : core x = core y) : y.1 = setL x.1 y.1.lv ∧ y.2 = x.2 := by
  obtain ⟨o, l⟩ := x
  obtain ⟨p, m⟩ := y
  have h1 : setL o (.slice none 0 0) = setL p (.slice none 0 0) := congrArg Prod.fst h
  have h2 : l = m := congrArg Prod.snd h
  refine ⟨?_, h2.symm⟩
  have := congrArg (fun o => setL o p.lv) h1
  simp only [setL_setL] at this
  exact this.symm
theorem same_core {x y : OC} (h : core x = core y) : sameM x.1 y.1 x.2 y.2 = true := by
  obtain ⟨h1, h2⟩ := core_eq h
  obtain ⟨o, l⟩ := x
  obtain ⟨p, m⟩ := y
  dsimp only at h1 h2 ⊢
  subst h2
  rw [h1]
  unfold sameM simE setL eqB
  simp [eqV_refl]

set_option maxHeartbeats 800000 in
theorem law_same (u v : Value) (l m : List OC) (W0 : World) (hu : OpsV W0 u l) (hv : OpsV W0 v m) (h : l.map core = m.map core) :
    Calls Tryd.prog 18 #[u, v] W0 fun e w' => e = .returned (.bool true) ∧ Below W0.heap.size W0 w' := by
  obtain ⟨a, n, cp, rfl, hI⟩ := hu
  obtain ⟨a2, n2, cp2, rfl, hI2⟩ := hv
  have hm : n ≤ 9223372036854775807 := Nat.le_trans hI.2.1 hI.2.2.1
  have hlen : l.length = m.length := by have := congrArg List.length h; simpa using this
  obtain rfl : n2 = n := by rw [← hI.1, ← hI2.1, hlen]
  have HI := hid hI
  have HI2 := hid hI2
  have HH := hid h
  have HN := hid (show n2 = l.length from hI.1.symm)
  clear hI hI2 h hlen
  obtain ⟨n, hn⟩ : ∃ n, n = n2 := ⟨_, rfl⟩
  subst hn
  go_enter Tryd.func18, Tryd.ntmps18
  go_wp2
  go_loopw [5] (fun i wr => ∃ k : Nat, k ≤ n ∧ i = .int .i64 (k : Nat) ∧ Hid (Below W0.heap.size W0 wr)) (fun i _ => n - (intOf i).toNat)
  case atStart => exact ⟨0, by omega, rfl, hid (Below.refl _ _)⟩
  case round =>
    obtain ⟨k, hk, rfl, HB⟩ := hrel
    by_cases hlt : k < n
    · cases a with
      | none => have := HI.out.none_len; omega
      | some ad =>
        cases a2 with
        | none => have := HI2.out.none_len; omega
        | some ad2 =>
          obtain ⟨o, cl', hx, hok, hcl, hin⟩ := (HI.out.keep HB.out).at k hlt
          obtain ⟨o2, cl2, hx2, hok2, hcl2, hin2⟩ := (HI2.out.keep HB.out).at k hlt
          have hcore : core (o, cl') = core (o2, cl2) := by
            have := congrArg (fun t => t[k]?) HH.out
            simp only [List.getElem?_map, hx, hx2, Option.map_some] at this
            exact Option.some.inj this
          have hsm := same_core hcore
          have HS := hid (show ∀ w, Below wr.heap.size wr w → Calls Tryd.prog 17 #[.agg (oc o), .agg (oc o2)] w fun e w' => e = .returned (.bool true) ∧ Below w.heap.size w w' from fun w hb => by
            have := ref_Same o o2 cl' cl2 w (hcl.keep hb) (hcl2.keep hb)
            rw [show sameM o o2 cl' cl2 = true from hsm] at this
            exact this)
          have HX := hid hin
          have HX2 := hid hin2
          clear hx hx2 hok hok2 hcl hcl2 hin hin2 hcore hsm
          go_upto_region 6 with (fail)
          refine wp_flow (fun _ => none) (Fa.eq (.slice (some ad) n cp) :: Fa.eq (.int .i64 ((k : Nat))) :: Fa.eq (.pointer (some (ad.add (k * 29)))) :: Fa.eq (.agg (oc o)) :: Fa.eq (.slice (some ad2) n cp2) :: Fa.eq (.int .i64 ((k : Nat))) :: Fa.eq (.pointer (some (ad2.add (k * 29)))) :: Fa.eq (.agg (oc o2)) :: Fa.eq (.bool (true)) :: Fa.eq (.bool (!true)) :: []) 27 (by kernel_rfl) rfl (by kernel_rfl) rfl (by kernel_rfl) ?_ ?_ ?_
          · exact fits_plain _ _ rfl
          · refine ⟨?_, ?_, ?_, ?_, ?_, ?_, ?_, ?_, ?_, ?_, trivial⟩
            · exact v_move (.inl rfl) rfl (by kernel_rfl) True.intro (Ev.out (by kernel_rfl) rfl)
            · exact v_move (.inl rfl) rfl (by kernel_rfl) True.intro (Ev.out (by kernel_rfl) rfl)
            · exact v_iaddr (u := .slice (some ad) n cp) (v := .int .i64 ((k : Nat))) (c := .pointer (some (ad.add (k * 29)))) rfl (fun w => idx_op ad n cp k hlt w) rfl (by kernel_rfl) True.intro (Ev.at (i := 0) (by kernel_rfl) (by kernel_rfl) rfl) (Ev.at (i := 1) (by kernel_rfl) (by kernel_rfl) rfl)
            · exact v_load (u := .pointer (some (ad.add (k * 29)))) (c := .agg (oc o)) rfl (fun w hB => ldp_op (OpIn.keep (OpIn.dr HX.out) hB)) rfl (by kernel_rfl) True.intro (Ev.at (i := 2) (by kernel_rfl) (by kernel_rfl) rfl)
            · exact v_move (.inl rfl) rfl (by kernel_rfl) True.intro (Ev.out (by kernel_rfl) rfl)
            · exact v_move (.inl rfl) rfl (by kernel_rfl) True.intro (Ev.out (by kernel_rfl) rfl)
            · exact v_iaddr (u := .slice (some ad2) n cp2) (v := .int .i64 ((k : Nat))) (c := .pointer (some (ad2.add (k * 29)))) rfl (fun w => idx_op ad2 n cp2 k hlt w) rfl (by kernel_rfl) True.intro (Ev.at (i := 4) (by kernel_rfl) (by kernel_rfl) rfl) (Ev.at (i := 5) (by kernel_rfl) (by kernel_rfl) rfl)
            · exact v_load (u := .pointer (some (ad2.add (k * 29)))) (c := .agg (oc o2)) rfl (fun w hB => ldp_op (OpIn.keep (OpIn.dr HX2.out) hB)) rfl (by kernel_rfl) True.intro (Ev.at (i := 6) (by kernel_rfl) (by kernel_rfl) rfl)
            · exact v_call (vs := #[.agg (oc o), .agg (oc o2)]) (c := .bool (true)) rfl (fun args w => rfl) (fun w hB => HS.out w ((below_dr _).trans (hB.mono (below_dr _).size))) rfl (by kernel_rfl) True.intro (ev2 (Ev.at (i := 3) (by kernel_rfl) (by kernel_rfl) rfl) (Ev.at (i := 7) (by kernel_rfl) (by kernel_rfl) rfl))
            · exact v_not rfl rfl (by kernel_rfl) True.intro (Ev.at (i := 8) (by kernel_rfl) (by kernel_rfl) rfl)
          intro _ vs W2 hB2 hf
          have e0 : vs 0 = .slice (some ad) n cp := hf 0 (by decide)
          have e1 : vs 1 = .int .i64 ((k : Nat)) := hf 1 (by decide)
          have e2 : vs 2 = .pointer (some (ad.add (k * 29))) := hf 2 (by decide)
          have e3 : vs 3 = .agg (oc o) := hf 3 (by decide)
          have e4 : vs 4 = .slice (some ad2) n cp2 := hf 4 (by decide)
          have e5 : vs 5 = .int .i64 ((k : Nat)) := hf 5 (by decide)
          have e6 : vs 6 = .pointer (some (ad2.add (k * 29))) := hf 6 (by decide)
          have e7 : vs 7 = .agg (oc o2) := hf 7 (by decide)
          have e8 : vs 8 = .bool (true) := hf 8 (by decide)
          have e9 : vs 9 = .bool (!true) := hf 9 (by decide)
          simp only [fill, List.setIfInBounds_toArray, List.set_cons_zero, List.set_cons_succ, e0, e1, e2, e3, e4, e5, e6, e7, e8, e9]
          clear e0 e1 e2 e3 e4 e5 e6 e7 e8 e9
          have HB2 := hid (below_next HB.out hB2)
          clear hB2 hf
          go_wp2
          go_roundw
          case rel => exact ⟨k + 1, by omega, by go_num, HB2⟩
          case measure => exact meas1 hlt
    · obtain rfl : k = n := by omega
      go_wp2
      go_ret
      exact ⟨rfl, HB.out⟩
end Go.Proofs.YtagdapmnghnphaaDoor.V

namespace Go.Proofs.YtagdapmnghnphaaDoor.V
set_option linter.unusedVariables false
set_option linter.unusedSimpArgs false
set_option maxRecDepth 100000
open Go Go.RowKit Go.Maps Wire

def gen (r n : Nat) (dep : Vec) (tm : Nat) : OpM := ⟨r, n, dep, tm, 1, r, n, 0, 0, 0, 0, 0, 0, 0, 0, 0, 0, 0, 0, 0, 0, .slice none 0 0⟩
theorem built_gen (r n : Nat) (dep : Vec) (tm : Nat) : Tryd.prog.built 34 [(0, .agg #[.int .u8 (r : Int), .int .u32 (n : Int)]), (1, .agg (vc dep)), (2, .int .u64 (tm : Int)), (3, .int .u32 1), (4, .agg #[.int .u8 (r : Int), .int .u32 (n : Int)])] = some (oc (gen r n dep tm)) := by kernel_rfl
theorem build_gen {ops : Array Oper} {rest : List Oper} {c : Oper} {a : Act} {w : World} {Q : Exit → Act → World → Prop} (hg : c.guard = none) (x0 x1 x2 x4 : Operand) (ho : c.op = .build 34 #[(0, x0), (1, x1), (2, x2), (3, .const (.int .u32 1)), (4, x4)])
    (r n : Nat) (dep : Vec) (tm : Nat) (h0 : a.eval x0 = .agg #[.int .u8 (r : Int), .int .u32 (n : Int)]) (h1 : a.eval x1 = .agg (vc dep)) (h2 : a.eval x2 = .int .u64 (tm : Int)) (h4 : a.eval x4 = .agg #[.int .u8 (r : Int), .int .u32 (n : Int)])
    (h : wpList Tryd.prog ops Q rest (a.put c.dst (.agg (oc (gen r n dep tm)))) w) : wpList Tryd.prog ops Q (c :: rest) a w :=
  wpList_plain hg fun K hK => by
    have hr := run_build (P := Tryd.prog) w 34 #[(0, .agg #[.int .u8 (r : Int), .int .u32 (n : Int)]), (1, .agg (vc dep)), (2, .int .u64 (tm : Int)), (3, .int .u32 1), (4, .agg #[.int .u8 (r : Int), .int .u32 (n : Int)])] _ (built_gen r n dep tm)
    have hc : a.eval (.const (.int .u32 1)) = .int .u32 1 := rfl
    unfold Oper.wp execOp
    simp only [ho, List.map_toArray, List.map_cons, List.map_nil, h0, h1, h2, h4, hc, Sem.run_bind, Sem.run_pure, Result.andThen_ok, hr]
    exact hK _ _ h
set_option maxHeartbeats 800000 in
theorem law_genesis (r n : Nat) (dep : Vec) (tm : Nat) (W0 : World) :
    Calls Tryd.prog 27 #[.int .u8 (r : Int), .int .u32 (n : Int), .agg (vc dep), .int .u64 (tm : Int)] W0 fun e w' => e = .returned (.agg (oc (gen r n dep tm))) ∧ Below W0.heap.size W0 w' := by
  go_enter Tryd.func27, Tryd.ntmps27
  go_upto_region 1 with (fail)
  refine gen_code (fun W => W.heap[W0.heap.size]? = some (.cells (vc dep) 25 (0, 0)) ∧ OpAt W (W0.heap.size + 1) zeroO ∧ Below W0.heap.size W0 W ∧ W.heap.size = W0.heap.size + 2) ⟨heap_al (heap_alloc_last' _ _) _, last2 W0 _ _, below_al2 W0 _ _, by simp⟩ ?_
  rintro W ⟨h1, h2, h3, h4⟩
  have HW := hid (And.intro h1 (And.intro h2 h3))
  clear h1 h2 h3
  go_upto_region 2 with (fail)
  obtain ⟨W2, hW2⟩ : ∃ W2, W2 = W.alloc (.cells #[.int .u8 (r : Int), .int .u32 (n : Int)] 30) := ⟨_, rfl⟩
  rw [← hW2]
  have hd : W2.heap[W0.heap.size + 2]? = some (.cells (dbox (r, n)) 30 (0, 0)) := by rw [hW2, ← h4]; exact heap_alloc_last' _ _
  have HV := hid (show W2.heap[W0.heap.size]? = some (.cells (vc dep) 25 (0, 0)) from hW2 ▸ heap_al HW.out.1 _)
  have HO := hid (show OpAt W2 (W0.heap.size + 1) zeroO from hW2 ▸ OpAt.keep HW.out.2.1 (below_al _ _))
  have HB := hid (show Below W0.heap.size W0 W2 from hW2 ▸ HW.out.2.2.trans ((below_al W _).mono (by omega)))
  have c0 : W2.cell? ⟨W0.heap.size + 2, 0, none⟩ = some (.int .u8 (r : Int)) := (cell_of_heap hd).trans rfl
  have c1 : W2.cell? ⟨W0.heap.size + 2, 1, none⟩ = some (.int .u32 (n : Int)) := (cell_of_heap hd).trans rfl
  clear hW2 HW hd h4
  obtain ⟨b0, hb0⟩ : ∃ b, b = W0.heap.size := ⟨_, rfl⟩
  obtain ⟨b1, hb1⟩ : ∃ b, b = W0.heap.size + 1 := ⟨_, rfl⟩
  obtain ⟨b2, hb2⟩ : ∃ b, b = W0.heap.size + 2 := ⟨_, rfl⟩
  rw [← hb0] at HV
  rw [← hb1] at HO
  rw [← hb2] at c0 c1
  rw [← hb2, ← hb1, ← hb0]
  have hle : W0.heap.size ≤ b1 := by omega
  clear hb0 hb1 hb2
  go_wp2_with (first
    | (refine wpList_load_row rfl 25 (.tmp 6) rfl b0 rfl _ _ _ _ HV.out Tryd.underlying25 rfl (sizeV _) ?_)
    | (refine build_gen rfl (.tmp 13) (.tmp 14) (.tmp 15) (.tmp 16) rfl r n dep tm rfl rfl rfl rfl ?_)
    | (refine wpList_store_row rfl 34 (.tmp 8) (.tmp 17) rfl b1 (oc (gen r n dep tm)) rfl rfl 34 (oc zeroO) HO.out (opSize _) rfl (oneO _ rfl) ?_))
  simp only [Act.put, List.setIfInBounds_toArray, List.set_cons_zero, List.set_cons_succ]
  refine bodyPost_ret (results_cell_row rfl _ _ _ _ _ _ _ rfl (setRow_heap _ _ _ _ _ _ HO.out) Tryd.underlying34 rfl (opSize _)) rfl ?_
  exact ⟨rfl, Below.setRow HB.out hle _⟩

/-! ### Rows of two and three -/
theorem fill_op2 (o p : OpM) : Instr.fill (fun i => some (i * 29, 29)) ((Array.range (2 * 29)).map ((Value.agg (oc zeroO)).cells[· % (Value.agg (oc zeroO)).cells.size]!)) [(0, .agg (oc o)), (1, .agg (oc p))] = some (oc o ++ oc p) := by kernel_rfl
theorem fill_op3 (o p q : OpM) : Instr.fill (fun i => some (i * 29, 29)) ((Array.range (3 * 29)).map ((Value.agg (oc zeroO)).cells[· % (Value.agg (oc zeroO)).cells.size]!)) [(0, .agg (oc o)), (1, .agg (oc p)), (2, .agg (oc q))] = some (oc o ++ oc p ++ oc q) := by kernel_rfl
theorem gen_list {ops : Array Oper} {rest : List Oper} {a : Act} {w : World} {Q : Exit → Act → World → Prop} (R : World → Prop) (hR : R w) (h : ∀ W, R W → wpList Tryd.prog ops Q rest a W) : wpList Tryd.prog ops Q rest a w := h w hR
theorem build_op2 {ops : Array Oper} {rest : List Oper} {c : Oper} {a : Act} {w : World} {Q : Exit → Act → World → Prop} (hw : Region.wanted c (yielded ops a.tmps) = true) (x y : Operand) (ho : c.op = .buildSlice 22 2 #[(0, x), (1, y)])
    (o p : OpM) (hx : a.eval x = .agg (oc o)) (hy : a.eval y = .agg (oc p)) (h : wpList Tryd.prog ops Q rest (a.put c.dst (.slice (some ⟨w.heap.size, 0, none⟩) 2 2)) (w.alloc (.cells (oc o ++ oc p) 34))) : wpList Tryd.prog ops Q (c :: rest) a w :=
  BigFrame.wpList_want hw fun K hK => by
    obtain ⟨i0, hi, hz0, hz1, hz2⟩ := info_parts infoOp
    have hr := run_buildSlice (P := Tryd.prog) w 22 34 2 #[(0, .agg (oc o)), (1, .agg (oc p))] (oc o ++ oc p) i0 _ Tryd.underlying22 hi hz0 (by rw [hz1]; omega) (by rw [hz1]; omega) (by rw [hz1]; exact fill_op2 o p)
    unfold Oper.wp execOp
    simp only [ho, List.map_toArray, List.map_cons, List.map_nil, hx, hy, Sem.run_bind, Sem.run_pure, Result.andThen_ok, hr]
    exact hK _ _ h
theorem build_op3 {ops : Array Oper} {rest : List Oper} {c : Oper} {a : Act} {w : World} {Q : Exit → Act → World → Prop} (hw : Region.wanted c (yielded ops a.tmps) = true) (x y z : Operand) (ho : c.op = .buildSlice 22 3 #[(0, x), (1, y), (2, z)])
    (o p q : OpM) (hx : a.eval x = .agg (oc o)) (hy : a.eval y = .agg (oc p)) (hz : a.eval z = .agg (oc q)) (h : wpList Tryd.prog ops Q rest (a.put c.dst (.slice (some ⟨w.heap.size, 0, none⟩) 3 3)) (w.alloc (.cells (oc o ++ oc p ++ oc q) 34))) : wpList Tryd.prog ops Q (c :: rest) a w :=
  BigFrame.wpList_want hw fun K hK => by
    obtain ⟨i0, hi, hz0, hz1, hz2⟩ := info_parts infoOp
    have hr := run_buildSlice (P := Tryd.prog) w 22 34 3 #[(0, .agg (oc o)), (1, .agg (oc p)), (2, .agg (oc q))] (oc o ++ oc p ++ oc q) i0 _ Tryd.underlying22 hi hz0 (by rw [hz1]; omega) (by rw [hz1]; omega) (by rw [hz1]; exact fill_op3 o p q)
    unfold Oper.wp execOp
    simp only [ho, List.map_toArray, List.map_cons, List.map_nil, hx, hy, hz, Sem.run_bind, Sem.run_pure, Result.andThen_ok, hr]
    exact hK _ _ h
/-- A row laid at once reads as these operations. -/
theorem row_opsV {w : World} {g : Nat} {l : List OC} {cs : Array Value} (hg : w.heap[g]? = some (.cells cs 34 (0, 0))) (hc : cs.toList = flatO l) (hl : l.length ≤ 100) (hok : ∀ x ∈ l, okO x.1 ∧ ClaimsB 0 w x.1.lv x.2) : OpsV w (.slice (some ⟨g, 0, none⟩) l.length l.length) l := by
  refine OwnO.opsV (B := 0) ⟨⟨by rw [flatO_length], .inr ⟨g, l.length, cs, rfl, Nat.zero_le _, hg, Nat.le_refl _, by unfold maxLen; omega, ?_, ?_⟩⟩, hok⟩
  · rw [← Array.length_toList, hc, flatO_length]
  · rw [hc, List.take_of_length_le (by rw [flatO_length]; exact Nat.le_refl _)]
end Go.Proofs.YtagdapmnghnphaaDoor.V

namespace Go.Proofs.YtagdapmnghnphaaDoor.V
set_option linter.unusedVariables false
set_option linter.unusedSimpArgs false
set_option maxRecDepth 100000
open Go Go.RowKit Go.Maps Wire

def z8 : Vec := fun _ => 0
def oneone : Vec := fun i => if i < 2 then 1 else 0
def two0 : Vec := fun i => if i = 0 then 2 else 0
def hA : OC := (gen 0 1 z8 1, [])
def hB : OC := (gen 1 1 z8 1, [])
def hC : OC := (gen 0 2 oneone 2, [])
theorem h_cmp : cmpM hA hB = -1 := cmpM_lt (by unfold ltO; exact .inr ⟨rfl, .inl (by decide)⟩)
theorem h_ltAB : ltO hA hB := .inr ⟨rfl, .inl (by decide)⟩
theorem h_ltAC : ltO hA hC := .inl (by decide)
theorem h_ltBC : ltO hB hC := .inl (by decide)
theorem h_bef : befB hA hC = true := by decide
theorem h_bes : besO hA hB = true := by decide
theorem h_besA : besO hA hA = false := by decide
theorem h_sort : SortOf [hC, hB, hA] [hA, hB, hC] := by
  refine ⟨?_, fun x => ?_⟩
  · simp [h_ltAB, h_ltAC, h_ltBC]
  · have e1 : (dt hA == dt hA) = true := by decide
    have e2 : (dt hB == dt hA) = false := by decide
    have e3 : (dt hC == dt hA) = false := by decide
    have e4 : (dt hA == dt hB) = false := by decide
    have e5 : (dt hC == dt hB) = false := by decide
    constructor
    · intro h
      rcases List.mem_cons.1 h with rfl | h
      · simp [List.find?_cons, e2, e3]
      · rcases List.mem_cons.1 h with rfl | h
        · simp [List.find?_cons, e5]
        · obtain rfl := List.mem_singleton.1 h
          simp [List.find?_cons]
    · intro h
      have := List.mem_of_find?_eq_some h
      simp only [List.mem_cons, List.not_mem_nil, or_false] at this ⊢
      rcases this with h | h | h <;> simp [h]
theorem h_known : knownM [hA, hC] = two0 := by
  funext r
  unfold knownM two0
  by_cases h : r < 8
  · rw [if_pos h]
    match r, h with
    | 0, _ => decide
    | 1, _ => decide
    | 2, _ => decide
    | 3, _ => decide
    | 4, _ => decide
    | 5, _ => decide
    | 6, _ => decide
    | 7, _ => decide
  · rw [if_neg h, if_neg (by omega)]
theorem h_ok2A : checkM hA.1 hA.2 2 = 0 := by rfl
theorem h_ok2B : checkM hB.1 hB.2 2 = 0 := by rfl
theorem h_ok2C : checkM hC.1 hC.2 2 = 0 := by rfl
theorem h_ok1B : checkM hB.1 hB.2 1 ≠ 0 := by decide
theorem h_fA (l : List OC) : Follows l hA := fun r h1 h2 => absurd rfl h2
theorem h_fB (l : List OC) : Follows l hB := fun r h1 h2 => absurd rfl h2
theorem h_hist : histM 2 [hA, hB, hC] = 0 := by
  unfold histM
  rw [if_neg (by omega), if_pos, if_pos]
  · refine ⟨by decide, fun x hx => ?_⟩
    simp only [List.mem_cons, List.not_mem_nil, or_false] at hx
    rcases hx with rfl | rfl | rfl
    · exact h_fA _
    · exact h_fB _
    · intro r h1 h2
      match r, h1 with
      | 0, _ => exact ⟨hA, by simp, rfl, by decide, by decide⟩
      | 1, _ => exact ⟨hB, by simp, rfl, by decide, by decide⟩
      | 2, _ => exact absurd rfl h2
      | 3, _ => exact absurd rfl h2
      | 4, _ => exact absurd rfl h2
      | 5, _ => exact absurd rfl h2
      | 6, _ => exact absurd rfl h2
      | 7, _ => exact absurd rfl h2
  · intro x hx
    simp only [List.mem_cons, List.not_mem_nil, or_false] at hx
    rcases hx with rfl | rfl | rfl
    · exact h_ok2A
    · exact h_ok2B
    · exact h_ok2C
theorem h_histCB : histM 2 [hC, hB] = 9 := by
  unfold histM
  rw [if_neg (by omega), if_pos, if_neg]
  · rintro ⟨_, hf⟩
    obtain ⟨y, hy, h1, _⟩ := hf hC (by simp) 0 (by omega) (by decide)
    simp only [List.mem_cons, List.not_mem_nil, or_false] at hy
    rcases hy with rfl | rfl
    · exact absurd h1 (by decide)
    · exact absurd h1 (by decide)
  · intro x hx
    simp only [List.mem_cons, List.not_mem_nil, or_false] at hx
    rcases hx with rfl | rfl
    · exact h_ok2C
    · exact h_ok2B
theorem h_histAC : histM 2 [hA, hC] = 9 := by
  unfold histM
  rw [if_neg (by omega), if_pos, if_neg]
  · rintro ⟨_, hf⟩
    obtain ⟨y, hy, h1, _⟩ := hf hC (by simp) 1 (by omega) (by decide)
    simp only [List.mem_cons, List.not_mem_nil, or_false] at hy
    rcases hy with rfl | rfl
    · exact absurd h1 (by decide)
    · exact absurd h1 (by decide)
  · intro x hx
    simp only [List.mem_cons, List.not_mem_nil, or_false] at hx
    rcases hx with rfl | rfl
    · exact h_ok2A
    · exact h_ok2C
theorem h_hist1 : histM 1 [hA, hB, hC] = 5 := by
  unfold histM
  rw [if_neg (by omega), if_neg]
  intro h
  exact h_ok1B (h hB (by simp))
theorem h_okz : okV z8 := ⟨fun i => by unfold z8; omega, fun i _ => rfl⟩
theorem h_okA : okO hA.1 := by constructor <;> first | exact h_okz | decide
theorem h_okB : okO hB.1 := by constructor <;> first | exact h_okz | decide
theorem h_okC : okO hC.1 := by
  constructor <;> first | decide | exact ⟨fun i => by show oneone i < _; unfold oneone; split <;> omega, fun i hi => by show oneone i = 0; unfold oneone; rw [if_neg (by omega)]⟩
end Go.Proofs.YtagdapmnghnphaaDoor.V

namespace Go.Proofs.YtagdapmnghnphaaDoor.V
set_option linter.unusedVariables false
set_option linter.unusedSimpArgs false
set_option maxRecDepth 100000
open Go Go.RowKit Go.Maps Wire
section
variable {ops : Array Oper} {Q : Exit → Act → World → Prop} {tgt : Nat → Option Nat} {F : Nat → Fa} {a0 : Act} {w0 : World} {k : Nat} {op : Oper}

/-- A value that is known by what holds of it. -/
theorem flow_depv {P : Program} (p : Value → World → Prop) (hF : F k = .dep p) (hd : op.dst.isSome = true) (hg : guardOK ops F op)
    (h : ∀ o a w, BaseA ops a0 a → Below w0.heap.size w0 w → (∀ i, (needOf op).testBit i = true → (F i).holds w0.heap.size i o (valAt ops a i) w) →
      ∃ c w', (execOp a.eval op).run P w = .ok (.value c) w' ∧ Below w.heap.size w w' ∧ p c w') : StepOK P ops Q tgt F a0 w0 k op := by
  intro o a w hb hB hfr hn
  refine .inl ⟨wanted_of hg hn, fun K hK => ?_⟩
  unfold Oper.wp
  obtain ⟨c, w', hr, hbw, hp⟩ := h o a w hb hB hn
  rw [hr]
  refine hK c w' _ (Stp.of_below hbw) ?_
  rw [hF]
  obtain ⟨s, hs⟩ := Option.isSome_iff_exists.1 hd
  simpa [Fa.holds, vOf, hs] using hp
theorem flow_calld {P : Program} (p : Value → World → Prop) (hF : F k = .dep p) (hd : op.dst.isSome = true) (hg : guardOK ops F op)
    (h : ∀ o a w, BaseA ops a0 a → Below w0.heap.size w0 w → (∀ i, (needOf op).testBit i = true → (F i).holds w0.heap.size i o (valAt ops a i) w) →
      ∃ f args, (execOp a.eval op).run P w = .ok (.enter f args) w ∧ Calls P f args w (fun e w' => ∃ c, e = .returned c ∧ p c w' ∧ Below w.heap.size w w')) : StepOK P ops Q tgt F a0 w0 k op := by
  intro o a w hb hB hfr hn
  refine .inl ⟨wanted_of hg hn, fun K hK => ?_⟩
  unfold Oper.wp
  obtain ⟨f, args, hr, hc⟩ := h o a w hb hB hn
  rw [hr, Oper.upon_enter]
  refine hc.mono ?_
  rintro e w' ⟨c, rfl, hp, hbw⟩
  refine hK c w' _ (Stp.of_below hbw) ?_
  rw [hF]
  obtain ⟨s, hs⟩ := Option.isSome_iff_exists.1 hd
  simpa [Fa.holds, vOf, hs] using hp
/-- What holds of an operand when its inputs have come up. -/
def EvD (ops : Array Oper) (F : Nat → Fa) (a0 : Act) (w0 : World) (op : Oper) (x : Operand) (p : Value → World → Prop) : Prop :=
  ∀ (o : Nat → Nat) (a : Act) (w : World), BaseA ops a0 a → Below w0.heap.size w0 w → (∀ i, (needOf op).testBit i = true → (F i).holds w0.heap.size i o (valAt ops a i) w) → p (a.eval x) w
theorem EvD.at {i s : Nat} {p : Value → World → Prop} (h : dstAt ops i = some s) (n : (needOf op).testBit i = true) (f : F i = .dep p) : EvD ops F a0 w0 op (.tmp s) p := fun o a w _ _ hn => by
  have := hn i n
  rw [f] at this
  rw [eval_at h]
  exact this
theorem EvD.ev {x : Operand} {v : Value} {p : Value → World → Prop} (h : Ev ops F a0 w0 op x v) (hp : ∀ w, Below w0.heap.size w0 w → p v w) : EvD ops F a0 w0 op x p := fun o a w hb hB hn => by
  rw [h o a w hb hn]
  exact hp w hB
theorem call_run {f : Nat} {xs : Array Operand} {ats : Array Nat} (ho : op.op = .call { callee := .value (.func f), args := xs, argTypes := ats })
    (hfn : ∀ (args : Array Value) (w : World), (callFunc f args).run Tryd.prog w = .ok (.enter f args) w) (a : Act) (w : World) : (execOp a.eval op).run Tryd.prog w = .ok (.enter f (xs.map a.eval)) w := by
  rw [show execOp a.eval op = callFunc f (#[] ++ xs.map a.eval ++ #[]) from by unfold execOp; rw [ho]; rfl]
  simp only [Array.empty_append, Array.append_empty]
  exact hfn _ w
/-- A call with one value known by what holds of it, and a constant result. -/
theorem v_calle1 {f : Nat} {x : Operand} {ats : Array Nat} {c : Value} {p : Value → World → Prop} (ho : op.op = .call { callee := .value (.func f), args := #[x], argTypes := ats })
    (hfn : ∀ (args : Array Value) (w : World), (callFunc f args).run Tryd.prog w = .ok (.enter f args) w)
    (hc : ∀ v w, Below w0.heap.size w0 w → p v w → Calls Tryd.prog f #[v] w fun e w' => e = .returned c ∧ Below w.heap.size w w') (hF : F k = .eq c) (hd : op.dst.isSome = true) (hg : guardOK ops F op)
    (h1 : EvD ops F a0 w0 op x p) : StepOK Tryd.prog ops Q tgt F a0 w0 k op :=
  flow_call _ hF hd hg (fun o a w hb hB hn => ⟨f, _, call_run ho hfn a w, by simpa using hc _ w hB (h1 o a w hb hB hn)⟩)
theorem v_calle1c {f : Nat} {x : Operand} {ats : Array Nat} {c u : Value} {p : Value → World → Prop} {y : Operand} (ho : op.op = .call { callee := .value (.func f), args := #[x, y], argTypes := ats })
    (hfn : ∀ (args : Array Value) (w : World), (callFunc f args).run Tryd.prog w = .ok (.enter f args) w)
    (hc : ∀ v w, Below w0.heap.size w0 w → p v w → Calls Tryd.prog f #[v, u] w fun e w' => e = .returned c ∧ Below w.heap.size w w') (hF : F k = .eq c) (hd : op.dst.isSome = true) (hg : guardOK ops F op)
    (h1 : EvD ops F a0 w0 op x p) (h2 : Ev ops F a0 w0 op y u) : StepOK Tryd.prog ops Q tgt F a0 w0 k op :=
  flow_call _ hF hd hg (fun o a w hb hB hn => ⟨f, _, call_run ho hfn a w, by simpa [h2 o a w hb hn] using hc _ w hB (h1 o a w hb hB hn)⟩)
theorem v_calle2 {f : Nat} {x y : Operand} {ats : Array Nat} {c : Value} {p q : Value → World → Prop} (ho : op.op = .call { callee := .value (.func f), args := #[x, y], argTypes := ats })
    (hfn : ∀ (args : Array Value) (w : World), (callFunc f args).run Tryd.prog w = .ok (.enter f args) w)
    (hc : ∀ v u w, Below w0.heap.size w0 w → p v w → q u w → Calls Tryd.prog f #[v, u] w fun e w' => e = .returned c ∧ Below w.heap.size w w') (hF : F k = .eq c) (hd : op.dst.isSome = true) (hg : guardOK ops F op)
    (h1 : EvD ops F a0 w0 op x p) (h2 : EvD ops F a0 w0 op y q) : StepOK Tryd.prog ops Q tgt F a0 w0 k op :=
  flow_call _ hF hd hg (fun o a w hb hB hn => ⟨f, _, call_run ho hfn a w, by simpa using hc _ _ w hB (h1 o a w hb hB hn) (h2 o a w hb hB hn)⟩)
theorem v_calld1 {f : Nat} {x : Operand} {ats : Array Nat} {r p : Value → World → Prop} (ho : op.op = .call { callee := .value (.func f), args := #[x], argTypes := ats })
    (hfn : ∀ (args : Array Value) (w : World), (callFunc f args).run Tryd.prog w = .ok (.enter f args) w)
    (hc : ∀ v w, Below w0.heap.size w0 w → p v w → Calls Tryd.prog f #[v] w fun e w' => ∃ c, e = .returned c ∧ r c w' ∧ Below w.heap.size w w') (hF : F k = .dep r) (hd : op.dst.isSome = true) (hg : guardOK ops F op)
    (h1 : EvD ops F a0 w0 op x p) : StepOK Tryd.prog ops Q tgt F a0 w0 k op :=
  flow_calld _ hF hd hg (fun o a w hb hB hn => ⟨f, _, call_run ho hfn a w, by simpa using hc _ w hB (h1 o a w hb hB hn)⟩)
theorem v_row3 {x y z : Operand} {p q r : OC} (ho : op.op = .buildSlice 22 3 #[(0, x), (1, y), (2, z)]) (hp : okO p.1 ∧ p.1.lv = .slice none 0 0 ∧ p.2 = []) (hq : okO q.1 ∧ q.1.lv = .slice none 0 0 ∧ q.2 = []) (hr : okO r.1 ∧ r.1.lv = .slice none 0 0 ∧ r.2 = [])
    (hF : F k = .dep (fun v w => OpsV w v [p, q, r])) (hd : op.dst.isSome = true) (hg : guardOK ops F op) (h1 : Ev ops F a0 w0 op x (.agg (oc p.1))) (h2 : Ev ops F a0 w0 op y (.agg (oc q.1))) (h3 : Ev ops F a0 w0 op z (.agg (oc r.1))) : StepOK Tryd.prog ops Q tgt F a0 w0 k op :=
  flow_depv _ hF hd hg (fun o a w hb hB hn => by
    obtain ⟨i0, hi, hz0, hz1, hz2⟩ := info_parts infoOp
    have hr' := run_buildSlice (P := Tryd.prog) w 22 34 3 #[(0, .agg (oc p.1)), (1, .agg (oc q.1)), (2, .agg (oc r.1))] (oc p.1 ++ oc q.1 ++ oc r.1) i0 _ Tryd.underlying22 hi hz0 (by rw [hz1]; omega) (by rw [hz1]; omega) (by rw [hz1]; exact fill_op3 p.1 q.1 r.1)
    refine ⟨.slice (some ⟨w.heap.size, 0, none⟩) 3 3, w.alloc (.cells (oc p.1 ++ oc q.1 ++ oc r.1) 34), ?_, below_al _ _, ?_⟩
    · unfold execOp
      simp only [ho, List.map_toArray, List.map_cons, List.map_nil, h1 o a w hb hn, h2 o a w hb hn, h3 o a w hb hn, Sem.run_bind, Sem.run_pure, Result.andThen_ok, hr']
    · refine row_opsV (l := [p, q, r]) (heap_alloc_last' _ _) (by simp [flatO]) (by simp) (fun t ht => ?_)
      simp only [List.mem_cons, List.not_mem_nil, or_false] at ht
      rcases ht with rfl | rfl | rfl
      · exact ⟨hp.1, by rw [hp.2.1, hp.2.2]; exact ClaimsB.nil _ _⟩
      · exact ⟨hq.1, by rw [hq.2.1, hq.2.2]; exact ClaimsB.nil _ _⟩
      · exact ⟨hr.1, by rw [hr.2.1, hr.2.2]; exact ClaimsB.nil _ _⟩)
theorem v_row2 {x y : Operand} {p q : OC} (ho : op.op = .buildSlice 22 2 #[(0, x), (1, y)]) (hp : okO p.1 ∧ p.1.lv = .slice none 0 0 ∧ p.2 = []) (hq : okO q.1 ∧ q.1.lv = .slice none 0 0 ∧ q.2 = [])
    (hF : F k = .dep (fun v w => OpsV w v [p, q])) (hd : op.dst.isSome = true) (hg : guardOK ops F op) (h1 : Ev ops F a0 w0 op x (.agg (oc p.1))) (h2 : Ev ops F a0 w0 op y (.agg (oc q.1))) : StepOK Tryd.prog ops Q tgt F a0 w0 k op :=
  flow_depv _ hF hd hg (fun o a w hb hB hn => by
    obtain ⟨i0, hi, hz0, hz1, hz2⟩ := info_parts infoOp
    have hr' := run_buildSlice (P := Tryd.prog) w 22 34 2 #[(0, .agg (oc p.1)), (1, .agg (oc q.1))] (oc p.1 ++ oc q.1) i0 _ Tryd.underlying22 hi hz0 (by rw [hz1]; omega) (by rw [hz1]; omega) (by rw [hz1]; exact fill_op2 p.1 q.1)
    refine ⟨.slice (some ⟨w.heap.size, 0, none⟩) 2 2, w.alloc (.cells (oc p.1 ++ oc q.1) 34), ?_, below_al _ _, ?_⟩
    · unfold execOp
      simp only [ho, List.map_toArray, List.map_cons, List.map_nil, h1 o a w hb hn, h2 o a w hb hn, Sem.run_bind, Sem.run_pure, Result.andThen_ok, hr']
    · refine row_opsV (l := [p, q]) (heap_alloc_last' _ _) (by simp [flatO]) (by simp) (fun t ht => ?_)
      simp only [List.mem_cons, List.not_mem_nil, or_false] at ht
      rcases ht with rfl | rfl
      · exact ⟨hp.1, by rw [hp.2.1, hp.2.2]; exact ClaimsB.nil _ _⟩
      · exact ⟨hq.1, by rw [hq.2.1, hq.2.2]; exact ClaimsB.nil _ _⟩)
def v2lit : Value := .agg #[.int .u32 2, .int .u32 0, .int .u32 0, .int .u32 0, .int .u32 0, .int .u32 0, .int .u32 0, .int .u32 0]
theorem built_2 : Tryd.prog.built 25 [(0, .int .u32 2)] = some #[.int .u32 2, .int .u32 0, .int .u32 0, .int .u32 0, .int .u32 0, .int .u32 0, .int .u32 0, .int .u32 0] := by kernel_rfl
theorem v_build2 (ho : op.op = .build 25 #[(0, .const (.int .u32 2))]) (hF : F k = .eq v2lit) (hd : op.dst.isSome = true) (hg : guardOK ops F op) : StepOK Tryd.prog ops Q tgt F a0 w0 k op :=
  flow_val _ hF hd hg (fun o a w hb hB hn => by
    have hr := run_build (P := Tryd.prog) w 25 #[(0, .int .u32 2)] _ built_2
    have hc : a.eval (.const (.int .u32 2)) = .int .u32 2 := rfl
    unfold execOp
    simp only [ho, List.map_toArray, List.map_cons, List.map_nil, hc, Sem.run_bind, Sem.run_pure, Result.andThen_ok, hr]
    rfl)
theorem eq_2lit (w : World) : (do eqGuard .eql 25 (Operand.tmp 0) (Operand.tmp 0) v2lit v2lit; binOp .eql 25 v2lit v2lit : Sem Value).run Tryd.prog w = .ok (.bool true) w := by
  have h : (Op.equalIn 10000 25 v2lit v2lit).run Tryd.prog w = .ok true w := by
    have h := eq_vec two0 two0 w
    rw [eqV_refl] at h
    exact h
  unfold v2lit at *
  go_simp
end
end Go.Proofs.YtagdapmnghnphaaDoor.V
