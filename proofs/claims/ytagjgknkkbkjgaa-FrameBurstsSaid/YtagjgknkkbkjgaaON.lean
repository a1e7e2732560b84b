/-
  Are two operations the same? Rows of claims compared; op.Same.
-/
import Derived.Test.YtagjgknkkbkjgaaOF
namespace Go.Proofs.Ytagjgknkkbkjgaa.V
set_option linter.unusedVariables false
set_option linter.unusedSimpArgs false
set_option maxRecDepth 100000
open Go Go.RowKit Go.Maps

set_option maxRecDepth 100000
set_option linter.unusedVariables false
set_option linter.unusedSimpArgs false
theorem eq_cellsN (k : Nat) (r n s m : Int) (w : World) : (Op.equalIn (k + 2) 46 (.agg #[.int .u8 r, .int .u32 n]) (.agg #[.int .u8 s, .int .u32 m])).run Try.prog w = .ok (r == s && n == m) w := by
  have hf : Try.prog.underlying 46 = some (.struct (Try.prog.fieldsOf 46)) := by simp [Program.fieldsOf, Try.underlying46]
  have hp : Try.prog.stoodInHeld 46 = false := by kernel_rfl
  have u1 := Try.underlying5
  have u2 := Try.underlying22
  rw [run_equalIn_struct w (k + 1) 46 _ _ hf hp]
  simp only [Program.fieldsOf, Try.underlying46, Op.eqFields]
  go_simp
  by_cases h0 : r = s
  · by_cases h1 : n = m <;> simp [h0, h1]
  · simp [h0]
theorem eq_claim (r n s m r' n' s' m' : Int) (w : World) : (Op.equalIn 10000 92 (.agg #[.int .u8 r, .int .u32 n, .int .u8 s, .int .u32 m]) (.agg #[.int .u8 r', .int .u32 n', .int .u8 s', .int .u32 m'])).run Try.prog w = .ok ((r == r' && n == n') && (s == s' && m == m')) w := by
  have hf : Try.prog.underlying 92 = some (.struct (Try.prog.fieldsOf 92)) := by simp [Program.fieldsOf, Try.underlying92]
  have hp : Try.prog.stoodInHeld 92 = false := by kernel_rfl
  rw [show (10000 : Nat) = 9999 + 1 from rfl, run_equalIn_struct w 9999 92 _ _ hf hp]
  simp only [Program.fieldsOf, Try.underlying92, Op.eqFields]
  go_simp
  by_cases h0 : r = r'
  · by_cases h1 : n = n'
    · by_cases h2 : s = s'
      · by_cases h3 : m = m' <;> simp [h0, h1, h2, h3]
      · simp [h0, h1, h2]
    · simp [h0, h1]
  · simp [h0]
theorem run_neqC (x y : Claim) (w : World) : (binOp .neq 92 (.agg #[.int .u8 (x.1.1 : Int), .int .u32 (x.1.2 : Int), .int .u8 (x.2.1 : Int), .int .u32 (x.2.2 : Int)]) (.agg #[.int .u8 (y.1.1 : Int), .int .u32 (y.1.2 : Int), .int .u8 (y.2.1 : Int), .int .u32 (y.2.2 : Int)])).run Try.prog w = .ok (.bool (!decide (x = y))) w := by
  have h := eq_claim x.1.1 x.1.2 x.2.1 x.2.2 y.1.1 y.1.2 y.2.1 y.2.2 w
  have e : (((x.1.1 : Int) == (y.1.1 : Int) && (x.1.2 : Int) == (y.1.2 : Int)) && ((x.2.1 : Int) == (y.2.1 : Int) && (x.2.2 : Int) == (y.2.2 : Int))) = decide (x = y) := by
    rw [Bool.eq_iff_iff]
    simp only [Bool.and_eq_true, beq_iff_eq, decide_eq_true_eq, Int.natCast_inj]
    exact ⟨fun h => Prod.ext (Prod.ext h.1.1 h.1.2) (Prod.ext h.2.1 h.2.2), fun h => by rw [h]; exact ⟨⟨rfl, rfl⟩, rfl, rfl⟩⟩
  rw [e] at h
  simp only [binOp]
  simp [Op.equal, Op.maxDepth]
  rw [h]; rfl

theorem not_eq_at {l m : List Claim} {k : Nat} {x y : Claim} (hx : l[k]? = some x) (hy : m[k]? = some y) (h : x ≠ y) : l ≠ m := by
  intro e; subst e; rw [hx] at hy; exact h (Option.some.inj hy)
theorem eq_of_at {l m : List Claim} {n : Nat} (h1 : l.length = n) (h2 : m.length = n) (h : ∀ j, j < n → l[j]? = m[j]?) : l = m := by
  apply List.ext_getElem?
  intro j
  by_cases hj : j < n
  · exact h j hj
  · rw [List.getElem?_eq_none (by omega), List.getElem?_eq_none (by omega)]

set_option maxHeartbeats 1000000 in
theorem run_Equal (va vb : Value) (la lb : List Claim) (w : World) (ha : ClaimsV w va la) (hb : ClaimsV w vb lb) :
    Calls Try.prog 68 #[va, vb] w
      fun e w' => e = .returned (.bool (decide (la = lb))) ∧ Below w.heap.size w w' := by
  obtain ⟨aa, na, ca, rfl, hA⟩ := ha
  obtain ⟨ab, nb, cb, rfl, hB⟩ := hb
  have hla := hA.1
  have hlb := hB.1
  have HA := hid hA
  have HB := hid hB
  clear hA hB
  by_cases hn : na = nb
  · subst hn
    have HL := hid (And.intro hla hlb)
    have t1 : ((na : Int) != (na : Int)) = false := by simp
    have hmx : na ≤ 9223372036854775807 := by have := HA.out.2.1; have := HA.out.2.2.1; unfold maxLen at *; omega
    clear hla hlb
    go_enter Try.func68, Try.ntmps68
    go_wp2
    go_loopw [13] (fun i wr => ∃ k : Nat, k ≤ na ∧ i = .int .i64 k ∧ Below w.heap.size w wr ∧ ∀ j, j < k → la[j]? = lb[j]?) (fun i _ => na - (intOf i).toNat)
    case atStart => exact ⟨0, by omega, rfl, Below.refl _ _, fun j hj => absurd hj (by omega)⟩
    case round =>
      obtain ⟨k, hk, rfl, hBr, hall⟩ := hrel
      obtain ⟨W0, rfl⟩ : ∃ W, W = wr := ⟨_, rfl⟩
      by_cases hlt : k < na
      · cases aa with
        | none => have := HA.out.none_len; omega
        | some aa =>
          cases ab with
          | none => have := HB.out.none_len; omega
          | some ab =>
            obtain ⟨x, B, O, sp, hx, hxo, hAd, c0, c1, c2, c3⟩ := (HA.out.keep hBr).at k hlt
            obtain ⟨y, B2, O2, sp2, hy, hyo, hAd2, d0, d1, d2, d3⟩ := (HB.out.keep hBr).at k hlt
            have HX := hid (And.intro hx (And.intro hy (And.intro hBr hall)))
            have hq := fun W => run_neqC x y W
            clear hx hy hBr hall hxo hyo
            cases he : decide (x = y)
            · rw [he] at hq
              have HE := hid he
              clear he
              go_wp2
              refine wp_region_later_n (by kernel_rfl) (by kernel_rfl) ?_
              intro wd hwd
              have hw1 : Below W0.heap.size W0 wd := by rw [hwd]; first | exact Below.refl _ _ | exact below_dr _
              clear hwd
              have HW := hid hw1
              have f0 := fun p : Later wd.heap.size wd => cell_keep (below_next hw1 p.ok) c0
              have f1 := fun p : Later wd.heap.size wd => cell_keep (below_next hw1 p.ok) c1
              have f2 := fun p : Later wd.heap.size wd => cell_keep (below_next hw1 p.ok) c2
              have f3 := fun p : Later wd.heap.size wd => cell_keep (below_next hw1 p.ok) c3
              have g0 := fun p : Later wd.heap.size wd => cell_keep (below_next hw1 p.ok) d0
              have g1 := fun p : Later wd.heap.size wd => cell_keep (below_next hw1 p.ok) d1
              have g2 := fun p : Later wd.heap.size wd => cell_keep (below_next hw1 p.ok) d2
              have g3 := fun p : Later wd.heap.size wd => cell_keep (below_next hw1 p.ok) d3
              clear hw1 c0 c1 c2 c3 d0 d1 d2 d3
              repeat (go_big_quiet_step (fail))
              refine wpQuiet_nil ?_
              rintro _ ⟨p, rfl⟩
              have HP := hid p.ok
              generalize p.val = w2 at HP
              clear f0 f1 f2 f3 g0 g1 g2 g3 hq
              go_wp2
              go_ret
              have : decide (la = lb) = false := decide_eq_false (not_eq_at HX.out.1 HX.out.2.1 (of_decide_eq_false HE.out))
              exact ⟨by rw [this]; rfl, below_next HX.out.2.2.1 (below_next HW.out HP.out)⟩
            · rw [he] at hq
              have HE := hid he
              clear he
              go_wp2
              refine wp_region_later_n (by kernel_rfl) (by kernel_rfl) ?_
              intro wd hwd
              have hw1 : Below W0.heap.size W0 wd := by rw [hwd]; first | exact Below.refl _ _ | exact below_dr _
              clear hwd
              have HW := hid hw1
              have f0 := fun p : Later wd.heap.size wd => cell_keep (below_next hw1 p.ok) c0
              have f1 := fun p : Later wd.heap.size wd => cell_keep (below_next hw1 p.ok) c1
              have f2 := fun p : Later wd.heap.size wd => cell_keep (below_next hw1 p.ok) c2
              have f3 := fun p : Later wd.heap.size wd => cell_keep (below_next hw1 p.ok) c3
              have g0 := fun p : Later wd.heap.size wd => cell_keep (below_next hw1 p.ok) d0
              have g1 := fun p : Later wd.heap.size wd => cell_keep (below_next hw1 p.ok) d1
              have g2 := fun p : Later wd.heap.size wd => cell_keep (below_next hw1 p.ok) d2
              have g3 := fun p : Later wd.heap.size wd => cell_keep (below_next hw1 p.ok) d3
              clear hw1 c0 c1 c2 c3 d0 d1 d2 d3
              repeat (go_big_quiet_step (fail))
              refine wpQuiet_nil ?_
              rintro _ ⟨p, rfl⟩
              have HP := hid p.ok
              generalize p.val = w2 at HP
              clear f0 f1 f2 f3 g0 g1 g2 g3 hq
              go_wp2
              go_roundw
              case rel =>
                refine ⟨k + 1, by omega, by go_num, below_next HX.out.2.2.1 (below_next HW.out HP.out), fun j hj => ?_⟩
                by_cases hjk : j = k
                · subst hjk
                  rw [HX.out.1, HX.out.2.1, of_decide_eq_true HE.out]
                · exact HX.out.2.2.2 j (by omega)
              case measure => simp [intOf]; omega
      · obtain rfl : k = na := by omega
        have HX := hid (And.intro hBr hall)
        clear hBr hall
        go_wp2
        go_ret
        have : decide (la = lb) = true := decide_eq_true (eq_of_at HL.out.1 HL.out.2 HX.out.2)
        exact ⟨by rw [this]; rfl, HX.out.1⟩
  · have t1 : ((na : Int) != (nb : Int)) = true := by have : ¬ ((na : Int) = (nb : Int)) := by omega
                                                      simpa using this
    have : decide (la = lb) = false := decide_eq_false (by intro e; subst e; exact hn (hla.symm.trans hlb))
    rw [this]
    clear hla hlb this hn
    go_enter Try.func68, Try.ntmps68
    go_wp2
    go_ret
    exact ⟨rfl, Below.refl _ _⟩

def simE (a b : OpM) : Bool := decide (a.to = b.to ∧ a.ro = b.ro ∧ a.de = b.de ∧ a.cap = b.cap ∧ a.it = b.it ∧ a.qt = b.qt ∧ a.pr = b.pr)
theorem run_eql_simple (a b : OpM) (w : World) : (binOp .eql 112 (.agg #[.int .u32 (a.to : Int), .int .u8 (a.ro : Int), .int .u8 (a.de : Int), .int .u64 (a.cap : Int), .int .u32 (a.it : Int), .int .u32 (a.qt : Int), .int .u32 (a.pr : Int)]) (.agg #[.int .u32 (b.to : Int), .int .u8 (b.ro : Int), .int .u8 (b.de : Int), .int .u64 (b.cap : Int), .int .u32 (b.it : Int), .int .u32 (b.qt : Int), .int .u32 (b.pr : Int)])).run Try.prog w = .ok (.bool (simE a b)) w := by
  have h1 : (Op.equalIn 10000 112 (.agg #[.int .u32 (a.to : Int), .int .u8 (a.ro : Int), .int .u8 (a.de : Int), .int .u64 (a.cap : Int), .int .u32 (a.it : Int), .int .u32 (a.qt : Int), .int .u32 (a.pr : Int)]) (.agg #[.int .u32 (b.to : Int), .int .u8 (b.ro : Int), .int .u8 (b.de : Int), .int .u64 (b.cap : Int), .int .u32 (b.it : Int), .int .u32 (b.qt : Int), .int .u32 (b.pr : Int)])).run Try.prog w = .ok (simE a b) w := by
    refine (eq_simple _ _ _ _ _ _ _ _ _ _ _ _ _ _ w).trans ?_
    congr 1
    unfold simE
    rw [Bool.eq_iff_iff]
    simp only [Bool.and_eq_true, beq_iff_eq, decide_eq_true_eq, Int.natCast_inj, and_assoc]
  simp only [binOp]
  simp [Op.equal, Op.maxDepth]
  rw [h1]; rfl

/-- Are two operations the same? -/
def sameM (a b : OpM) (la lb : List Claim) : Bool := eqB (a.r, a.n) (b.r, b.n) && (eqV a.dep b.dep && (((a.tm : Int) == (b.tm : Int)) && (((a.who : Int) == (b.who : Int)) && (eqB (a.cr, a.cn) (b.cr, b.cn) && (((a.kd : Int) == (b.kd : Int)) && (eqB (a.dr, a.dn) (b.dr, b.dn) && (eqB (a.ar, a.an) (b.ar, b.an) && (eqB (a.vr, a.vn) (b.vr, b.vn) && (simE a b && (decide (la = lb)))))))))))

set_option maxHeartbeats 4000000 in
theorem op_Same (a b : OpM) (la lb : List Claim) (w : World) (ha : ClaimsV w a.lv la) (hb : ClaimsV w b.lv lb) :
    Calls Try.prog 41 #[.agg (oc a), .agg (oc b)] w
      fun e w' => e = .returned (.bool (sameM a b la lb)) ∧ Below w.heap.size w w' := by
  unfold sameM
  obtain ⟨e0, he0⟩ : ∃ e, (eqB (a.r, a.n) (b.r, b.n)) = e := ⟨_, rfl⟩
  obtain ⟨e1, he1⟩ : ∃ e, (eqV a.dep b.dep) = e := ⟨_, rfl⟩
  obtain ⟨e2, he2⟩ : ∃ e, (((a.tm : Int) == (b.tm : Int))) = e := ⟨_, rfl⟩
  obtain ⟨e3, he3⟩ : ∃ e, (((a.who : Int) == (b.who : Int))) = e := ⟨_, rfl⟩
  obtain ⟨e4, he4⟩ : ∃ e, (eqB (a.cr, a.cn) (b.cr, b.cn)) = e := ⟨_, rfl⟩
  obtain ⟨e5, he5⟩ : ∃ e, (((a.kd : Int) == (b.kd : Int))) = e := ⟨_, rfl⟩
  obtain ⟨e6, he6⟩ : ∃ e, (eqB (a.dr, a.dn) (b.dr, b.dn)) = e := ⟨_, rfl⟩
  obtain ⟨e7, he7⟩ : ∃ e, (eqB (a.ar, a.an) (b.ar, b.an)) = e := ⟨_, rfl⟩
  obtain ⟨e8, he8⟩ : ∃ e, (eqB (a.vr, a.vn) (b.vr, b.vn)) = e := ⟨_, rfl⟩
  obtain ⟨e9, he9⟩ : ∃ e, (simE a b) = e := ⟨_, rfl⟩
  obtain ⟨e10, he10⟩ : ∃ e, (decide (la = lb)) = e := ⟨_, rfl⟩
  rw [he0, he1, he2, he3, he4, he5, he6, he7, he8, he9, he10]
  have HQ0 := hid (fun W => (run_eql a.r a.n b.r b.n W).trans (by rw [he0]))
  have HQ4 := hid (fun W => (run_eql a.cr a.cn b.cr b.cn W).trans (by rw [he4]))
  have HQ6 := hid (fun W => (run_eql a.dr a.dn b.dr b.dn W).trans (by rw [he6]))
  have HQ7 := hid (fun W => (run_eql a.ar a.an b.ar b.an W).trans (by rw [he7]))
  have HQ8 := hid (fun W => (run_eql a.vr a.vn b.vr b.vn W).trans (by rw [he8]))
  have HQ1 := hid (fun W => eqlV he1 W)
  have HQ9 := hid (fun W => (run_eql_simple a b W).trans (by rw [he9]))
  have HZ2 := hid he2
  have HZ3 := hid he3
  have HZ5 := hid he5
  have HKL := hid (fun W hA hB => he10 ▸ run_Equal a.lv b.lv la lb W hA hB)
  have HVA := hid ha
  have HVB := hid hb
  clear ha hb he0 he1 he2 he3 he4 he5 he6 he7 he8 he9 he10
  go_enter Try.func41, Try.ntmps41
  go_wp2
  refine wp_region_later_n (by kernel_rfl) (by kernel_rfl) ?_
  intro wd hwd
  have hBd : Below w.heap.size w wd := by rw [hwd]; first | exact below_al2 _ _ _ | exact (below_al2 _ _ _).drew
  have HW := hid hBd
  have hOA : OpAt wd w.heap.size a := by rw [hwd]; exact (opAt_new w a).al _
  have hOB : OpAt wd (w.heap.size + 1) b := by rw [hwd]; exact last2 _ _ _
  have fa : ∀ w', (∃ p : Later wd.heap.size wd, w' = p.val) → OpAt w' w.heap.size a := by rintro _ ⟨p, rfl⟩; exact hOA.keep p.ok
  have fb : ∀ w', (∃ p : Later wd.heap.size wd, w' = p.val) → OpAt w' (w.heap.size + 1) b := by rintro _ ⟨p, rfl⟩; exact hOB.keep p.ok
  have FA := hid fa
  have FB := hid fb
  have HOA := hid hOA
  have HOB := hid hOB
  clear hwd hOA hOB fa fb hBd
  (try dsimp only [List.append])
  cases e0
  · have q0 := HQ0.out
    have fa0 := fun p : Later wd.heap.size wd => (OpAt.keep HOA.out p.ok).c0
    have fb0 := fun p : Later wd.heap.size wd => (OpAt.keep HOB.out p.ok).c0
    have fa1 := fun p : Later wd.heap.size wd => (OpAt.keep HOA.out p.ok).c1
    have fb1 := fun p : Later wd.heap.size wd => (OpAt.keep HOB.out p.ok).c1
    repeat (first | go_big_quiet_step (fail))
    refine wpQuiet_nil ?_
    rintro _ ⟨p, rfl⟩
    have HP := hid p.ok
    generalize p.val = w2 at HP
    clear q0 fa0 fb0 fa1 fb1
    go_wp2
    go_ret
    exact ⟨rfl, HW.out.trans (HP.out.mono HW.out.size)⟩
  · skip
    cases e1
    · have q0 := HQ0.out
      have q1 := HQ1.out
      have fa0 := fun p : Later wd.heap.size wd => (OpAt.keep HOA.out p.ok).c0
      have fb0 := fun p : Later wd.heap.size wd => (OpAt.keep HOB.out p.ok).c0
      have fa1 := fun p : Later wd.heap.size wd => (OpAt.keep HOA.out p.ok).c1
      have fb1 := fun p : Later wd.heap.size wd => (OpAt.keep HOB.out p.ok).c1
      have fa2 := fun p : Later wd.heap.size wd => (OpAt.keep HOA.out p.ok).c2
      have fb2 := fun p : Later wd.heap.size wd => (OpAt.keep HOB.out p.ok).c2
      have fa3 := fun p : Later wd.heap.size wd => (OpAt.keep HOA.out p.ok).c3
      have fb3 := fun p : Later wd.heap.size wd => (OpAt.keep HOB.out p.ok).c3
      have fa4 := fun p : Later wd.heap.size wd => (OpAt.keep HOA.out p.ok).c4
      have fb4 := fun p : Later wd.heap.size wd => (OpAt.keep HOB.out p.ok).c4
      have fa5 := fun p : Later wd.heap.size wd => (OpAt.keep HOA.out p.ok).c5
      have fb5 := fun p : Later wd.heap.size wd => (OpAt.keep HOB.out p.ok).c5
      have fa6 := fun p : Later wd.heap.size wd => (OpAt.keep HOA.out p.ok).c6
      have fb6 := fun p : Later wd.heap.size wd => (OpAt.keep HOB.out p.ok).c6
      have fa7 := fun p : Later wd.heap.size wd => (OpAt.keep HOA.out p.ok).c7
      have fb7 := fun p : Later wd.heap.size wd => (OpAt.keep HOB.out p.ok).c7
      have fa8 := fun p : Later wd.heap.size wd => (OpAt.keep HOA.out p.ok).c8
      have fb8 := fun p : Later wd.heap.size wd => (OpAt.keep HOB.out p.ok).c8
      have fa9 := fun p : Later wd.heap.size wd => (OpAt.keep HOA.out p.ok).c9
      have fb9 := fun p : Later wd.heap.size wd => (OpAt.keep HOB.out p.ok).c9
      repeat (first | go_big_quiet_step (fail))
      refine wpQuiet_nil ?_
      rintro _ ⟨p, rfl⟩
      have HP := hid p.ok
      generalize p.val = w2 at HP
      clear q0 q1 fa0 fb0 fa1 fb1 fa2 fb2 fa3 fb3 fa4 fb4 fa5 fb5 fa6 fb6 fa7 fb7 fa8 fb8 fa9 fb9
      go_wp2
      go_ret
      exact ⟨rfl, HW.out.trans (HP.out.mono HW.out.size)⟩
    · skip
      cases e2
      · have q0 := HQ0.out
        have q1 := HQ1.out
        have q2 := HZ2.out
        have fa0 := fun p : Later wd.heap.size wd => (OpAt.keep HOA.out p.ok).c0
        have fb0 := fun p : Later wd.heap.size wd => (OpAt.keep HOB.out p.ok).c0
        have fa1 := fun p : Later wd.heap.size wd => (OpAt.keep HOA.out p.ok).c1
        have fb1 := fun p : Later wd.heap.size wd => (OpAt.keep HOB.out p.ok).c1
        have fa2 := fun p : Later wd.heap.size wd => (OpAt.keep HOA.out p.ok).c2
        have fb2 := fun p : Later wd.heap.size wd => (OpAt.keep HOB.out p.ok).c2
        have fa3 := fun p : Later wd.heap.size wd => (OpAt.keep HOA.out p.ok).c3
        have fb3 := fun p : Later wd.heap.size wd => (OpAt.keep HOB.out p.ok).c3
        have fa4 := fun p : Later wd.heap.size wd => (OpAt.keep HOA.out p.ok).c4
        have fb4 := fun p : Later wd.heap.size wd => (OpAt.keep HOB.out p.ok).c4
        have fa5 := fun p : Later wd.heap.size wd => (OpAt.keep HOA.out p.ok).c5
        have fb5 := fun p : Later wd.heap.size wd => (OpAt.keep HOB.out p.ok).c5
        have fa6 := fun p : Later wd.heap.size wd => (OpAt.keep HOA.out p.ok).c6
        have fb6 := fun p : Later wd.heap.size wd => (OpAt.keep HOB.out p.ok).c6
        have fa7 := fun p : Later wd.heap.size wd => (OpAt.keep HOA.out p.ok).c7
        have fb7 := fun p : Later wd.heap.size wd => (OpAt.keep HOB.out p.ok).c7
        have fa8 := fun p : Later wd.heap.size wd => (OpAt.keep HOA.out p.ok).c8
        have fb8 := fun p : Later wd.heap.size wd => (OpAt.keep HOB.out p.ok).c8
        have fa9 := fun p : Later wd.heap.size wd => (OpAt.keep HOA.out p.ok).c9
        have fb9 := fun p : Later wd.heap.size wd => (OpAt.keep HOB.out p.ok).c9
        have fa10 := fun p : Later wd.heap.size wd => (OpAt.keep HOA.out p.ok).c10
        have fb10 := fun p : Later wd.heap.size wd => (OpAt.keep HOB.out p.ok).c10
        repeat (first | go_big_quiet_step (fail))
        refine wpQuiet_nil ?_
        rintro _ ⟨p, rfl⟩
        have HP := hid p.ok
        generalize p.val = w2 at HP
        clear q0 q1 q2 fa0 fb0 fa1 fb1 fa2 fb2 fa3 fb3 fa4 fb4 fa5 fb5 fa6 fb6 fa7 fb7 fa8 fb8 fa9 fb9 fa10 fb10
        go_wp2
        go_ret
        exact ⟨rfl, HW.out.trans (HP.out.mono HW.out.size)⟩
      · skip
        cases e3
        · have q0 := HQ0.out
          have q1 := HQ1.out
          have q2 := HZ2.out
          have q3 := HZ3.out
          have fa0 := fun p : Later wd.heap.size wd => (OpAt.keep HOA.out p.ok).c0
          have fb0 := fun p : Later wd.heap.size wd => (OpAt.keep HOB.out p.ok).c0
          have fa1 := fun p : Later wd.heap.size wd => (OpAt.keep HOA.out p.ok).c1
          have fb1 := fun p : Later wd.heap.size wd => (OpAt.keep HOB.out p.ok).c1
          have fa2 := fun p : Later wd.heap.size wd => (OpAt.keep HOA.out p.ok).c2
          have fb2 := fun p : Later wd.heap.size wd => (OpAt.keep HOB.out p.ok).c2
          have fa3 := fun p : Later wd.heap.size wd => (OpAt.keep HOA.out p.ok).c3
          have fb3 := fun p : Later wd.heap.size wd => (OpAt.keep HOB.out p.ok).c3
          have fa4 := fun p : Later wd.heap.size wd => (OpAt.keep HOA.out p.ok).c4
          have fb4 := fun p : Later wd.heap.size wd => (OpAt.keep HOB.out p.ok).c4
          have fa5 := fun p : Later wd.heap.size wd => (OpAt.keep HOA.out p.ok).c5
          have fb5 := fun p : Later wd.heap.size wd => (OpAt.keep HOB.out p.ok).c5
          have fa6 := fun p : Later wd.heap.size wd => (OpAt.keep HOA.out p.ok).c6
          have fb6 := fun p : Later wd.heap.size wd => (OpAt.keep HOB.out p.ok).c6
          have fa7 := fun p : Later wd.heap.size wd => (OpAt.keep HOA.out p.ok).c7
          have fb7 := fun p : Later wd.heap.size wd => (OpAt.keep HOB.out p.ok).c7
          have fa8 := fun p : Later wd.heap.size wd => (OpAt.keep HOA.out p.ok).c8
          have fb8 := fun p : Later wd.heap.size wd => (OpAt.keep HOB.out p.ok).c8
          have fa9 := fun p : Later wd.heap.size wd => (OpAt.keep HOA.out p.ok).c9
          have fb9 := fun p : Later wd.heap.size wd => (OpAt.keep HOB.out p.ok).c9
          have fa10 := fun p : Later wd.heap.size wd => (OpAt.keep HOA.out p.ok).c10
          have fb10 := fun p : Later wd.heap.size wd => (OpAt.keep HOB.out p.ok).c10
          have fa11 := fun p : Later wd.heap.size wd => (OpAt.keep HOA.out p.ok).c11
          have fb11 := fun p : Later wd.heap.size wd => (OpAt.keep HOB.out p.ok).c11
          repeat (first | go_big_quiet_step (fail))
          refine wpQuiet_nil ?_
          rintro _ ⟨p, rfl⟩
          have HP := hid p.ok
          generalize p.val = w2 at HP
          clear q0 q1 q2 q3 fa0 fb0 fa1 fb1 fa2 fb2 fa3 fb3 fa4 fb4 fa5 fb5 fa6 fb6 fa7 fb7 fa8 fb8 fa9 fb9 fa10 fb10 fa11 fb11
          go_wp2
          go_ret
          exact ⟨rfl, HW.out.trans (HP.out.mono HW.out.size)⟩
        · skip
          cases e4
          · have q0 := HQ0.out
            have q1 := HQ1.out
            have q2 := HZ2.out
            have q3 := HZ3.out
            have q4 := HQ4.out
            have fa0 := fun p : Later wd.heap.size wd => (OpAt.keep HOA.out p.ok).c0
            have fb0 := fun p : Later wd.heap.size wd => (OpAt.keep HOB.out p.ok).c0
            have fa1 := fun p : Later wd.heap.size wd => (OpAt.keep HOA.out p.ok).c1
            have fb1 := fun p : Later wd.heap.size wd => (OpAt.keep HOB.out p.ok).c1
            have fa2 := fun p : Later wd.heap.size wd => (OpAt.keep HOA.out p.ok).c2
            have fb2 := fun p : Later wd.heap.size wd => (OpAt.keep HOB.out p.ok).c2
            have fa3 := fun p : Later wd.heap.size wd => (OpAt.keep HOA.out p.ok).c3
            have fb3 := fun p : Later wd.heap.size wd => (OpAt.keep HOB.out p.ok).c3
            have fa4 := fun p : Later wd.heap.size wd => (OpAt.keep HOA.out p.ok).c4
            have fb4 := fun p : Later wd.heap.size wd => (OpAt.keep HOB.out p.ok).c4
            have fa5 := fun p : Later wd.heap.size wd => (OpAt.keep HOA.out p.ok).c5
            have fb5 := fun p : Later wd.heap.size wd => (OpAt.keep HOB.out p.ok).c5
            have fa6 := fun p : Later wd.heap.size wd => (OpAt.keep HOA.out p.ok).c6
            have fb6 := fun p : Later wd.heap.size wd => (OpAt.keep HOB.out p.ok).c6
            have fa7 := fun p : Later wd.heap.size wd => (OpAt.keep HOA.out p.ok).c7
            have fb7 := fun p : Later wd.heap.size wd => (OpAt.keep HOB.out p.ok).c7
            have fa8 := fun p : Later wd.heap.size wd => (OpAt.keep HOA.out p.ok).c8
            have fb8 := fun p : Later wd.heap.size wd => (OpAt.keep HOB.out p.ok).c8
            have fa9 := fun p : Later wd.heap.size wd => (OpAt.keep HOA.out p.ok).c9
            have fb9 := fun p : Later wd.heap.size wd => (OpAt.keep HOB.out p.ok).c9
            have fa10 := fun p : Later wd.heap.size wd => (OpAt.keep HOA.out p.ok).c10
            have fb10 := fun p : Later wd.heap.size wd => (OpAt.keep HOB.out p.ok).c10
            have fa11 := fun p : Later wd.heap.size wd => (OpAt.keep HOA.out p.ok).c11
            have fb11 := fun p : Later wd.heap.size wd => (OpAt.keep HOB.out p.ok).c11
            have fa12 := fun p : Later wd.heap.size wd => (OpAt.keep HOA.out p.ok).c12
            have fb12 := fun p : Later wd.heap.size wd => (OpAt.keep HOB.out p.ok).c12
            have fa13 := fun p : Later wd.heap.size wd => (OpAt.keep HOA.out p.ok).c13
            have fb13 := fun p : Later wd.heap.size wd => (OpAt.keep HOB.out p.ok).c13
            repeat (first | go_big_quiet_step (fail))
            refine wpQuiet_nil ?_
            rintro _ ⟨p, rfl⟩
            have HP := hid p.ok
            generalize p.val = w2 at HP
            clear q0 q1 q2 q3 q4 fa0 fb0 fa1 fb1 fa2 fb2 fa3 fb3 fa4 fb4 fa5 fb5 fa6 fb6 fa7 fb7 fa8 fb8 fa9 fb9 fa10 fb10 fa11 fb11 fa12 fb12 fa13 fb13
            go_wp2
            go_ret
            exact ⟨rfl, HW.out.trans (HP.out.mono HW.out.size)⟩
          · skip
            cases e5
            · have q0 := HQ0.out
              have q1 := HQ1.out
              have q2 := HZ2.out
              have q3 := HZ3.out
              have q4 := HQ4.out
              have q5 := HZ5.out
              have fa0 := fun p : Later wd.heap.size wd => (OpAt.keep HOA.out p.ok).c0
              have fb0 := fun p : Later wd.heap.size wd => (OpAt.keep HOB.out p.ok).c0
              have fa1 := fun p : Later wd.heap.size wd => (OpAt.keep HOA.out p.ok).c1
              have fb1 := fun p : Later wd.heap.size wd => (OpAt.keep HOB.out p.ok).c1
              have fa2 := fun p : Later wd.heap.size wd => (OpAt.keep HOA.out p.ok).c2
              have fb2 := fun p : Later wd.heap.size wd => (OpAt.keep HOB.out p.ok).c2
              have fa3 := fun p : Later wd.heap.size wd => (OpAt.keep HOA.out p.ok).c3
              have fb3 := fun p : Later wd.heap.size wd => (OpAt.keep HOB.out p.ok).c3
              have fa4 := fun p : Later wd.heap.size wd => (OpAt.keep HOA.out p.ok).c4
              have fb4 := fun p : Later wd.heap.size wd => (OpAt.keep HOB.out p.ok).c4
              have fa5 := fun p : Later wd.heap.size wd => (OpAt.keep HOA.out p.ok).c5
              have fb5 := fun p : Later wd.heap.size wd => (OpAt.keep HOB.out p.ok).c5
              have fa6 := fun p : Later wd.heap.size wd => (OpAt.keep HOA.out p.ok).c6
              have fb6 := fun p : Later wd.heap.size wd => (OpAt.keep HOB.out p.ok).c6
              have fa7 := fun p : Later wd.heap.size wd => (OpAt.keep HOA.out p.ok).c7
              have fb7 := fun p : Later wd.heap.size wd => (OpAt.keep HOB.out p.ok).c7
              have fa8 := fun p : Later wd.heap.size wd => (OpAt.keep HOA.out p.ok).c8
              have fb8 := fun p : Later wd.heap.size wd => (OpAt.keep HOB.out p.ok).c8
              have fa9 := fun p : Later wd.heap.size wd => (OpAt.keep HOA.out p.ok).c9
              have fb9 := fun p : Later wd.heap.size wd => (OpAt.keep HOB.out p.ok).c9
              have fa10 := fun p : Later wd.heap.size wd => (OpAt.keep HOA.out p.ok).c10
              have fb10 := fun p : Later wd.heap.size wd => (OpAt.keep HOB.out p.ok).c10
              have fa11 := fun p : Later wd.heap.size wd => (OpAt.keep HOA.out p.ok).c11
              have fb11 := fun p : Later wd.heap.size wd => (OpAt.keep HOB.out p.ok).c11
              have fa12 := fun p : Later wd.heap.size wd => (OpAt.keep HOA.out p.ok).c12
              have fb12 := fun p : Later wd.heap.size wd => (OpAt.keep HOB.out p.ok).c12
              have fa13 := fun p : Later wd.heap.size wd => (OpAt.keep HOA.out p.ok).c13
              have fb13 := fun p : Later wd.heap.size wd => (OpAt.keep HOB.out p.ok).c13
              have fa14 := fun p : Later wd.heap.size wd => (OpAt.keep HOA.out p.ok).c14
              have fb14 := fun p : Later wd.heap.size wd => (OpAt.keep HOB.out p.ok).c14
              repeat (first | go_big_quiet_step (fail))
              refine wpQuiet_nil ?_
              rintro _ ⟨p, rfl⟩
              have HP := hid p.ok
              generalize p.val = w2 at HP
              clear q0 q1 q2 q3 q4 q5 fa0 fb0 fa1 fb1 fa2 fb2 fa3 fb3 fa4 fb4 fa5 fb5 fa6 fb6 fa7 fb7 fa8 fb8 fa9 fb9 fa10 fb10 fa11 fb11 fa12 fb12 fa13 fb13 fa14 fb14
              go_wp2
              go_ret
              exact ⟨rfl, HW.out.trans (HP.out.mono HW.out.size)⟩
            · skip
              cases e6
              · have q0 := HQ0.out
                have q1 := HQ1.out
                have q2 := HZ2.out
                have q3 := HZ3.out
                have q4 := HQ4.out
                have q5 := HZ5.out
                have q6 := HQ6.out
                have fa0 := fun p : Later wd.heap.size wd => (OpAt.keep HOA.out p.ok).c0
                have fb0 := fun p : Later wd.heap.size wd => (OpAt.keep HOB.out p.ok).c0
                have fa1 := fun p : Later wd.heap.size wd => (OpAt.keep HOA.out p.ok).c1
                have fb1 := fun p : Later wd.heap.size wd => (OpAt.keep HOB.out p.ok).c1
                have fa2 := fun p : Later wd.heap.size wd => (OpAt.keep HOA.out p.ok).c2
                have fb2 := fun p : Later wd.heap.size wd => (OpAt.keep HOB.out p.ok).c2
                have fa3 := fun p : Later wd.heap.size wd => (OpAt.keep HOA.out p.ok).c3
                have fb3 := fun p : Later wd.heap.size wd => (OpAt.keep HOB.out p.ok).c3
                have fa4 := fun p : Later wd.heap.size wd => (OpAt.keep HOA.out p.ok).c4
                have fb4 := fun p : Later wd.heap.size wd => (OpAt.keep HOB.out p.ok).c4
                have fa5 := fun p : Later wd.heap.size wd => (OpAt.keep HOA.out p.ok).c5
                have fb5 := fun p : Later wd.heap.size wd => (OpAt.keep HOB.out p.ok).c5
                have fa6 := fun p : Later wd.heap.size wd => (OpAt.keep HOA.out p.ok).c6
                have fb6 := fun p : Later wd.heap.size wd => (OpAt.keep HOB.out p.ok).c6
                have fa7 := fun p : Later wd.heap.size wd => (OpAt.keep HOA.out p.ok).c7
                have fb7 := fun p : Later wd.heap.size wd => (OpAt.keep HOB.out p.ok).c7
                have fa8 := fun p : Later wd.heap.size wd => (OpAt.keep HOA.out p.ok).c8
                have fb8 := fun p : Later wd.heap.size wd => (OpAt.keep HOB.out p.ok).c8
                have fa9 := fun p : Later wd.heap.size wd => (OpAt.keep HOA.out p.ok).c9
                have fb9 := fun p : Later wd.heap.size wd => (OpAt.keep HOB.out p.ok).c9
                have fa10 := fun p : Later wd.heap.size wd => (OpAt.keep HOA.out p.ok).c10
                have fb10 := fun p : Later wd.heap.size wd => (OpAt.keep HOB.out p.ok).c10
                have fa11 := fun p : Later wd.heap.size wd => (OpAt.keep HOA.out p.ok).c11
                have fb11 := fun p : Later wd.heap.size wd => (OpAt.keep HOB.out p.ok).c11
                have fa12 := fun p : Later wd.heap.size wd => (OpAt.keep HOA.out p.ok).c12
                have fb12 := fun p : Later wd.heap.size wd => (OpAt.keep HOB.out p.ok).c12
                have fa13 := fun p : Later wd.heap.size wd => (OpAt.keep HOA.out p.ok).c13
                have fb13 := fun p : Later wd.heap.size wd => (OpAt.keep HOB.out p.ok).c13
                have fa14 := fun p : Later wd.heap.size wd => (OpAt.keep HOA.out p.ok).c14
                have fb14 := fun p : Later wd.heap.size wd => (OpAt.keep HOB.out p.ok).c14
                have fa15 := fun p : Later wd.heap.size wd => (OpAt.keep HOA.out p.ok).c15
                have fb15 := fun p : Later wd.heap.size wd => (OpAt.keep HOB.out p.ok).c15
                have fa16 := fun p : Later wd.heap.size wd => (OpAt.keep HOA.out p.ok).c16
                have fb16 := fun p : Later wd.heap.size wd => (OpAt.keep HOB.out p.ok).c16
                repeat (first | go_big_quiet_step (fail))
                refine wpQuiet_nil ?_
                rintro _ ⟨p, rfl⟩
                have HP := hid p.ok
                generalize p.val = w2 at HP
                clear q0 q1 q2 q3 q4 q5 q6 fa0 fb0 fa1 fb1 fa2 fb2 fa3 fb3 fa4 fb4 fa5 fb5 fa6 fb6 fa7 fb7 fa8 fb8 fa9 fb9 fa10 fb10 fa11 fb11 fa12 fb12 fa13 fb13 fa14 fb14 fa15 fb15 fa16 fb16
                go_wp2
                go_ret
                exact ⟨rfl, HW.out.trans (HP.out.mono HW.out.size)⟩
              · skip
                cases e7
                · have q0 := HQ0.out
                  have q1 := HQ1.out
                  have q2 := HZ2.out
                  have q3 := HZ3.out
                  have q4 := HQ4.out
                  have q5 := HZ5.out
                  have q6 := HQ6.out
                  have q7 := HQ7.out
                  have fa0 := fun p : Later wd.heap.size wd => (OpAt.keep HOA.out p.ok).c0
                  have fb0 := fun p : Later wd.heap.size wd => (OpAt.keep HOB.out p.ok).c0
                  have fa1 := fun p : Later wd.heap.size wd => (OpAt.keep HOA.out p.ok).c1
                  have fb1 := fun p : Later wd.heap.size wd => (OpAt.keep HOB.out p.ok).c1
                  have fa2 := fun p : Later wd.heap.size wd => (OpAt.keep HOA.out p.ok).c2
                  have fb2 := fun p : Later wd.heap.size wd => (OpAt.keep HOB.out p.ok).c2
                  have fa3 := fun p : Later wd.heap.size wd => (OpAt.keep HOA.out p.ok).c3
                  have fb3 := fun p : Later wd.heap.size wd => (OpAt.keep HOB.out p.ok).c3
                  have fa4 := fun p : Later wd.heap.size wd => (OpAt.keep HOA.out p.ok).c4
                  have fb4 := fun p : Later wd.heap.size wd => (OpAt.keep HOB.out p.ok).c4
                  have fa5 := fun p : Later wd.heap.size wd => (OpAt.keep HOA.out p.ok).c5
                  have fb5 := fun p : Later wd.heap.size wd => (OpAt.keep HOB.out p.ok).c5
                  have fa6 := fun p : Later wd.heap.size wd => (OpAt.keep HOA.out p.ok).c6
                  have fb6 := fun p : Later wd.heap.size wd => (OpAt.keep HOB.out p.ok).c6
                  have fa7 := fun p : Later wd.heap.size wd => (OpAt.keep HOA.out p.ok).c7
                  have fb7 := fun p : Later wd.heap.size wd => (OpAt.keep HOB.out p.ok).c7
                  have fa8 := fun p : Later wd.heap.size wd => (OpAt.keep HOA.out p.ok).c8
                  have fb8 := fun p : Later wd.heap.size wd => (OpAt.keep HOB.out p.ok).c8
                  have fa9 := fun p : Later wd.heap.size wd => (OpAt.keep HOA.out p.ok).c9
                  have fb9 := fun p : Later wd.heap.size wd => (OpAt.keep HOB.out p.ok).c9
                  have fa10 := fun p : Later wd.heap.size wd => (OpAt.keep HOA.out p.ok).c10
                  have fb10 := fun p : Later wd.heap.size wd => (OpAt.keep HOB.out p.ok).c10
                  have fa11 := fun p : Later wd.heap.size wd => (OpAt.keep HOA.out p.ok).c11
                  have fb11 := fun p : Later wd.heap.size wd => (OpAt.keep HOB.out p.ok).c11
                  have fa12 := fun p : Later wd.heap.size wd => (OpAt.keep HOA.out p.ok).c12
                  have fb12 := fun p : Later wd.heap.size wd => (OpAt.keep HOB.out p.ok).c12
                  have fa13 := fun p : Later wd.heap.size wd => (OpAt.keep HOA.out p.ok).c13
                  have fb13 := fun p : Later wd.heap.size wd => (OpAt.keep HOB.out p.ok).c13
                  have fa14 := fun p : Later wd.heap.size wd => (OpAt.keep HOA.out p.ok).c14
                  have fb14 := fun p : Later wd.heap.size wd => (OpAt.keep HOB.out p.ok).c14
                  have fa15 := fun p : Later wd.heap.size wd => (OpAt.keep HOA.out p.ok).c15
                  have fb15 := fun p : Later wd.heap.size wd => (OpAt.keep HOB.out p.ok).c15
                  have fa16 := fun p : Later wd.heap.size wd => (OpAt.keep HOA.out p.ok).c16
                  have fb16 := fun p : Later wd.heap.size wd => (OpAt.keep HOB.out p.ok).c16
                  have fa21 := fun p : Later wd.heap.size wd => (OpAt.keep HOA.out p.ok).c21
                  have fb21 := fun p : Later wd.heap.size wd => (OpAt.keep HOB.out p.ok).c21
                  have fa22 := fun p : Later wd.heap.size wd => (OpAt.keep HOA.out p.ok).c22
                  have fb22 := fun p : Later wd.heap.size wd => (OpAt.keep HOB.out p.ok).c22
                  repeat (first | go_big_quiet_step (fail))
                  refine wpQuiet_nil ?_
                  rintro _ ⟨p, rfl⟩
                  have HP := hid p.ok
                  generalize p.val = w2 at HP
                  clear q0 q1 q2 q3 q4 q5 q6 q7 fa0 fb0 fa1 fb1 fa2 fb2 fa3 fb3 fa4 fb4 fa5 fb5 fa6 fb6 fa7 fb7 fa8 fb8 fa9 fb9 fa10 fb10 fa11 fb11 fa12 fb12 fa13 fb13 fa14 fb14 fa15 fb15 fa16 fb16 fa21 fb21 fa22 fb22
                  go_wp2
                  go_ret
                  exact ⟨rfl, HW.out.trans (HP.out.mono HW.out.size)⟩
                · skip
                  cases e8
                  · have q0 := HQ0.out
                    have q1 := HQ1.out
                    have q2 := HZ2.out
                    have q3 := HZ3.out
                    have q4 := HQ4.out
                    have q5 := HZ5.out
                    have q6 := HQ6.out
                    have q7 := HQ7.out
                    have q8 := HQ8.out
                    have fa0 := fun p : Later wd.heap.size wd => (OpAt.keep HOA.out p.ok).c0
                    have fb0 := fun p : Later wd.heap.size wd => (OpAt.keep HOB.out p.ok).c0
                    have fa1 := fun p : Later wd.heap.size wd => (OpAt.keep HOA.out p.ok).c1
                    have fb1 := fun p : Later wd.heap.size wd => (OpAt.keep HOB.out p.ok).c1
                    have fa2 := fun p : Later wd.heap.size wd => (OpAt.keep HOA.out p.ok).c2
                    have fb2 := fun p : Later wd.heap.size wd => (OpAt.keep HOB.out p.ok).c2
                    have fa3 := fun p : Later wd.heap.size wd => (OpAt.keep HOA.out p.ok).c3
                    have fb3 := fun p : Later wd.heap.size wd => (OpAt.keep HOB.out p.ok).c3
                    have fa4 := fun p : Later wd.heap.size wd => (OpAt.keep HOA.out p.ok).c4
                    have fb4 := fun p : Later wd.heap.size wd => (OpAt.keep HOB.out p.ok).c4
                    have fa5 := fun p : Later wd.heap.size wd => (OpAt.keep HOA.out p.ok).c5
                    have fb5 := fun p : Later wd.heap.size wd => (OpAt.keep HOB.out p.ok).c5
                    have fa6 := fun p : Later wd.heap.size wd => (OpAt.keep HOA.out p.ok).c6
                    have fb6 := fun p : Later wd.heap.size wd => (OpAt.keep HOB.out p.ok).c6
                    have fa7 := fun p : Later wd.heap.size wd => (OpAt.keep HOA.out p.ok).c7
                    have fb7 := fun p : Later wd.heap.size wd => (OpAt.keep HOB.out p.ok).c7
                    have fa8 := fun p : Later wd.heap.size wd => (OpAt.keep HOA.out p.ok).c8
                    have fb8 := fun p : Later wd.heap.size wd => (OpAt.keep HOB.out p.ok).c8
                    have fa9 := fun p : Later wd.heap.size wd => (OpAt.keep HOA.out p.ok).c9
                    have fb9 := fun p : Later wd.heap.size wd => (OpAt.keep HOB.out p.ok).c9
                    have fa10 := fun p : Later wd.heap.size wd => (OpAt.keep HOA.out p.ok).c10
                    have fb10 := fun p : Later wd.heap.size wd => (OpAt.keep HOB.out p.ok).c10
                    have fa11 := fun p : Later wd.heap.size wd => (OpAt.keep HOA.out p.ok).c11
                    have fb11 := fun p : Later wd.heap.size wd => (OpAt.keep HOB.out p.ok).c11
                    have fa12 := fun p : Later wd.heap.size wd => (OpAt.keep HOA.out p.ok).c12
                    have fb12 := fun p : Later wd.heap.size wd => (OpAt.keep HOB.out p.ok).c12
                    have fa13 := fun p : Later wd.heap.size wd => (OpAt.keep HOA.out p.ok).c13
                    have fb13 := fun p : Later wd.heap.size wd => (OpAt.keep HOB.out p.ok).c13
                    have fa14 := fun p : Later wd.heap.size wd => (OpAt.keep HOA.out p.ok).c14
                    have fb14 := fun p : Later wd.heap.size wd => (OpAt.keep HOB.out p.ok).c14
                    have fa15 := fun p : Later wd.heap.size wd => (OpAt.keep HOA.out p.ok).c15
                    have fb15 := fun p : Later wd.heap.size wd => (OpAt.keep HOB.out p.ok).c15
                    have fa16 := fun p : Later wd.heap.size wd => (OpAt.keep HOA.out p.ok).c16
                    have fb16 := fun p : Later wd.heap.size wd => (OpAt.keep HOB.out p.ok).c16
                    have fa21 := fun p : Later wd.heap.size wd => (OpAt.keep HOA.out p.ok).c21
                    have fb21 := fun p : Later wd.heap.size wd => (OpAt.keep HOB.out p.ok).c21
                    have fa22 := fun p : Later wd.heap.size wd => (OpAt.keep HOA.out p.ok).c22
                    have fb22 := fun p : Later wd.heap.size wd => (OpAt.keep HOB.out p.ok).c22
                    have fa23 := fun p : Later wd.heap.size wd => (OpAt.keep HOA.out p.ok).c23
                    have fb23 := fun p : Later wd.heap.size wd => (OpAt.keep HOB.out p.ok).c23
                    have fa24 := fun p : Later wd.heap.size wd => (OpAt.keep HOA.out p.ok).c24
                    have fb24 := fun p : Later wd.heap.size wd => (OpAt.keep HOB.out p.ok).c24
                    repeat (first | go_big_quiet_step (fail))
                    refine wpQuiet_nil ?_
                    rintro _ ⟨p, rfl⟩
                    have HP := hid p.ok
                    generalize p.val = w2 at HP
                    clear q0 q1 q2 q3 q4 q5 q6 q7 q8 fa0 fb0 fa1 fb1 fa2 fb2 fa3 fb3 fa4 fb4 fa5 fb5 fa6 fb6 fa7 fb7 fa8 fb8 fa9 fb9 fa10 fb10 fa11 fb11 fa12 fb12 fa13 fb13 fa14 fb14 fa15 fb15 fa16 fb16 fa21 fb21 fa22 fb22 fa23 fb23 fa24 fb24
                    go_wp2
                    go_ret
                    exact ⟨rfl, HW.out.trans (HP.out.mono HW.out.size)⟩
                  · skip
                    cases e9
                    · have q0 := HQ0.out
                      have q1 := HQ1.out
                      have q2 := HZ2.out
                      have q3 := HZ3.out
                      have q4 := HQ4.out
                      have q5 := HZ5.out
                      have q6 := HQ6.out
                      have q7 := HQ7.out
                      have q8 := HQ8.out
                      have q9 := HQ9.out
                      have fa0 := fun p : Later wd.heap.size wd => (OpAt.keep HOA.out p.ok).c0
                      have fb0 := fun p : Later wd.heap.size wd => (OpAt.keep HOB.out p.ok).c0
                      have fa1 := fun p : Later wd.heap.size wd => (OpAt.keep HOA.out p.ok).c1
                      have fb1 := fun p : Later wd.heap.size wd => (OpAt.keep HOB.out p.ok).c1
                      have fa2 := fun p : Later wd.heap.size wd => (OpAt.keep HOA.out p.ok).c2
                      have fb2 := fun p : Later wd.heap.size wd => (OpAt.keep HOB.out p.ok).c2
                      have fa3 := fun p : Later wd.heap.size wd => (OpAt.keep HOA.out p.ok).c3
                      have fb3 := fun p : Later wd.heap.size wd => (OpAt.keep HOB.out p.ok).c3
                      have fa4 := fun p : Later wd.heap.size wd => (OpAt.keep HOA.out p.ok).c4
                      have fb4 := fun p : Later wd.heap.size wd => (OpAt.keep HOB.out p.ok).c4
                      have fa5 := fun p : Later wd.heap.size wd => (OpAt.keep HOA.out p.ok).c5
                      have fb5 := fun p : Later wd.heap.size wd => (OpAt.keep HOB.out p.ok).c5
                      have fa6 := fun p : Later wd.heap.size wd => (OpAt.keep HOA.out p.ok).c6
                      have fb6 := fun p : Later wd.heap.size wd => (OpAt.keep HOB.out p.ok).c6
                      have fa7 := fun p : Later wd.heap.size wd => (OpAt.keep HOA.out p.ok).c7
                      have fb7 := fun p : Later wd.heap.size wd => (OpAt.keep HOB.out p.ok).c7
                      have fa8 := fun p : Later wd.heap.size wd => (OpAt.keep HOA.out p.ok).c8
                      have fb8 := fun p : Later wd.heap.size wd => (OpAt.keep HOB.out p.ok).c8
                      have fa9 := fun p : Later wd.heap.size wd => (OpAt.keep HOA.out p.ok).c9
                      have fb9 := fun p : Later wd.heap.size wd => (OpAt.keep HOB.out p.ok).c9
                      have fa10 := fun p : Later wd.heap.size wd => (OpAt.keep HOA.out p.ok).c10
                      have fb10 := fun p : Later wd.heap.size wd => (OpAt.keep HOB.out p.ok).c10
                      have fa11 := fun p : Later wd.heap.size wd => (OpAt.keep HOA.out p.ok).c11
                      have fb11 := fun p : Later wd.heap.size wd => (OpAt.keep HOB.out p.ok).c11
                      have fa12 := fun p : Later wd.heap.size wd => (OpAt.keep HOA.out p.ok).c12
                      have fb12 := fun p : Later wd.heap.size wd => (OpAt.keep HOB.out p.ok).c12
                      have fa13 := fun p : Later wd.heap.size wd => (OpAt.keep HOA.out p.ok).c13
                      have fb13 := fun p : Later wd.heap.size wd => (OpAt.keep HOB.out p.ok).c13
                      have fa14 := fun p : Later wd.heap.size wd => (OpAt.keep HOA.out p.ok).c14
                      have fb14 := fun p : Later wd.heap.size wd => (OpAt.keep HOB.out p.ok).c14
                      have fa15 := fun p : Later wd.heap.size wd => (OpAt.keep HOA.out p.ok).c15
                      have fb15 := fun p : Later wd.heap.size wd => (OpAt.keep HOB.out p.ok).c15
                      have fa16 := fun p : Later wd.heap.size wd => (OpAt.keep HOA.out p.ok).c16
                      have fb16 := fun p : Later wd.heap.size wd => (OpAt.keep HOB.out p.ok).c16
                      have fa21 := fun p : Later wd.heap.size wd => (OpAt.keep HOA.out p.ok).c21
                      have fb21 := fun p : Later wd.heap.size wd => (OpAt.keep HOB.out p.ok).c21
                      have fa22 := fun p : Later wd.heap.size wd => (OpAt.keep HOA.out p.ok).c22
                      have fb22 := fun p : Later wd.heap.size wd => (OpAt.keep HOB.out p.ok).c22
                      have fa23 := fun p : Later wd.heap.size wd => (OpAt.keep HOA.out p.ok).c23
                      have fb23 := fun p : Later wd.heap.size wd => (OpAt.keep HOB.out p.ok).c23
                      have fa24 := fun p : Later wd.heap.size wd => (OpAt.keep HOA.out p.ok).c24
                      have fb24 := fun p : Later wd.heap.size wd => (OpAt.keep HOB.out p.ok).c24
                      repeat (first | (go_big_quiet_want; refine quiet_ld _ rfl w.heap.size rfl a FA.out ?_; simp only [Act.put, List.setIfInBounds_toArray, List.set_cons_zero, List.set_cons_succ]; go_big_quiet_on) | (go_big_quiet_want; refine quiet_ld _ rfl (w.heap.size + 1) rfl b FB.out ?_; simp only [Act.put, List.setIfInBounds_toArray, List.set_cons_zero, List.set_cons_succ]; go_big_quiet_on) | go_big_quiet_step (first | (go_at_call 67; with_reducible exact Calls.later_of (Nat.le_refl _) (op_simpleOf _ _)) | (go_at_call 68; with_reducible exact Calls.later_of (Nat.le_refl _) (kl _ (ha1 _) (hb1 _)))))
                      refine wpQuiet_nil ?_
                      rintro _ ⟨p, rfl⟩
                      have HP := hid p.ok
                      generalize p.val = w2 at HP
                      clear q0 q1 q2 q3 q4 q5 q6 q7 q8 q9 fa0 fb0 fa1 fb1 fa2 fb2 fa3 fb3 fa4 fb4 fa5 fb5 fa6 fb6 fa7 fb7 fa8 fb8 fa9 fb9 fa10 fb10 fa11 fb11 fa12 fb12 fa13 fb13 fa14 fb14 fa15 fb15 fa16 fb16 fa21 fb21 fa22 fb22 fa23 fb23 fa24 fb24
                      go_wp2
                      go_ret
                      exact ⟨rfl, HW.out.trans (HP.out.mono HW.out.size)⟩
                    · skip
                      cases e10
                      · have q0 := HQ0.out
                        have q1 := HQ1.out
                        have q2 := HZ2.out
                        have q3 := HZ3.out
                        have q4 := HQ4.out
                        have q5 := HZ5.out
                        have q6 := HQ6.out
                        have q7 := HQ7.out
                        have q8 := HQ8.out
                        have q9 := HQ9.out
                        have kl := HKL.out
                        have fa0 := fun p : Later wd.heap.size wd => (OpAt.keep HOA.out p.ok).c0
                        have fb0 := fun p : Later wd.heap.size wd => (OpAt.keep HOB.out p.ok).c0
                        have fa1 := fun p : Later wd.heap.size wd => (OpAt.keep HOA.out p.ok).c1
                        have fb1 := fun p : Later wd.heap.size wd => (OpAt.keep HOB.out p.ok).c1
                        have fa2 := fun p : Later wd.heap.size wd => (OpAt.keep HOA.out p.ok).c2
                        have fb2 := fun p : Later wd.heap.size wd => (OpAt.keep HOB.out p.ok).c2
                        have fa3 := fun p : Later wd.heap.size wd => (OpAt.keep HOA.out p.ok).c3
                        have fb3 := fun p : Later wd.heap.size wd => (OpAt.keep HOB.out p.ok).c3
                        have fa4 := fun p : Later wd.heap.size wd => (OpAt.keep HOA.out p.ok).c4
                        have fb4 := fun p : Later wd.heap.size wd => (OpAt.keep HOB.out p.ok).c4
                        have fa5 := fun p : Later wd.heap.size wd => (OpAt.keep HOA.out p.ok).c5
                        have fb5 := fun p : Later wd.heap.size wd => (OpAt.keep HOB.out p.ok).c5
                        have fa6 := fun p : Later wd.heap.size wd => (OpAt.keep HOA.out p.ok).c6
                        have fb6 := fun p : Later wd.heap.size wd => (OpAt.keep HOB.out p.ok).c6
                        have fa7 := fun p : Later wd.heap.size wd => (OpAt.keep HOA.out p.ok).c7
                        have fb7 := fun p : Later wd.heap.size wd => (OpAt.keep HOB.out p.ok).c7
                        have fa8 := fun p : Later wd.heap.size wd => (OpAt.keep HOA.out p.ok).c8
                        have fb8 := fun p : Later wd.heap.size wd => (OpAt.keep HOB.out p.ok).c8
                        have fa9 := fun p : Later wd.heap.size wd => (OpAt.keep HOA.out p.ok).c9
                        have fb9 := fun p : Later wd.heap.size wd => (OpAt.keep HOB.out p.ok).c9
                        have fa10 := fun p : Later wd.heap.size wd => (OpAt.keep HOA.out p.ok).c10
                        have fb10 := fun p : Later wd.heap.size wd => (OpAt.keep HOB.out p.ok).c10
                        have fa11 := fun p : Later wd.heap.size wd => (OpAt.keep HOA.out p.ok).c11
                        have fb11 := fun p : Later wd.heap.size wd => (OpAt.keep HOB.out p.ok).c11
                        have fa12 := fun p : Later wd.heap.size wd => (OpAt.keep HOA.out p.ok).c12
                        have fb12 := fun p : Later wd.heap.size wd => (OpAt.keep HOB.out p.ok).c12
                        have fa13 := fun p : Later wd.heap.size wd => (OpAt.keep HOA.out p.ok).c13
                        have fb13 := fun p : Later wd.heap.size wd => (OpAt.keep HOB.out p.ok).c13
                        have fa14 := fun p : Later wd.heap.size wd => (OpAt.keep HOA.out p.ok).c14
                        have fb14 := fun p : Later wd.heap.size wd => (OpAt.keep HOB.out p.ok).c14
                        have fa15 := fun p : Later wd.heap.size wd => (OpAt.keep HOA.out p.ok).c15
                        have fb15 := fun p : Later wd.heap.size wd => (OpAt.keep HOB.out p.ok).c15
                        have fa16 := fun p : Later wd.heap.size wd => (OpAt.keep HOA.out p.ok).c16
                        have fb16 := fun p : Later wd.heap.size wd => (OpAt.keep HOB.out p.ok).c16
                        have fa21 := fun p : Later wd.heap.size wd => (OpAt.keep HOA.out p.ok).c21
                        have fb21 := fun p : Later wd.heap.size wd => (OpAt.keep HOB.out p.ok).c21
                        have fa22 := fun p : Later wd.heap.size wd => (OpAt.keep HOA.out p.ok).c22
                        have fb22 := fun p : Later wd.heap.size wd => (OpAt.keep HOB.out p.ok).c22
                        have fa23 := fun p : Later wd.heap.size wd => (OpAt.keep HOA.out p.ok).c23
                        have fb23 := fun p : Later wd.heap.size wd => (OpAt.keep HOB.out p.ok).c23
                        have fa24 := fun p : Later wd.heap.size wd => (OpAt.keep HOA.out p.ok).c24
                        have fb24 := fun p : Later wd.heap.size wd => (OpAt.keep HOB.out p.ok).c24
                        have fa28 := fun p : Later wd.heap.size wd => (OpAt.keep HOA.out p.ok).c28
                        have fb28 := fun p : Later wd.heap.size wd => (OpAt.keep HOB.out p.ok).c28
                        have ha1 := fun p : Later wd.heap.size wd => HVA.out.keep (below_next HW.out p.ok)
                        have hb1 := fun p : Later wd.heap.size wd => HVB.out.keep (below_next HW.out p.ok)
                        repeat (first | (go_big_quiet_want; refine quiet_ld _ rfl w.heap.size rfl a FA.out ?_; simp only [Act.put, List.setIfInBounds_toArray, List.set_cons_zero, List.set_cons_succ]; go_big_quiet_on) | (go_big_quiet_want; refine quiet_ld _ rfl (w.heap.size + 1) rfl b FB.out ?_; simp only [Act.put, List.setIfInBounds_toArray, List.set_cons_zero, List.set_cons_succ]; go_big_quiet_on) | go_big_quiet_step (first | (go_at_call 67; with_reducible exact Calls.later_of (Nat.le_refl _) (op_simpleOf _ _)) | (go_at_call 68; with_reducible exact Calls.later_of (Nat.le_refl _) (kl _ (ha1 _) (hb1 _)))))
                        refine wpQuiet_nil ?_
                        rintro _ ⟨p, rfl⟩
                        have HP := hid p.ok
                        generalize p.val = w2 at HP
                        clear q0 q1 q2 q3 q4 q5 q6 q7 q8 q9 kl fa0 fb0 fa1 fb1 fa2 fb2 fa3 fb3 fa4 fb4 fa5 fb5 fa6 fb6 fa7 fb7 fa8 fb8 fa9 fb9 fa10 fb10 fa11 fb11 fa12 fb12 fa13 fb13 fa14 fb14 fa15 fb15 fa16 fb16 fa21 fb21 fa22 fb22 fa23 fb23 fa24 fb24 fa28 fb28 ha1 hb1
                        go_wp2
                        go_ret
                        exact ⟨rfl, HW.out.trans (HP.out.mono HW.out.size)⟩
                      · have q0 := HQ0.out
                        have q1 := HQ1.out
                        have q2 := HZ2.out
                        have q3 := HZ3.out
                        have q4 := HQ4.out
                        have q5 := HZ5.out
                        have q6 := HQ6.out
                        have q7 := HQ7.out
                        have q8 := HQ8.out
                        have q9 := HQ9.out
                        have kl := HKL.out
                        have fa0 := fun p : Later wd.heap.size wd => (OpAt.keep HOA.out p.ok).c0
                        have fb0 := fun p : Later wd.heap.size wd => (OpAt.keep HOB.out p.ok).c0
                        have fa1 := fun p : Later wd.heap.size wd => (OpAt.keep HOA.out p.ok).c1
                        have fb1 := fun p : Later wd.heap.size wd => (OpAt.keep HOB.out p.ok).c1
                        have fa2 := fun p : Later wd.heap.size wd => (OpAt.keep HOA.out p.ok).c2
                        have fb2 := fun p : Later wd.heap.size wd => (OpAt.keep HOB.out p.ok).c2
                        have fa3 := fun p : Later wd.heap.size wd => (OpAt.keep HOA.out p.ok).c3
                        have fb3 := fun p : Later wd.heap.size wd => (OpAt.keep HOB.out p.ok).c3
                        have fa4 := fun p : Later wd.heap.size wd => (OpAt.keep HOA.out p.ok).c4
                        have fb4 := fun p : Later wd.heap.size wd => (OpAt.keep HOB.out p.ok).c4
                        have fa5 := fun p : Later wd.heap.size wd => (OpAt.keep HOA.out p.ok).c5
                        have fb5 := fun p : Later wd.heap.size wd => (OpAt.keep HOB.out p.ok).c5
                        have fa6 := fun p : Later wd.heap.size wd => (OpAt.keep HOA.out p.ok).c6
                        have fb6 := fun p : Later wd.heap.size wd => (OpAt.keep HOB.out p.ok).c6
                        have fa7 := fun p : Later wd.heap.size wd => (OpAt.keep HOA.out p.ok).c7
                        have fb7 := fun p : Later wd.heap.size wd => (OpAt.keep HOB.out p.ok).c7
                        have fa8 := fun p : Later wd.heap.size wd => (OpAt.keep HOA.out p.ok).c8
                        have fb8 := fun p : Later wd.heap.size wd => (OpAt.keep HOB.out p.ok).c8
                        have fa9 := fun p : Later wd.heap.size wd => (OpAt.keep HOA.out p.ok).c9
                        have fb9 := fun p : Later wd.heap.size wd => (OpAt.keep HOB.out p.ok).c9
                        have fa10 := fun p : Later wd.heap.size wd => (OpAt.keep HOA.out p.ok).c10
                        have fb10 := fun p : Later wd.heap.size wd => (OpAt.keep HOB.out p.ok).c10
                        have fa11 := fun p : Later wd.heap.size wd => (OpAt.keep HOA.out p.ok).c11
                        have fb11 := fun p : Later wd.heap.size wd => (OpAt.keep HOB.out p.ok).c11
                        have fa12 := fun p : Later wd.heap.size wd => (OpAt.keep HOA.out p.ok).c12
                        have fb12 := fun p : Later wd.heap.size wd => (OpAt.keep HOB.out p.ok).c12
                        have fa13 := fun p : Later wd.heap.size wd => (OpAt.keep HOA.out p.ok).c13
                        have fb13 := fun p : Later wd.heap.size wd => (OpAt.keep HOB.out p.ok).c13
                        have fa14 := fun p : Later wd.heap.size wd => (OpAt.keep HOA.out p.ok).c14
                        have fb14 := fun p : Later wd.heap.size wd => (OpAt.keep HOB.out p.ok).c14
                        have fa15 := fun p : Later wd.heap.size wd => (OpAt.keep HOA.out p.ok).c15
                        have fb15 := fun p : Later wd.heap.size wd => (OpAt.keep HOB.out p.ok).c15
                        have fa16 := fun p : Later wd.heap.size wd => (OpAt.keep HOA.out p.ok).c16
                        have fb16 := fun p : Later wd.heap.size wd => (OpAt.keep HOB.out p.ok).c16
                        have fa21 := fun p : Later wd.heap.size wd => (OpAt.keep HOA.out p.ok).c21
                        have fb21 := fun p : Later wd.heap.size wd => (OpAt.keep HOB.out p.ok).c21
                        have fa22 := fun p : Later wd.heap.size wd => (OpAt.keep HOA.out p.ok).c22
                        have fb22 := fun p : Later wd.heap.size wd => (OpAt.keep HOB.out p.ok).c22
                        have fa23 := fun p : Later wd.heap.size wd => (OpAt.keep HOA.out p.ok).c23
                        have fb23 := fun p : Later wd.heap.size wd => (OpAt.keep HOB.out p.ok).c23
                        have fa24 := fun p : Later wd.heap.size wd => (OpAt.keep HOA.out p.ok).c24
                        have fb24 := fun p : Later wd.heap.size wd => (OpAt.keep HOB.out p.ok).c24
                        have fa28 := fun p : Later wd.heap.size wd => (OpAt.keep HOA.out p.ok).c28
                        have fb28 := fun p : Later wd.heap.size wd => (OpAt.keep HOB.out p.ok).c28
                        have ha1 := fun p : Later wd.heap.size wd => HVA.out.keep (below_next HW.out p.ok)
                        have hb1 := fun p : Later wd.heap.size wd => HVB.out.keep (below_next HW.out p.ok)
                        repeat (first | (go_big_quiet_want; refine quiet_ld _ rfl w.heap.size rfl a FA.out ?_; simp only [Act.put, List.setIfInBounds_toArray, List.set_cons_zero, List.set_cons_succ]; go_big_quiet_on) | (go_big_quiet_want; refine quiet_ld _ rfl (w.heap.size + 1) rfl b FB.out ?_; simp only [Act.put, List.setIfInBounds_toArray, List.set_cons_zero, List.set_cons_succ]; go_big_quiet_on) | go_big_quiet_step (first | (go_at_call 67; with_reducible exact Calls.later_of (Nat.le_refl _) (op_simpleOf _ _)) | (go_at_call 68; with_reducible exact Calls.later_of (Nat.le_refl _) (kl _ (ha1 _) (hb1 _)))))
                        refine wpQuiet_nil ?_
                        rintro _ ⟨p, rfl⟩
                        have HP := hid p.ok
                        generalize p.val = w2 at HP
                        clear q0 q1 q2 q3 q4 q5 q6 q7 q8 q9 kl fa0 fb0 fa1 fb1 fa2 fb2 fa3 fb3 fa4 fb4 fa5 fb5 fa6 fb6 fa7 fb7 fa8 fb8 fa9 fb9 fa10 fb10 fa11 fb11 fa12 fb12 fa13 fb13 fa14 fb14 fa15 fb15 fa16 fb16 fa21 fb21 fa22 fb22 fa23 fb23 fa24 fb24 fa28 fb28 ha1 hb1
                        go_wp2
                        go_ret
                        exact ⟨rfl, HW.out.trans (HP.out.mono HW.out.size)⟩

end Go.Proofs.Ytagjgknkkbkjgaa.V
