/-
  Operations of a region, a line each: what each yields, from what it looks at; guards as booleans.
-/
import Derived.Test.YtagjgknkkbkjgaaJF
import Derived.Test.YtagjgknkkbkjgaaJV
import Derived.BigCall
import Derived.Great.BuildSlice
namespace Go.Proofs.Ytagjgknkkbkjgaa.V
set_option linter.unusedVariables false
set_option linter.unusedSimpArgs false
set_option maxRecDepth 100000
open Go Go.RowKit Go.Maps Wire

/-- A value that is there if the guard holds. -/
def gd (g : Bool) (v : Value) : Value := bif g then v else undef
theorem gd_t {g : Bool} {v : Value} (h : g = true) : gd g v = v := by rw [h]; rfl
theorem gd_f {g : Bool} {v : Value} (h : g = false) : gd g v = undef := by rw [h]; rfl
theorem and_l {p q : Bool} (h : (p && q) = true) : p = true := by cases p <;> simp_all
theorem and_tt {p q : Bool} (h : p = true) (k : q = true) : (p && q) = true := by rw [h, k]; rfl
theorem not_t {p : Bool} (h : p = false) : (!p) = true := by rw [h]; rfl
theorem fe {f : Fa} {u v : Value} (h : f = .eq u) (e : u = v) : f = .eq v := by rw [h, e]
theorem gu_t {p : Bool} : (Value.bool p = .bool true) ↔ p = true := by simp
theorem gu_f {p : Bool} : (Value.bool p = .bool false) ↔ (!p) = true := by simp
theorem gu_gt {g p : Bool} : (gd g (.bool p) = .bool true) ↔ (g && p) = true := by cases g <;> simp [gd, undef]
theorem gu_gf {g p : Bool} : (gd g (.bool p) = .bool false) ↔ (g && !p) = true := by cases g <;> simp [gd, undef]

section
variable {ops : Array Oper} {Q : Exit → Act → World → Prop} {tgt : Nat → Option Nat} {F : Nat → Fa} {a0 : Act} {w0 : World} {k : Nat} {op : Oper}

theorem writes_ne {s : Nat} (h : writes ops s = false) (i : Nat) : dstAt ops i ≠ some s := by
  intro e
  unfold dstAt at e
  cases ho : ops[i]? with
  | none => rw [ho] at e; cases e
  | some o =>
    rw [ho] at e
    have e2 : o.dst = some s := e
    have hm : o ∈ ops.toList := by
      rw [← Array.getElem?_toList] at ho
      exact List.mem_of_getElem? ho
    have := List.any_eq_false.1 h o hm
    rw [e2] at this
    simp at this
theorem eval_base {a : Act} (hb : BaseA ops a0 a) {s : Nat} {v : Value} (hs : writes ops s = false) (h0 : a0.tmps.getD s undef = v) : a.eval (.tmp s) = v := by
  show a.tmps.getD s undef = _
  rw [← h0, Array.getD_eq_getD_getElem?, Array.getD_eq_getD_getElem?, hb.rest s (writes_ne hs)]
theorem eval_at {a : Act} {i s : Nat} (h : dstAt ops i = some s) : a.eval (.tmp s) = valAt ops a i := by
  show a.tmps.getD s undef = _
  unfold valAt; rw [h]
theorem eval_eq {a : Act} {i s : Nat} {o : Nat → Nat} {w : World} {B : Nat} {c : Value} (h : dstAt ops i = some s) (n : (needOf op).testBit i = true) (f : F i = .eq c)
    (hn : ∀ i, (needOf op).testBit i = true → (F i).holds B i o (valAt ops a i) w) : a.eval (.tmp s) = c := by
  have := hn i n
  rw [f] at this
  exact (eval_at h).trans this

/-- What an operand yields when its inputs have come up. -/
def Ev (ops : Array Oper) (F : Nat → Fa) (a0 : Act) (w0 : World) (op : Oper) (x : Operand) (v : Value) : Prop :=
  ∀ (o : Nat → Nat) (a : Act) (w : World), BaseA ops a0 a → (∀ i, (needOf op).testBit i = true → (F i).holds w0.heap.size i o (valAt ops a i) w) → a.eval x = v
theorem Ev.const {v : Value} : Ev ops F a0 w0 op (.const v) v := fun _ _ _ _ _ => rfl
theorem Ev.fn {f : Nat} : Ev ops F a0 w0 op (.func f) (.func (.func f) #[] #[]) := fun _ _ _ _ _ => rfl
theorem Ev.out {s : Nat} {v : Value} (hs : writes ops s = false) (h0 : a0.tmps.getD s undef = v) : Ev ops F a0 w0 op (.tmp s) v := fun _ _ _ hb _ => eval_base hb hs h0
theorem Ev.at {i s : Nat} {v : Value} (h : dstAt ops i = some s) (n : (needOf op).testBit i = true) (f : F i = .eq v) : Ev ops F a0 w0 op (.tmp s) v := fun _ _ _ _ hn => eval_eq h n f hn

theorem ev0 : ∀ (o : Nat → Nat) (a : Act) (w : World), BaseA ops a0 a → (∀ i, (needOf op).testBit i = true → (F i).holds w0.heap.size i o (valAt ops a i) w) → (#[] : Array Operand).map a.eval = #[] := fun _ _ _ _ _ => Array.map_empty
theorem ev1 {x : Operand} {u : Value} (h : Ev ops F a0 w0 op x u) : ∀ (o : Nat → Nat) (a : Act) (w : World), BaseA ops a0 a → (∀ i, (needOf op).testBit i = true → (F i).holds w0.heap.size i o (valAt ops a i) w) → (#[x] : Array Operand).map a.eval = #[u] := fun o a w hb hn => by simp [h o a w hb hn]
theorem ev2 {x y : Operand} {u v : Value} (h : Ev ops F a0 w0 op x u) (h2 : Ev ops F a0 w0 op y v) : ∀ (o : Nat → Nat) (a : Act) (w : World), BaseA ops a0 a → (∀ i, (needOf op).testBit i = true → (F i).holds w0.heap.size i o (valAt ops a i) w) → (#[x, y] : Array Operand).map a.eval = #[u, v] := fun o a w hb hn => by simp [h o a w hb hn, h2 o a w hb hn]
theorem ev3 {x y z : Operand} {u v t : Value} (h : Ev ops F a0 w0 op x u) (h2 : Ev ops F a0 w0 op y v) (h3 : Ev ops F a0 w0 op z t) : ∀ (o : Nat → Nat) (a : Act) (w : World), BaseA ops a0 a → (∀ i, (needOf op).testBit i = true → (F i).holds w0.heap.size i o (valAt ops a i) w) → (#[x, y, z] : Array Operand).map a.eval = #[u, v, t] := fun o a w hb hn => by simp [h o a w hb hn, h2 o a w hb hn, h3 o a w hb hn]
def EvAll (ops : Array Oper) (F : Nat → Fa) (a0 : Act) (w0 : World) (op : Oper) (l : List Bool) : List (Nat × Operand) → Prop
  | [] => True
  | p :: r => Ev ops F a0 w0 op p.2 (.bool (l.getD p.1 false)) ∧ EvAll ops F a0 w0 op l r
theorem evAll {l : List Bool} {o : Nat → Nat} {a : Act} {w : World} (hb : BaseA ops a0 a) (hn : ∀ i, (needOf op).testBit i = true → (F i).holds w0.heap.size i o (valAt ops a i) w) :
    ∀ (ps : List (Nat × Operand)), EvAll ops F a0 w0 op l ps → (ps.map fun (i, x) => (i, a.eval x)) = ps.map fun p => (p.1, (Value.bool (l.getD p.1 false)))
  | [], _ => rfl
  | p :: r, h => by
    rw [List.map_cons, List.map_cons, evAll hb hn r h.2]
    show (p.1, a.eval p.2) :: _ = _
    rw [h.1 o a w hb hn]

theorem flow_gd (g : Bool) (c : Value) (j : Nat) (b : Bool) (u : Value) (hgd : op.guard = some (j, b)) (hj : (needOf op).testBit j = true) (hFj : F j = .eq u) (hu : (u = .bool b) ↔ g = true) (hF : F k = .eq (gd g c))
    (h : g = true → F k = .eq c → F j = .eq (.bool b) → StepOK Try.prog ops Q tgt F a0 w0 k op) : StepOK Try.prog ops Q tgt F a0 w0 k op := by
  cases hg : g with
  | true => exact h hg (fe hF (gd_t hg)) (fe hFj (hu.2 hg))
  | false =>
    refine flow_skip j b u hgd (fe hF (gd_f hg)) hj hFj (fun e => ?_)
    rw [hu.1 e] at hg
    cases hg
theorem guard_of {j : Nat} {b : Bool} (hgd : op.guard = some (j, b)) (hj : (needOf op).testBit j = true) (hd : (dstAt ops j).isSome = true) (hFj : F j = .eq (.bool b)) : guardOK ops F op := by
  unfold guardOK
  rw [hgd]
  exact ⟨hFj, hj, hd⟩

theorem v_move {x : Operand} {c : Value} (ho : op.op = .move x ∨ op.op = .assign x) (hF : F k = .eq c) (hd : op.dst.isSome = true) (hg : guardOK ops F op) (h1 : Ev ops F a0 w0 op x c) : StepOK Try.prog ops Q tgt F a0 w0 k op :=
  flow_val _ hF hd hg (fun o a w hb hB hn => by rw [run_move _ ho, h1 o a w hb hn])
theorem v_faddr {x : Operand} {t f : Nat} {u c : Value} (ho : op.op = .fieldAddr t x f) (hr : ∀ w, (Instr.fieldAt t u f).run Try.prog w = .ok c w) (hF : F k = .eq c) (hd : op.dst.isSome = true) (hg : guardOK ops F op) (h1 : Ev ops F a0 w0 op x u) : StepOK Try.prog ops Q tgt F a0 w0 k op :=
  flow_val _ hF hd hg (fun o a w hb hB hn => by
    unfold execOp
    simp only [ho, h1 o a w hb hn, Sem.run_bind, hr, Result.andThen_ok, Sem.run_pure])
theorem v_load {x : Operand} {t : Nat} {u c : Value} (ho : op.op = .load t x) (hr : ∀ w, Below w0.heap.size w0 w → (Instr.loadAt t u).run Try.prog w = .ok c w) (hF : F k = .eq c) (hd : op.dst.isSome = true) (hg : guardOK ops F op) (h1 : Ev ops F a0 w0 op x u) : StepOK Try.prog ops Q tgt F a0 w0 k op :=
  flow_val _ hF hd hg (fun o a w hb hB hn => by
    unfold execOp
    simp only [ho, h1 o a w hb hn, Sem.run_bind, hr w hB, Result.andThen_ok, Sem.run_pure])
theorem v_iaddr {x y : Operand} {t : Nat} {u v c : Value} (ho : op.op = .indexAddr t x y) (hr : ∀ w, (Instr.indexAt t u v).run Try.prog w = .ok c w) (hF : F k = .eq c) (hd : op.dst.isSome = true) (hg : guardOK ops F op) (h1 : Ev ops F a0 w0 op x u) (h2 : Ev ops F a0 w0 op y v) : StepOK Try.prog ops Q tgt F a0 w0 k op :=
  flow_val _ hF hd hg (fun o a w hb hB hn => by
    unfold execOp
    simp only [ho, h1 o a w hb hn, h2 o a w hb hn, Sem.run_bind, hr, Result.andThen_ok, Sem.run_pure])
theorem v_bin {x y : Operand} {b : BinOp} {t tx : Nat} {u v c : Value} (ho : op.op = .binOp b t x y tx) (hr : ∀ w, (do eqGuard b t x y u v; binOp b t u v : Sem Value).run Try.prog w = .ok c w) (hF : F k = .eq c) (hd : op.dst.isSome = true) (hg : guardOK ops F op)
    (h1 : Ev ops F a0 w0 op x u) (h2 : Ev ops F a0 w0 op y v) : StepOK Try.prog ops Q tgt F a0 w0 k op :=
  flow_val _ hF hd hg (fun o a w hb hB hn => by
    unfold execOp
    have := hr w
    rw [Sem.run_bind] at this
    simp only [ho, h1 o a w hb hn, h2 o a w hb hn, Sem.run_bind, this, Result.andThen_ok, Sem.run_pure])
theorem v_un {x : Operand} {b : UnOp} {t : Nat} {u c : Value} (ho : op.op = .unOp b t x) (hr : ∀ w, (Op.unary b u).run Try.prog w = .ok c w) (hF : F k = .eq c) (hd : op.dst.isSome = true) (hg : guardOK ops F op) (h1 : Ev ops F a0 w0 op x u) : StepOK Try.prog ops Q tgt F a0 w0 k op :=
  flow_val _ hF hd hg (fun o a w hb hB hn => by
    unfold execOp
    simp only [ho, h1 o a w hb hn, Sem.run_bind, hr, Result.andThen_ok, Sem.run_pure])
theorem v_not {x : Operand} {t : Nat} {b : Bool} (ho : op.op = .unOp .not t x) (hF : F k = .eq (.bool (!b))) (hd : op.dst.isSome = true) (hg : guardOK ops F op) (h1 : Ev ops F a0 w0 op x (.bool b)) : StepOK Try.prog ops Q tgt F a0 w0 k op :=
  v_un ho (fun w => by simp [Op.unary, asBool]) hF hd hg h1
theorem v_conv {x : Operand} {s t : Nat} {u c : Value} (ho : op.op = .convert s t x) (hr : ∀ w, Below w0.heap.size w0 w → (convert s t u).run Try.prog w = .ok c w) (hF : F k = .eq c) (hd : op.dst.isSome = true) (hg : guardOK ops F op) (h1 : Ev ops F a0 w0 op x u) : StepOK Try.prog ops Q tgt F a0 w0 k op :=
  flow_val _ hF hd hg (fun o a w hb hB hn => by
    unfold execOp
    simp only [ho, h1 o a w hb hn, Sem.run_bind, hr w hB, Result.andThen_ok, Sem.run_pure])
theorem v_ext {x : Operand} {n : Nat} {u c : Value} (ho : op.op = .extract x n) (hr : ∀ w, (Instr.extract u n).run Try.prog w = .ok c w) (hF : F k = .eq c) (hd : op.dst.isSome = true) (hg : guardOK ops F op) (h1 : Ev ops F a0 w0 op x u) : StepOK Try.prog ops Q tgt F a0 w0 k op :=
  flow_val _ hF hd hg (fun o a w hb hB hn => by
    unfold execOp
    simp only [ho, h1 o a w hb hn, Sem.run_bind, hr, Result.andThen_ok, Sem.run_pure])
/-- 'or': its second side is there if the first is false. -/
theorem v_or {x y : Operand} {p q : Bool} (ho : op.op = .pick x (.const (.bool true)) y) (hF : F k = .eq (.bool (p || q))) (hd : op.dst.isSome = true) (hg : guardOK ops F op)
    (h1 : Ev ops F a0 w0 op x (.bool p)) (h2 : p = false → Ev ops F a0 w0 op y (.bool q)) : StepOK Try.prog ops Q tgt F a0 w0 k op :=
  flow_val _ hF hd hg (fun o a w hb hB hn => by
    rw [run_pick _ _ _ ho a w (h1 o a w hb hn)]
    cases hp : p with
    | true => rfl
    | false => rw [h2 hp o a w hb hn]; rfl)
theorem v_and {x y : Operand} {p q : Bool} (ho : op.op = .pick x y (.const (.bool false))) (hF : F k = .eq (.bool (p && q))) (hd : op.dst.isSome = true) (hg : guardOK ops F op)
    (h1 : Ev ops F a0 w0 op x (.bool p)) (h2 : p = true → Ev ops F a0 w0 op y (.bool q)) : StepOK Try.prog ops Q tgt F a0 w0 k op :=
  flow_val _ hF hd hg (fun o a w hb hB hn => by
    rw [run_pick _ _ _ ho a w (h1 o a w hb hn)]
    cases hp : p with
    | true => rw [h2 hp o a w hb hn]; rfl
    | false => rfl)
theorem v_len {x : Operand} {ats : Array Nat} {u c : Value} (ho : op.op = .call { callee := .builtin .len, args := #[x], argTypes := ats }) (hr : ∀ w, (Builtin.len_ ats op.type #[u]).run Try.prog w = .ok c w) (hF : F k = .eq c) (hd : op.dst.isSome = true) (hg : guardOK ops F op)
    (h1 : Ev ops F a0 w0 op x u) : StepOK Try.prog ops Q tgt F a0 w0 k op :=
  flow_val _ hF hd hg (fun o a w hb hB hn => by
    have e := h1 o a w hb hn
    have := hr w
    unfold execOp
    rw [ho]
    simp only [resolve, invoke, List.map_toArray, List.map_cons, List.map_nil, e]
    go_simp)
/-- A call of a function; its arguments are handed over evaluated. -/
theorem v_call {f : Nat} {xs : Array Operand} {ats : Array Nat} {vs : Array Value} {c : Value} (ho : op.op = .call { callee := .value (.func f), args := xs, argTypes := ats })
    (hfn : ∀ (args : Array Value) (w : World), (callFunc f args).run Try.prog w = .ok (.enter f args) w)
    (hc : ∀ w, Below w0.heap.size w0 w → Calls Try.prog f vs w fun e w' => e = .returned c ∧ Below w.heap.size w w') (hF : F k = .eq c) (hd : op.dst.isSome = true) (hg : guardOK ops F op)
    (h1 : ∀ (o : Nat → Nat) (a : Act) (w : World), BaseA ops a0 a → (∀ i, (needOf op).testBit i = true → (F i).holds w0.heap.size i o (valAt ops a i) w) → xs.map a.eval = vs) : StepOK Try.prog ops Q tgt F a0 w0 k op :=
  flow_call _ hF hd hg (fun o a w hb hB hn => by
    refine ⟨f, vs, ?_, hc w hB⟩
    rw [show execOp a.eval op = callFunc f (#[] ++ xs.map a.eval ++ #[]) from by unfold execOp; rw [ho]; rfl, h1 o a w hb hn]
    simp only [Array.empty_append, Array.append_empty]
    exact hfn _ w)
/-- frame.all, called at a new row of booleans. -/
theorem v_all {s i n : Nat} {l : List Bool} {ats : Array Nat} (ho : op.op = .call { callee := .value (.func 30), args := #[.tmp s], argTypes := ats }) (hnl : n = l.length) (hl : l.length ≤ 100)
    (hF : F k = .eq (.bool (l.all id))) (hd : op.dst.isSome = true) (hg : guardOK ops F op)
    (d1 : dstAt ops i = some s) (n1 : (needOf op).testBit i = true) (f1 : F i = .row 4 n (bcells l)) : StepOK Try.prog ops Q tgt F a0 w0 k op :=
  flow_call _ hF hd hg (fun o a w hb hB hn => by
    have h1 := hn i n1
    rw [f1] at h1
    obtain ⟨g, hv, _, _, hgw⟩ := h1
    have he : a.eval (.tmp s) = .slice (some ⟨g, 0, none⟩) n n := (eval_at d1).trans hv
    refine ⟨30, #[.slice (some ⟨g, 0, none⟩) n n], ?_, frame_all l g n hnl hl w hgw⟩
    rw [show execOp a.eval op = callFunc 30 (#[] ++ #[Operand.tmp s].map a.eval ++ #[]) from by unfold execOp; rw [ho]; rfl, show (#[] ++ #[Operand.tmp s].map a.eval ++ #[] : Array Value) = #[a.eval (.tmp s)] from by simp, he]
    rfl)
theorem infoB : ∃ ie, Try.prog.info? 4 = some ie ∧ ie.zero = some (.bool false) ∧ ie.size = 1 := by
  have h : (Try.prog.info? 4).map (fun i => (i.zero, i.size)) = some (some (.bool false), 1) := by kernel_rfl
  cases hi : Try.prog.info? 4 with
  | none => rw [hi] at h; cases h
  | some ie =>
    rw [hi] at h
    simp only [Option.map_some, Option.some.injEq, Prod.mk.injEq] at h
    exact ⟨ie, rfl, h.1, h.2⟩
theorem v_bools {n : Nat} {ps : Array (Nat × Operand)} {l : List Bool} (ho : op.op = .buildSlice 97 n ps)
    (hfill : Instr.fill (fun i => some (i * 1, 1)) ((Array.range (n * 1)).map ((Value.bool false).cells[· % (Value.bool false).cells.size]!)) (ps.toList.map fun p => (p.1, (Value.bool (l.getD p.1 false)))) = some (bcells l))
    (hF : F k = .row 4 n (bcells l)) (hd : op.dst.isSome = true) (hg : guardOK ops F op) (hn0 : n ≤ 100) (hn1 : 1 ≤ n)
    (h1 : EvAll ops F a0 w0 op l ps.toList) : StepOK Try.prog ops Q tgt F a0 w0 k op :=
  flow_row _ _ _ hF hd hg (fun o a w hb hB hn => by
    obtain ⟨ie, hie, hz, hsz⟩ := infoB
    have e : (ps.map fun (i, x) => (i, a.eval x)).toList = ps.toList.map fun p => (p.1, (Value.bool (l.getD p.1 false))) := by rw [Array.toList_map]; exact evAll hb hn _ h1
    have hr := run_buildSlice (P := Try.prog) w 97 4 n (ps.map fun (i, x) => (i, a.eval x)) (bcells l) ie _ Try.underlying97 hie hz (by rw [hsz]; omega) (by rw [hsz]; omega) (by rw [hsz, e]; exact hfill)
    unfold execOp
    simp only [ho, Sem.run_bind, hr, Result.andThen_ok]
    rfl)
end
theorem fld_fr (g : Nat) (w : World) : (Instr.fieldAt 27 (.pointer (some ⟨g, 0, none⟩)) 0).run Try.prog w = .ok (.pointer (some ⟨g, 0, none⟩)) w ∧ (Instr.fieldAt 27 (.pointer (some ⟨g, 0, none⟩)) 1).run Try.prog w = .ok (.pointer (some ⟨g, 1, none⟩)) w ∧
    (Instr.fieldAt 27 (.pointer (some ⟨g, 0, none⟩)) 2).run Try.prog w = .ok (.pointer (some ⟨g, 2, none⟩)) w ∧ (Instr.fieldAt 27 (.pointer (some ⟨g, 0, none⟩)) 3).run Try.prog w = .ok (.pointer (some ⟨g, 3, none⟩)) w ∧
    (Instr.fieldAt 27 (.pointer (some ⟨g, 0, none⟩)) 4).run Try.prog w = .ok (.pointer (some ⟨g, 11, none⟩)) w := by
  refine ⟨?_, ?_, ?_, ?_, ?_⟩ <;> go_simp
theorem ld_u8 {w : World} {g k n : Nat} (h : w.cell? ⟨g, k, none⟩ = some (.int .u8 (n : Int))) : (Instr.loadAt 5 (.pointer (some ⟨g, k, none⟩))).run Try.prog w = .ok (.int .u8 (n : Int)) w := by go_simp
theorem ld_ops {w : World} {g k : Nat} {v : Value} (h : w.cell? ⟨g, k, none⟩ = some v) : (Instr.loadAt 25 (.pointer (some ⟨g, k, none⟩))).run Try.prog w = .ok v w := by go_simp
theorem ld_vec {w : World} {g : Nat} {f : FrM} (h : FrAt w g f) : (Instr.loadAt 24 (.pointer (some ⟨g, 3, none⟩))).run Try.prog w = .ok (.agg (vc f.hv)) w := by
  have hc : w.rangeAt g 3 (vc f.hv).toList := fun j v hv => by
    have hj : j < 8 := by have := (List.getElem?_eq_some_iff.1 hv).1; simpa [vc] using this
    rw [h.cell (3 + j), ← hv, Array.getElem?_toList]
    match j, hj with
    | 0, _ => rfl
    | 1, _ => rfl
    | 2, _ => rfl
    | 3, _ => rfl
    | 4, _ => rfl
    | 5, _ => rfl
    | 6, _ => rfl
    | 7, _ => rfl
  have := run_loadAt_mid (P := Try.prog) w g 3 24 _ _ hc Try.underlying24 rfl (by kernel_rfl)
  simpa using this
theorem len_ops (t : Nat) (p : Option Addr) (n m : Nat) (w : World) : (Builtin.len_ #[25] t #[.slice p n m]).run Try.prog w = .ok (.int .i64 (n : Int)) w := by go_simp
theorem len_str (t : Nat) (s : ByteArray) (w : World) : (Builtin.len_ #[9] t #[.string s]).run Try.prog w = .ok (.int .i64 (s.size : Int)) w := by go_simp
end Go.Proofs.Ytagjgknkkbkjgaa.V
