/-
  Vectors' operations in a region that draws its order, one law each.
-/
import Derived.Test.YtckfdjfcikljaaaLawVW
import Derived.Test.YtckfdjfcikljaaaVFl
import Derived.BigCall
import Derived.Great.BuildSlice
import Derived.Deep.Cut
namespace Go.Proofs.Ytckfdjfcikljaaa
set_option linter.unusedVariables false
set_option linter.unusedSimpArgs false
set_option maxRecDepth 100000
open Go Go.RowKit Go.Maps

theorem vecsV_at {W : World} {g : Nat} {l : List Vec} (hg : W.heap[g]? = some (.cells (flatV l).toArray 24 (0, 0))) (hok : ∀ d ∈ l, okV d) (hl : l.length ≤ 1000000) : VecsV W (.slice (some ⟨g, 0, none⟩) l.length l.length) l := by
  have ho : W.ownsRow 0 24 8 (.slice (some ⟨g, 0, none⟩) l.length l.length) l.length (flatV l) :=
    ⟨flatV_length l, .inr ⟨g, l.length, _, rfl, Nat.zero_le _, hg, Nat.le_refl _, by unfold maxLen; omega, by simp [flatV_length], List.take_of_length_le (by simp [flatV_length])⟩⟩
  exact owns_vecsV ho hok
theorem sizeV (x : Vec) : (Try.prog.info? 24).map (·.size) = some (vc x).size := by
  show _ = some 8
  kernel_rfl
theorem fn_Merge (args : Array Value) (w : World) : (callFunc 24 args).run Try.prog w = .ok (.enter 24 args) w := by rfl
theorem fn_Meet (args : Array Value) (w : World) : (callFunc 26 args).run Try.prog w = .ok (.enter 26 args) w := by rfl
theorem fn_Above (args : Array Value) (w : World) : (callFunc 14 args).run Try.prog w = .ok (.enter 14 args) w := by rfl
theorem fn_head (args : Array Value) (w : World) : (callFunc 23 args).run Try.prog w = .ok (.enter 23 args) w := by rfl

section
variable {ops : Array Oper} {Q : Exit → Act → World → Prop} {tgt : Nat → Option Nat} {F : Nat → Fa} {a0 : Act} {w0 : World} {k : Nat} {op : Oper}

theorem writes_ne {s : Nat} (h : writes ops s = false) (i : Nat) : dstAt ops i ≠ some s := by
  intro e
  unfold dstAt at e
  cases ho : ops[i]? with
  | none => rw [ho] at e; cases e
  | some o =>
    rw [ho] at e
    have e2 : o.dst = some s := e
    have hm : o ∈ ops.toList := by
      rw [← Array.getElem?_toList] at ho
      exact List.mem_of_getElem? ho
    have := List.any_eq_false.1 h o hm
    rw [e2] at this
    simp at this
theorem eval_base {a : Act} (hb : BaseA ops a0 a) {s : Nat} (hs : writes ops s = false) : a.eval (.tmp s) = a0.tmps.getD s undef := by
  show a.tmps.getD s undef = _
  rw [Array.getD_eq_getD_getElem?, Array.getD_eq_getD_getElem?, hb.rest s (writes_ne hs)]
theorem eval_at {a : Act} {i s : Nat} (h : dstAt ops i = some s) : a.eval (.tmp s) = valAt ops a i := by
  show a.tmps.getD s undef = _
  unfold valAt; rw [h]
theorem eval_eq {a : Act} {i s : Nat} {o : Nat → Nat} {w : World} {B : Nat} {c : Value} (h : dstAt ops i = some s) (n : (needOf op).testBit i = true) (f : F i = .eq c)
    (hn : ∀ i, (needOf op).testBit i = true → (F i).holds B i o (valAt ops a i) w) : a.eval (.tmp s) = c := by
  have := hn i n
  rw [f] at this
  exact (eval_at h).trans this

theorem v_load (s g : Nat) (x : Vec) (ho : op.op = .load 24 (.tmp s)) (hF : F k = .eq (.agg (vc x))) (hd : op.dst.isSome = true) (hg : guardOK ops F op) (hs : writes ops s = false)
    (h0 : a0.tmps.getD s undef = .pointer (some ⟨g, 0, none⟩)) (hx : w0.heap[g]? = some (.cells (vc x) 24 (0, 0))) : StepOK Try.prog ops Q tgt F a0 w0 k op :=
  flow_val (.agg (vc x)) hF hd hg (fun o a w hb hB hn => by
    have h1 : a.eval (.tmp s) = .pointer (some ⟨g, 0, none⟩) := (eval_base hb hs).trans h0
    have h2 : w.heap[g]? = some (.cells (vc x) 24 (0, 0)) := (hB.block g (Array.getElem?_eq_some_iff.1 hx).1).trans hx
    unfold execOp
    simp only [ho, h1, Instr.loadAt, Instr.sureAddr, Sem.run_bind, Sem.run_pure, Result.andThen_ok, run_loadVar_row w g 24 24 _ _ _ h2 Try.underlying24 rfl (sizeV x)])
theorem infoVec' : ∃ ie, Try.prog.info? 24 = some ie ∧ ie.zero = some (.agg #[.int .u32 0, .int .u32 0, .int .u32 0, .int .u32 0, .int .u32 0, .int .u32 0, .int .u32 0, .int .u32 0]) ∧ ie.size = 8 := by
  have h := infoVec
  cases hi : Try.prog.info? 24 with
  | none => rw [hi] at h; cases h
  | some ie =>
    rw [hi] at h
    simp only [Option.map_some, Option.some.injEq, Prod.mk.injEq] at h
    exact ⟨ie, rfl, h.1, h.2.1⟩
theorem base16 : (Array.range (2 * 8)).map ((Value.agg #[.int .u32 0, .int .u32 0, .int .u32 0, .int .u32 0, .int .u32 0, .int .u32 0, .int .u32 0, .int .u32 0]).cells[· % (Value.agg #[.int .u32 0, .int .u32 0, .int .u32 0, .int .u32 0, .int .u32 0, .int .u32 0, .int .u32 0, .int .u32 0]).cells.size]!) = #[.int .u32 0, .int .u32 0, .int .u32 0, .int .u32 0, .int .u32 0, .int .u32 0, .int .u32 0, .int .u32 0, .int .u32 0, .int .u32 0, .int .u32 0, .int .u32 0, .int .u32 0, .int .u32 0, .int .u32 0, .int .u32 0] := by kernel_rfl
theorem base24 : (Array.range (3 * 8)).map ((Value.agg #[.int .u32 0, .int .u32 0, .int .u32 0, .int .u32 0, .int .u32 0, .int .u32 0, .int .u32 0, .int .u32 0]).cells[· % (Value.agg #[.int .u32 0, .int .u32 0, .int .u32 0, .int .u32 0, .int .u32 0, .int .u32 0, .int .u32 0, .int .u32 0]).cells.size]!) = #[.int .u32 0, .int .u32 0, .int .u32 0, .int .u32 0, .int .u32 0, .int .u32 0, .int .u32 0, .int .u32 0, .int .u32 0, .int .u32 0, .int .u32 0, .int .u32 0, .int .u32 0, .int .u32 0, .int .u32 0, .int .u32 0, .int .u32 0, .int .u32 0, .int .u32 0, .int .u32 0, .int .u32 0, .int .u32 0, .int .u32 0, .int .u32 0] := by kernel_rfl
theorem fill2 (x y : Vec) : Instr.fill (fun i => some (i * 8, 8)) ((Array.range (2 * 8)).map ((Value.agg #[.int .u32 0, .int .u32 0, .int .u32 0, .int .u32 0, .int .u32 0, .int .u32 0, .int .u32 0, .int .u32 0]).cells[· % (Value.agg #[.int .u32 0, .int .u32 0, .int .u32 0, .int .u32 0, .int .u32 0, .int .u32 0, .int .u32 0, .int .u32 0]).cells.size]!)) [(0, .agg (vc x)), (1, .agg (vc y))] = some (flatV [x, y]).toArray := by
  rw [base16]
  simp [Instr.fill, vc, flatV, Value.cells]
theorem fill3 (x y u : Vec) : Instr.fill (fun i => some (i * 8, 8)) ((Array.range (3 * 8)).map ((Value.agg #[.int .u32 0, .int .u32 0, .int .u32 0, .int .u32 0, .int .u32 0, .int .u32 0, .int .u32 0, .int .u32 0]).cells[· % (Value.agg #[.int .u32 0, .int .u32 0, .int .u32 0, .int .u32 0, .int .u32 0, .int .u32 0, .int .u32 0, .int .u32 0]).cells.size]!)) [(0, .agg (vc x)), (1, .agg (vc y)), (2, .agg (vc u))] = some (flatV [x, y, u]).toArray := by
  rw [base24]
  simp [Instr.fill, vc, flatV, Value.cells]

theorem v_slice2 (s1 s2 i1 i2 : Nat) (x y : Vec) (ho : op.op = .buildSlice 49 2 #[(0, .tmp s1), (1, .tmp s2)]) (hF : F k = .row 24 2 (flatV [x, y]).toArray) (hd : op.dst.isSome = true) (hg : guardOK ops F op)
    (d1 : dstAt ops i1 = some s1) (n1 : (needOf op).testBit i1 = true) (f1 : F i1 = .eq (.agg (vc x))) (d2 : dstAt ops i2 = some s2) (n2 : (needOf op).testBit i2 = true) (f2 : F i2 = .eq (.agg (vc y))) : StepOK Try.prog ops Q tgt F a0 w0 k op :=
  flow_row _ _ _ hF hd hg (fun o a w hb hB hn => by
    have h1 := eval_eq d1 n1 f1 hn
    have h2 := eval_eq d2 n2 f2 hn
    obtain ⟨ie, hie, hz, hsz⟩ := infoVec'
    have hr := run_buildSlice (P := Try.prog) w 49 24 2 #[(0, .agg (vc x)), (1, .agg (vc y))] (flatV [x, y]).toArray ie _ Try.underlying49 hie hz (by rw [hsz]; decide) (by rw [hsz]; decide) (by rw [hsz]; exact fill2 x y)
    have e : (#[(0, Operand.tmp s1), (1, Operand.tmp s2)].map fun (i, x) => (i, a.eval x)) = #[(0, .agg (vc x)), (1, .agg (vc y))] := by simp [h1, h2]
    unfold execOp
    simp only [ho, e, Sem.run_bind, hr, Result.andThen_ok]
    rfl)
theorem v_slice3 (s1 s2 s3 i1 i2 i3 : Nat) (x y u : Vec) (ho : op.op = .buildSlice 49 3 #[(0, .tmp s1), (1, .tmp s2), (2, .tmp s3)]) (hF : F k = .row 24 3 (flatV [x, y, u]).toArray) (hd : op.dst.isSome = true) (hg : guardOK ops F op)
    (d1 : dstAt ops i1 = some s1) (n1 : (needOf op).testBit i1 = true) (f1 : F i1 = .eq (.agg (vc x))) (d2 : dstAt ops i2 = some s2) (n2 : (needOf op).testBit i2 = true) (f2 : F i2 = .eq (.agg (vc y)))
    (d3 : dstAt ops i3 = some s3) (n3 : (needOf op).testBit i3 = true) (f3 : F i3 = .eq (.agg (vc u))) : StepOK Try.prog ops Q tgt F a0 w0 k op :=
  flow_row _ _ _ hF hd hg (fun o a w hb hB hn => by
    have h1 := eval_eq d1 n1 f1 hn
    have h2 := eval_eq d2 n2 f2 hn
    have h3 := eval_eq d3 n3 f3 hn
    obtain ⟨ie, hie, hz, hsz⟩ := infoVec'
    have hr := run_buildSlice (P := Try.prog) w 49 24 3 #[(0, .agg (vc x)), (1, .agg (vc y)), (2, .agg (vc u))] (flatV [x, y, u]).toArray ie _ Try.underlying49 hie hz (by rw [hsz]; decide) (by rw [hsz]; decide) (by rw [hsz]; exact fill3 x y u)
    have e : (#[(0, Operand.tmp s1), (1, Operand.tmp s2), (2, Operand.tmp s3)].map fun (i, x) => (i, a.eval x)) = #[(0, .agg (vc x)), (1, .agg (vc y)), (2, .agg (vc u))] := by simp [h1, h2, h3]
    unfold execOp
    simp only [ho, e, Sem.run_bind, hr, Result.andThen_ok]
    rfl)
theorem v_call (s i f : Nat) (l : List Vec) (r : Vec) (ats : Array TypeId) (ho : op.op = .call { callee := .value (.func f), args := #[.tmp s], argTypes := ats })
    (hfn : ∀ (args : Array Value) (w : World), (callFunc f args).run Try.prog w = .ok (.enter f args) w)
    (hc : ∀ v W, VecsV W v l → Calls Try.prog f #[v] W fun e w' => e = .returned (.agg (vc r)) ∧ Below W.heap.size W w') (hF : F k = .eq (.agg (vc r))) (hd : op.dst.isSome = true) (hg : guardOK ops F op)
    (d1 : dstAt ops i = some s) (n1 : (needOf op).testBit i = true) (f1 : F i = .row 24 l.length (flatV l).toArray) (hok : ∀ d ∈ l, okV d) (hl : l.length ≤ 1000000) : StepOK Try.prog ops Q tgt F a0 w0 k op :=
  flow_call _ hF hd hg (fun o a w hb hB hn => by
    have h1 := hn i n1
    rw [f1] at h1
    obtain ⟨g, hv, _, _, hgw⟩ := h1
    have he : a.eval (.tmp s) = .slice (some ⟨g, 0, none⟩) l.length l.length := (eval_at d1).trans hv
    refine ⟨f, #[.slice (some ⟨g, 0, none⟩) l.length l.length], ?_, hc _ w (vecsV_at hgw hok hl)⟩
    rw [show execOp a.eval op = callFunc f (#[] ++ #[Operand.tmp s].map a.eval ++ #[]) from by unfold execOp; rw [ho]; rfl, show (#[] ++ #[Operand.tmp s].map a.eval ++ #[] : Array Value) = #[a.eval (.tmp s)] from by simp, he]
    exact hfn _ w)
theorem v_above (s1 s2 i1 i2 : Nat) (x y : Vec) (b : Bool) (ats : Array TypeId) (ho : op.op = .call { callee := .value (.func 14), args := #[.tmp s1, .tmp s2], argTypes := ats })
    (hb' : aboveB x y = b) (hF : F k = .eq (.bool b)) (hd : op.dst.isSome = true) (hg : guardOK ops F op)
    (d1 : dstAt ops i1 = some s1) (n1 : (needOf op).testBit i1 = true) (f1 : F i1 = .eq (.agg (vc x))) (d2 : dstAt ops i2 = some s2) (n2 : (needOf op).testBit i2 = true) (f2 : F i2 = .eq (.agg (vc y))) : StepOK Try.prog ops Q tgt F a0 w0 k op :=
  flow_call _ hF hd hg (fun o a w hb hB hn => by
    have h1 := eval_eq d1 n1 f1 hn
    have h2 := eval_eq d2 n2 f2 hn
    refine ⟨14, #[.agg (vc x), .agg (vc y)], ?_, hb' ▸ vec_Above x y w⟩
    rw [show execOp a.eval op = callFunc 14 (#[] ++ #[Operand.tmp s1, Operand.tmp s2].map a.eval ++ #[]) from by unfold execOp; rw [ho]; rfl, show (#[] ++ #[Operand.tmp s1, Operand.tmp s2].map a.eval ++ #[] : Array Value) = #[a.eval (.tmp s1), a.eval (.tmp s2)] from by simp, h1, h2]
    exact fn_Above _ w)
theorem v_head (ats : Array TypeId) (ho : op.op = .call { callee := .value (.func 23), args := #[], argTypes := ats })
    (hc : HeadOk) (hF : F k = .eq (.bool true)) (hd : op.dst.isSome = true) (hg : guardOK ops F op) : StepOK Try.prog ops Q tgt F a0 w0 k op :=
  flow_call _ hF hd hg (fun o a w hb hB hn => by
    refine ⟨23, #[], ?_, hc w⟩
    rw [show execOp a.eval op = callFunc 23 (#[] ++ (#[] : Array Operand).map a.eval ++ #[]) from by unfold execOp; rw [ho]; rfl, show (#[] ++ (#[] : Array Operand).map a.eval ++ #[] : Array Value) = #[] from by simp]
    exact fn_head _ w)
theorem v_move (s i : Nat) (c : Value) (ho : op.op = .move (.tmp s) ∨ op.op = .assign (.tmp s)) (hF : F k = .eq c) (hd : op.dst.isSome = true) (hg : guardOK ops F op)
    (d1 : dstAt ops i = some s) (n1 : (needOf op).testBit i = true) (f1 : F i = .eq c) : StepOK Try.prog ops Q tgt F a0 w0 k op :=
  flow_val _ hF hd hg (fun o a w hb hB hn => by rw [run_move _ ho, eval_eq d1 n1 f1 hn])
theorem v_not (s i : Nat) (b : Bool) (ho : op.op = .unOp .not 4 (.tmp s)) (hF : F k = .eq (.bool (!b))) (hd : op.dst.isSome = true) (hg : guardOK ops F op)
    (d1 : dstAt ops i = some s) (n1 : (needOf op).testBit i = true) (f1 : F i = .eq (.bool b)) : StepOK Try.prog ops Q tgt F a0 w0 k op :=
  flow_val _ hF hd hg (fun o a w hb hB hn => by
    have h1 := eval_eq d1 n1 f1 hn
    unfold execOp
    simp [ho, h1, Op.unary, asBool])
theorem v_and (s1 i1 s2 i2 : Nat) (b : Bool) (ho : op.op = .pick (.tmp s1) (.tmp s2) (.const (.bool false))) (hF : F k = .eq (.bool b)) (hd : op.dst.isSome = true) (hg : guardOK ops F op)
    (d1 : dstAt ops i1 = some s1) (n1 : (needOf op).testBit i1 = true) (f1 : F i1 = .eq (.bool true)) (d2 : dstAt ops i2 = some s2) (n2 : (needOf op).testBit i2 = true) (f2 : F i2 = .eq (.bool b)) : StepOK Try.prog ops Q tgt F a0 w0 k op :=
  flow_val _ hF hd hg (fun o a w hb hB hn => by
    rw [run_pick _ _ _ ho a w (eval_eq d1 n1 f1 hn)]
    simp only [if_true, eval_eq d2 n2 f2 hn])
theorem v_andF (s1 i1 : Nat) (y : Operand) (ho : op.op = .pick (.tmp s1) y (.const (.bool false))) (hF : F k = .eq (.bool false)) (hd : op.dst.isSome = true) (hg : guardOK ops F op)
    (d1 : dstAt ops i1 = some s1) (n1 : (needOf op).testBit i1 = true) (f1 : F i1 = .eq (.bool false)) : StepOK Try.prog ops Q tgt F a0 w0 k op :=
  flow_val _ hF hd hg (fun o a w hb hB hn => by
    rw [run_pick _ _ _ ho a w (eval_eq d1 n1 f1 hn)]
    rfl)
theorem v_or (s1 i1 s2 i2 : Nat) (b : Bool) (ho : op.op = .pick (.tmp s1) (.const (.bool true)) (.tmp s2)) (hF : F k = .eq (.bool b)) (hd : op.dst.isSome = true) (hg : guardOK ops F op)
    (d1 : dstAt ops i1 = some s1) (n1 : (needOf op).testBit i1 = true) (f1 : F i1 = .eq (.bool false)) (d2 : dstAt ops i2 = some s2) (n2 : (needOf op).testBit i2 = true) (f2 : F i2 = .eq (.bool b)) : StepOK Try.prog ops Q tgt F a0 w0 k op :=
  flow_val _ hF hd hg (fun o a w hb hB hn => by
    rw [run_pick _ _ _ ho a w (eval_eq d1 n1 f1 hn)]
    simp [eval_eq d2 n2 f2 hn])
theorem v_eql (s1 i1 s2 i2 : Nat) (x y : Vec) (b : Bool) (tx : TypeId) (ho : op.op = .binOp .eql 24 (.tmp s1) (.tmp s2) tx) (he : eqV x y = b) (hF : F k = .eq (.bool b)) (hd : op.dst.isSome = true) (hg : guardOK ops F op)
    (d1 : dstAt ops i1 = some s1) (n1 : (needOf op).testBit i1 = true) (f1 : F i1 = .eq (.agg (vc x))) (d2 : dstAt ops i2 = some s2) (n2 : (needOf op).testBit i2 = true) (f2 : F i2 = .eq (.agg (vc y))) : StepOK Try.prog ops Q tgt F a0 w0 k op :=
  flow_val _ hF hd hg (fun o a w hb hB hn => by
    have h1 := eval_eq d1 n1 f1 hn
    have h2 := eval_eq d2 n2 f2 hn
    have hr : (Op.equalIn 10000 24 (.agg (vc x)) (.agg (vc y))).run Try.prog w = .ok b w := he ▸ eq_vec x y w
    unfold execOp
    simp only [ho, h1, h2]
    go_simp)
theorem v_neq (s1 i1 s2 i2 : Nat) (x y : Vec) (b : Bool) (tx : TypeId) (ho : op.op = .binOp .neq 24 (.tmp s1) (.tmp s2) tx) (he : eqV x y = b) (hF : F k = .eq (.bool (!b))) (hd : op.dst.isSome = true) (hg : guardOK ops F op)
    (d1 : dstAt ops i1 = some s1) (n1 : (needOf op).testBit i1 = true) (f1 : F i1 = .eq (.agg (vc x))) (d2 : dstAt ops i2 = some s2) (n2 : (needOf op).testBit i2 = true) (f2 : F i2 = .eq (.agg (vc y))) : StepOK Try.prog ops Q tgt F a0 w0 k op :=
  flow_val _ hF hd hg (fun o a w hb hB hn => by
    have h1 := eval_eq d1 n1 f1 hn
    have h2 := eval_eq d2 n2 f2 hn
    have hr : (Op.equalIn 10000 24 (.agg (vc x)) (.agg (vc y))).run Try.prog w = .ok b w := he ▸ eq_vec x y w
    unfold execOp
    simp only [ho, h1, h2]
    go_simp)
theorem v_beql (s1 i1 s2 i2 : Nat) (b : Bool) (tx : TypeId) (ho : op.op = .binOp .eql 4 (.tmp s1) (.tmp s2) tx) (hF : F k = .eq (.bool true)) (hd : op.dst.isSome = true) (hg : guardOK ops F op)
    (d1 : dstAt ops i1 = some s1) (n1 : (needOf op).testBit i1 = true) (f1 : F i1 = .eq (.bool b)) (d2 : dstAt ops i2 = some s2) (n2 : (needOf op).testBit i2 = true) (f2 : F i2 = .eq (.bool b)) : StepOK Try.prog ops Q tgt F a0 w0 k op :=
  flow_val _ hF hd hg (fun o a w hb hB hn => by
    have h1 := eval_eq d1 n1 f1 hn
    have h2 := eval_eq d2 n2 f2 hn
    unfold execOp
    simp only [ho, h1, h2]
    cases b <;> go_simp)
theorem v_box (ho : op.op = .alloc 24) (hF : F k = .box 24 8) (hd : op.dst.isSome = true) (hg : guardOK ops F op) : StepOK Try.prog ops Q tgt F a0 w0 k op :=
  flow_box 24 8 #[.int .u32 0, .int .u32 0, .int .u32 0, .int .u32 0, .int .u32 0, .int .u32 0, .int .u32 0, .int .u32 0] rfl hF hd hg (fun o a w hb hB hn => by
    unfold execOp
    simp only [ho]
    go_simp)
theorem v_put (s1 s2 i j : Nat) (x : Vec) (ho : op.op = .store 24 (.tmp s1) (.tmp s2)) (htgt : tgt k = some j) (hF : F k = .put j 24 (vc x)) (hg : guardOK ops F op)
    (d1 : dstAt ops j = some s1) (n1 : (needOf op).testBit j = true) (f1 : F j = .box 24 8) (d2 : dstAt ops i = some s2) (n2 : (needOf op).testBit i = true) (f2 : F i = .eq (.agg (vc x))) : StepOK Try.prog ops Q tgt F a0 w0 k op :=
  flow_put j 8 24 (vc x) rfl htgt n1 f1 hF hg (fun o a w g old hb hB hn hv hold hsz => by
    have h1 : a.eval (.tmp s1) = .pointer (some ⟨g, 0, none⟩) := (eval_at d1).trans hv
    have h2 := eval_eq d2 n2 f2 hn
    unfold execOp
    simp only [ho, h1, h2, Instr.storeAt, Instr.sureAddr, Sem.run_bind, Sem.run_pure, Result.andThen_ok, run_storeVar_row w g 24 24 old (vc x) hold (sizeV x) hsz (by simp [vc, Value.oneCell'])])
end
end Go.Proofs.Ytckfdjfcikljaaa
