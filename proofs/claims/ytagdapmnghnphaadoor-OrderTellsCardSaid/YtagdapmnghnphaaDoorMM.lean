/-
  Rows that read alike but for where their lines lie: what is the same of both; what a cut row knows and finds.
-/
import Derived.Test.YtagdapmnghnphaaDoorMH
import Derived.Test.YtagdapmnghnphaaDoorML
namespace Go.Proofs.YtagdapmnghnphaaDoor.V
set_option linter.unusedVariables false
set_option linter.unusedSimpArgs false
set_option maxRecDepth 100000
open Go Go.RowKit Go.Maps Wire

theorem dt_core (x : OC) : dt (core x) = dt x := rfl
theorem known_map (l : List OC) : knownM (l.map core) = knownM l := by
  funext r
  unfold knownM
  rw [List.foldl_map]
  rfl
theorem known_core {l m : List OC} (h : l.map core = m.map core) : knownM l = knownM m := by rw [← known_map l, h, known_map]
theorem cut_map (l : List OC) (v : Vec) : cutM (l.map core) v = (cutM l v).map core := by
  unfold cutM
  rw [List.filter_map]
  rfl
theorem cut_core {l m : List OC} (h : l.map core = m.map core) (v : Vec) : (cutM l v).map core = (cutM m v).map core := by rw [← cut_map, ← cut_map, h]
theorem find_map (l : List OC) (d : Dot) : findM (l.map core) d = (findM l d).map core := by
  unfold findM
  rw [List.find?_map]
  rfl
theorem find_core {l m : List OC} (h : l.map core = m.map core) (d : Dot) : (findM l d).isSome = (findM m d).isSome := by
  have h1 := find_map l d
  rw [h, find_map] at h1
  have := congrArg Option.isSome h1
  simpa using this.symm
theorem len_core {l m : List OC} (h : l.map core = m.map core) : l.length = m.length := by simpa using congrArg List.length h
theorem lens_core {l m : List OC} (h : l.map core = m.map core) {n : Nat} (hm : ∀ x ∈ m, x.2.length ≤ n) : ∀ x ∈ l, x.2.length ≤ n := fun x hx => by
  have h1 : core x ∈ m.map core := h ▸ List.mem_map_of_mem hx
  obtain ⟨y, hy, e⟩ := List.mem_map.1 h1
  have h0 : (core y).2 = (core x).2 := congrArg Prod.snd e
  have h2 : y.2 = x.2 := h0
  rw [← h2]
  exact hm y hy
theorem cut_sub (l : List OC) (v : Vec) : ∀ x ∈ cutM l v, x ∈ l := fun x hx => (List.mem_filter.1 hx).1
theorem cut_le (l : List OC) (v : Vec) : (cutM l v).length ≤ l.length := List.length_filter_le ..
theorem cut_known (l : List OC) (v : Vec) (r : Nat) : knownM (cutM l v) r ≤ knownM l r ∧ knownM (cutM l v) r ≤ v r := by
  rcases known_or (cutM l v) r with e | ⟨x, hx, hr, hn⟩
  · rw [e]; exact ⟨Nat.zero_le _, Nat.zero_le _⟩
  · rw [← hn]
    have hx' : x ∈ l ∧ covB v (dt x) = true := List.mem_filter.1 hx
    obtain ⟨c1, _, c3⟩ := covB_iff.1 hx'.2
    subst hr
    exact ⟨known_ge hx'.1 c1, c3⟩
theorem find_cut {l : List OC} (v : Vec) {x : OC} (hx : x ∈ l) : (findM (cutM l v) (dt x)).isSome = covB v (dt x) := by
  have e : (findM (cutM l v) (dt x)).isSome = true ↔ covB v (dt x) = true := by
    unfold findM cutM
    rw [List.find?_isSome]
    constructor
    · rintro ⟨y, hy, h⟩
      have hd : dt y = dt x := by simpa using h
      rw [← hd]
      exact (List.mem_filter.1 hy).2
    · intro h
      exact ⟨x, List.mem_filter.2 ⟨hx, h⟩, by simp⟩
  cases h1 : covB v (dt x) <;> cases h2 : (findM (cutM l v) (dt x)).isSome <;> simp_all
theorem cut_cut (l : List OC) (x y : Vec) : cutM (cutM l x) y = cutM l (fun i => min (x i) (y i)) := by
  unfold cutM
  rw [List.filter_filter]
  congr 1
  funext z
  have e : (covB y (dt z) && covB x (dt z)) = true ↔ covB (fun i => min (x i) (y i)) (dt z) = true := by
    rw [Bool.and_eq_true, covB_iff, covB_iff, covB_iff]
    constructor
    · rintro ⟨⟨a1, a2, a3⟩, ⟨b1, b2, b3⟩⟩
      exact ⟨a1, a2, by show _ ≤ min _ _; omega⟩
    · rintro ⟨a1, a2, a3⟩
      have a3' : (dt z).2 ≤ min (x (dt z).1) (y (dt z).1) := a3
      exact ⟨⟨a1, a2, by omega⟩, ⟨a1, a2, by omega⟩⟩
  cases h1 : covB (fun i => min (x i) (y i)) (dt z) <;> cases h2 : (covB y (dt z) && covB x (dt z)) <;> simp_all
/-! ### histories -/
theorem check_core (x : OC) (n : Int) : checkM (core x).1 (core x).2 n = checkM x.1 x.2 n := rfl
theorem hist_map (n : Int) (l : List OC) : histM n (l.map core) = histM n l := by
  have h1 : okAll n (l.map core) ↔ okAll n l := by
    unfold okAll
    simp only [List.forall_mem_map]
    exact Iff.rfl
  have h2 : IsHist (l.map core) ↔ IsHist l := by
    unfold IsHist Follows
    rw [List.map_map]
    refine and_congr Iff.rfl ?_
    simp only [List.forall_mem_map]
    refine forall_congr' fun x => forall_congr' fun _ => forall_congr' fun r => forall_congr' fun _ => forall_congr' fun _ => ?_
    constructor
    · rintro ⟨y, hy, h⟩
      obtain ⟨z, hz, rfl⟩ := List.mem_map.1 hy
      exact ⟨z, hz, h⟩
    · rintro ⟨y, hy, h⟩
      exact ⟨core y, List.mem_map_of_mem hy, h⟩
  unfold histM
  by_cases h : n < 1 ∨ 8 < n
  · rw [if_pos h, if_pos h]
  · rw [if_neg h, if_neg h]
    by_cases h3 : okAll n l
    · rw [if_pos h3, if_pos (h1.2 h3)]
      by_cases h4 : IsHist l
      · rw [if_pos h4, if_pos (h2.2 h4)]
      · rw [if_neg h4, if_neg (fun h5 => h4 (h2.1 h5))]
    · rw [if_neg h3, if_neg (fun h5 => h3 (h1.1 h5))]
theorem hist_core {l m : List OC} (h : l.map core = m.map core) (n : Int) : histM n l = histM n m := by rw [← hist_map n l, h, hist_map]
theorem SortOf.map {l s : List OC} (h : SortOf l s) : SortOf (l.map core) (s.map core) := by
  refine ⟨?_, fun x => ?_⟩
  · rw [List.pairwise_map]
    exact h.inc
  · rw [show (l.map core).find? (fun y => dt y == dt x) = (l.find? fun y => dt y == dt x).map core from find_map l (dt x)]
    constructor
    · intro hx
      obtain ⟨y, hy, rfl⟩ := List.mem_map.1 hx
      rw [dt_core, (h.mem y).1 hy]
      rfl
    · intro hf
      obtain ⟨y, hy, rfl⟩ := Option.map_eq_some_iff.1 hf
      rw [dt_core] at hy
      exact List.mem_map_of_mem ((h.mem y).2 hy)
theorem both_map (a b : List OC) : bothM (a.map core) (b.map core) = (bothM a b).map core := by
  unfold bothM
  rw [List.filter_map]
  congr 1
  refine List.filter_congr fun x hx => ?_
  show ((b.map core).find? fun y => dt y == dt (core x)).isSome = _
  rw [show (b.map core).find? (fun y => dt y == dt (core x)) = (b.find? fun y => dt y == dt (core x)).map core from find_map b (dt (core x))]
  rw [Option.isSome_map]
  rfl
end Go.Proofs.YtagdapmnghnphaaDoor.V

namespace Go.Proofs.YtagdapmnghnphaaDoor.V
set_option linter.unusedVariables false
set_option linter.unusedSimpArgs false
set_option maxRecDepth 100000
open Go Go.RowKit Go.Maps Wire

theorem load_vecAt {ops : Array Oper} {rest : List Oper} {c : Oper} {a : Act} {w : World} {Q : Exit → Act → World → Prop} (x : Operand) (ho : c.op = .load 25 x) (hw : Region.wanted c (yielded ops a.tmps) = true)
    (p : Addr) (hx : a.eval x = .pointer (some p)) (v : Vec) (hg : ∀ k, k < 8 → w.cell? (p.add k) = some (.int .u32 (v k : Int)))
    (h : wpList Tryd.prog ops Q rest (a.put c.dst (.agg (vc v))) w) : wpList Tryd.prog ops Q (c :: rest) a w :=
  BigFrame.wpList_want hw fun K hK => by
    have hr : (execOp a.eval c).run Tryd.prog w = .ok (.value (.agg (vc v))) w := by
      unfold execOp
      simp only [ho, hx, Instr.loadAt, Instr.sureAddr, Sem.run_bind, Sem.run_pure, Result.andThen_ok, run_loadVar_dep hg]
    unfold Oper.wp
    rw [hr]
    exact hK _ _ h
theorem load_dotIn {ops : Array Oper} {rest : List Oper} {c : Oper} {a : Act} {w : World} {Q : Exit → Act → World → Prop} (x : Operand) (ho : c.op = .load 30 x) (hw : Region.wanted c (yielded ops a.tmps) = true)
    (p : Addr) (hx : a.eval x = .pointer (some p)) (o : OpM) (hg : OpIn w p o)
    (h : wpList Tryd.prog ops Q rest (a.put c.dst (.agg #[.int .u8 (o.r : Int), .int .u32 (o.n : Int)])) w) : wpList Tryd.prog ops Q (c :: rest) a w :=
  BigFrame.wpList_want hw fun K hK => by
    have hr : (execOp a.eval c).run Tryd.prog w = .ok (.value (.agg #[.int .u8 (o.r : Int), .int .u32 (o.n : Int)])) w := by
      have := ldp_dot hg
      unfold execOp
      simp only [ho, hx, this, Sem.run_bind, Sem.run_pure, Result.andThen_ok]
    unfold Oper.wp
    rw [hr]
    exact hK _ _ h
theorem load_any {ops : Array Oper} {rest : List Oper} {c : Oper} {a : Act} {w : World} {Q : Exit → Act → World → Prop} (x : Operand) (t : Nat) (ho : c.op = .load t x) (hw : Region.wanted c (yielded ops a.tmps) = true)
    (u v : Value) (hx : a.eval x = u) (hr : (Instr.loadAt t u).run Tryd.prog w = .ok v w) (h : wpList Tryd.prog ops Q rest (a.put c.dst v) w) : wpList Tryd.prog ops Q (c :: rest) a w :=
  BigFrame.wpList_want hw fun K hK => by
    have hr2 : (execOp a.eval c).run Tryd.prog w = .ok (.value v) w := by
      unfold execOp
      simp only [ho, hx, hr, Sem.run_bind, Sem.run_pure, Result.andThen_ok]
    unfold Oper.wp
    rw [hr2]
    exact hK _ _ h
theorem ldd_box {g : Nat} {d : Dot} {w : World} (h : w.heap[g]? = some (.cells (dbox d) 30 (0, 0))) : (Instr.loadAt 30 (.pointer (some ⟨g, 0, none⟩))).run Tryd.prog w = .ok (.agg #[.int .u8 (d.1 : Int), .int .u32 (d.2 : Int)]) w := by
  have c0 : w.cell? ⟨g, 0, none⟩ = some (.int .u8 (d.1 : Int)) := (cell_of_heap h).trans rfl
  have c1 : w.cell? ⟨g, 1, none⟩ = some (.int .u32 (d.2 : Int)) := (cell_of_heap h).trans rfl
  go_simp
theorem cov_cond (x : Vec) (d : Dot) : covB x d = (((decide ((d.1 : Int) < 8)) && (decide (0 < (d.2 : Int)))) && (decide ((d.2 : Int) ≤ ((x d.1 : Nat) : Int)))) := by
  have e : covB x d = true ↔ (((decide ((d.1 : Int) < 8)) && (decide (0 < (d.2 : Int)))) && (decide ((d.2 : Int) ≤ ((x d.1 : Nat) : Int)))) = true := by
    rw [covB_iff, Bool.and_eq_true, Bool.and_eq_true, decide_eq_true_eq, decide_eq_true_eq, decide_eq_true_eq]
    omega
  exact Bool.eq_iff_iff.2 e
def two (x y : Vec) : Array Value := vc x ++ vc y
theorem two_size (x y : Vec) : (two x y).size = 16 := by simp [two, vc]
theorem twoV0 (x y : Vec) {k : Nat} (hk : k < 8) : (two x y)[k]? = some (.int .u32 (x k : Int)) := by
  unfold two
  rw [Array.getElem?_append_left (by simp [vc]; omega)]
  exact vc_get x hk
theorem twoV1 (x y : Vec) {k : Nat} (hk : k < 8) : (two x y)[8 + k]? = some (.int .u32 (y k : Int)) := by
  unfold two
  rw [Array.getElem?_append_right (by simp [vc])]
  simp only [show (vc x).size = 8 from rfl, Nat.add_sub_cancel_left]
  exact vc_get y hk
abbrev TwoAt (W : World) (q : Nat) (x y : Vec) : Prop := W.heap[q]? = some (.cells (two x y) 48 (0, 0))
theorem TwoAt.c0 {W : World} {q : Nat} {x y : Vec} (h : TwoAt W q x y) {k : Nat} (hk : k < 8) : W.cell? ⟨q, k, none⟩ = some (.int .u32 (x k : Int)) := (cell_of_heap h).trans (twoV0 x y hk)
theorem TwoAt.c1 {W : World} {q : Nat} {x y : Vec} (h : TwoAt W q x y) {k : Nat} (hk : k < 8) : W.cell? ⟨q, 8 + k, none⟩ = some (.int .u32 (y k : Int)) := (cell_of_heap h).trans (twoV1 x y hk)
theorem iad_two0 (q : Nat) (w : World) : (Instr.indexAt 48 (.pointer (some ⟨q, 0, none⟩)) (.int .i64 0)).run Tryd.prog w = .ok (.pointer (some ⟨q, 0, none⟩)) w := by go_simp
theorem iad_two1 (q : Nat) (w : World) : (Instr.indexAt 48 (.pointer (some ⟨q, 0, none⟩)) (.int .i64 1)).run Tryd.prog w = .ok (.pointer (some ⟨q, 8, none⟩)) w := by go_simp
theorem iad_vec (q o k : Nat) (hk : k < 8) (w : World) : (Instr.indexAt 25 (.pointer (some ⟨q, o, none⟩)) (.int .i64 (k : Int))).run Tryd.prog w = .ok (.pointer (some ⟨q, o + k, none⟩)) w := by
  have h1 : (k : Int) < 8 := by omega
  go_simp
theorem iad_vec8 (q o k : Nat) (hk : k < 8) (w : World) : (Instr.indexAt 25 (.pointer (some ⟨q, o, none⟩)) (.int .u8 (k : Int))).run Tryd.prog w = .ok (.pointer (some ⟨q, o + k, none⟩)) w := by
  have h1 : (k : Int) < 8 := by omega
  go_simp
theorem ldc_32 {q k n : Nat} {w : World} (h : w.cell? ⟨q, k, none⟩ = some (.int .u32 (n : Int))) : (Instr.loadAt 23 (.pointer (some ⟨q, k, none⟩))).run Tryd.prog w = .ok (.int .u32 (n : Int)) w := by go_simp
theorem ldv_two0 {q : Nat} {x y : Vec} {w : World} (h : TwoAt w q x y) : (Instr.loadAt 25 (.pointer (some ⟨q, 0, none⟩))).run Tryd.prog w = .ok (.agg (vc x)) w := by
  simp only [Instr.loadAt, Instr.sureAddr, Sem.run_bind, Sem.run_pure, Result.andThen_ok, run_loadVar_dep (v := x) (fun k hk => by rw [add8]; exact h.c0 hk)]
theorem ldv_two1 {q : Nat} {x y : Vec} {w : World} (h : TwoAt w q x y) : (Instr.loadAt 25 (.pointer (some ⟨q, 8, none⟩))).run Tryd.prog w = .ok (.agg (vc y)) w := by
  have hr := run_loadVar_dep (w := w) (p := ⟨q, 8, none⟩) (v := y) (fun k hk => by
    have e : (⟨q, 8, none⟩ : Addr).add k = ⟨q, 8 + k, none⟩ := by
      unfold Addr.add
      by_cases h0 : k = 0
      · subst h0; rfl
      · rw [if_neg h0]
    rw [e]
    exact h.c1 hk)
  simp only [Instr.loadAt, Instr.sureAddr, Sem.run_bind, Sem.run_pure, Result.andThen_ok, hr]
def mixV (x y : Vec) (r : Nat) : Vec := fun i => if i < r then min (x i) (y i) else x i
theorem mix0 (x y : Vec) : mixV x y 0 = x := by funext i; unfold mixV; rw [if_neg (by omega)]
theorem mix_step (x y : Vec) (r : Nat) : upd (mixV x y r) r (min (x r) (y r)) = mixV x y (r + 1) := by
  funext i
  unfold upd mixV
  by_cases h : i = r
  · subst h; rw [if_pos rfl, if_pos (by omega)]
  · rw [if_neg h]
    by_cases h2 : i < r
    · rw [if_pos h2, if_pos (by omega)]
    · rw [if_neg h2, if_neg (by omega)]
theorem mix8 {x : Vec} (hx : okV x) (y : Vec) : mixV x y 8 = fun i => min (x i) (y i) := by
  funext i
  unfold mixV
  by_cases h : i < 8
  · rw [if_pos h]
  · rw [if_neg h, hx.2 i (by omega)]; omega
theorem fld_dot8 (g : Nat) (w : World) : (Instr.fieldAt 30 (.pointer (some ⟨g, 0, none⟩)) 0).run Tryd.prog w = .ok (.pointer (some ⟨g, 0, none⟩)) w ∧ (Instr.fieldAt 30 (.pointer (some ⟨g, 0, none⟩)) 1).run Tryd.prog w = .ok (.pointer (some ⟨g, 1, none⟩)) w := by
  refine ⟨?_, ?_⟩ <;> go_simp
theorem ldd_r {g : Nat} {d : Dot} {w : World} (h : w.heap[g]? = some (.cells (dbox d) 30 (0, 0))) : (Instr.loadAt 5 (.pointer (some ⟨g, 0, none⟩))).run Tryd.prog w = .ok (.int .u8 (d.1 : Int)) w := by
  have c0 : w.cell? ⟨g, 0, none⟩ = some (.int .u8 (d.1 : Int)) := (cell_of_heap h).trans rfl
  go_simp
theorem ldd_n {g : Nat} {d : Dot} {w : World} (h : w.heap[g]? = some (.cells (dbox d) 30 (0, 0))) : (Instr.loadAt 23 (.pointer (some ⟨g, 1, none⟩))).run Tryd.prog w = .ok (.int .u32 (d.2 : Int)) w := by
  have c0 : w.cell? ⟨g, 1, none⟩ = some (.int .u32 (d.2 : Int)) := (cell_of_heap h).trans rfl
  go_simp
theorem rem8 (k : Nat) (hk : k < 8) (x y : Operand) (w : World) : (do eqGuard .rem 5 x y (.int .u8 (k : Int)) (.int .u8 8); binOp .rem 5 (.int .u8 (k : Int)) (.int .u8 8) : Sem Value).run Tryd.prog w = .ok (.int .u8 (k : Int)) w := by
  have h1 : (k : Int).tmod 8 = k := Int.tmod_eq_of_lt (by omega) (by omega)
  go_simp
theorem bin_neqB (x y : Operand) (p q : Bool) (w : World) : (do eqGuard .neq 4 x y (.bool p) (.bool q); binOp .neq 4 (.bool p) (.bool q) : Sem Value).run Tryd.prog w = .ok (.bool (p != q)) w := by
  cases p <;> cases q <;> go_simp
end Go.Proofs.YtagdapmnghnphaaDoor.V

namespace Go.Proofs.YtagdapmnghnphaaDoor.V
set_option linter.unusedVariables false
set_option linter.unusedSimpArgs false
set_option maxRecDepth 100000
open Go Go.RowKit Go.Maps Wire

/-- A call with two values known, whose result is known by what holds of it. -/
theorem v_callr2 {ops : Array Oper} {Q : Exit → Act → World → Prop} {tgt : Nat → Option Nat} {F : Nat → Fa} {a0 : Act} {w0 : World} {k : Nat} {op : Oper} {f : Nat} {x y : Operand} {ats : Array Nat} {r : Value → World → Prop} {u v : Value}
    (ho : op.op = .call { callee := .value (.func f), args := #[x, y], argTypes := ats }) (hfn : ∀ (args : Array Value) (w : World), (callFunc f args).run Tryd.prog w = .ok (.enter f args) w)
    (hc : ∀ w, Below w0.heap.size w0 w → Calls Tryd.prog f #[u, v] w fun e w' => ∃ c, e = .returned c ∧ r c w' ∧ Below w.heap.size w w') (hF : F k = .dep r) (hd : op.dst.isSome = true) (hg : guardOK ops F op)
    (h1 : Ev ops F a0 w0 op x u) (h2 : Ev ops F a0 w0 op y v) : StepOK Tryd.prog ops Q tgt F a0 w0 k op :=
  flow_calld _ hF hd hg (fun o a w hb hB hn => ⟨f, _, call_run ho hfn a w, by simpa [h1 o a w hb hn, h2 o a w hb hn] using hc w hB⟩)
/-- A row that reads as another one. -/
def RowAs (m : List OC) (v : Value) (w : World) : Prop := ∃ l, OpsV w v l ∧ l.map core = m.map core
theorem RowAs.keep {m : List OC} {v : Value} {w w' : World} (h : RowAs m v w) (hb : Below w.heap.size w w') : RowAs m v w' := by
  obtain ⟨l, h1, h2⟩ := h
  exact ⟨l, h1.keep hb, h2⟩
theorem same_as {m k : List OC} {u v : Value} {w : World} (hu : RowAs m u w) (hv : RowAs k v w) (h : m.map core = k.map core) :
    Calls Tryd.prog 18 #[u, v] w fun e w' => e = .returned (.bool true) ∧ Below w.heap.size w w' := by
  obtain ⟨l, h1, h2⟩ := hu
  obtain ⟨l', h3, h4⟩ := hv
  exact law_same u v l l' w h1 h3 (h2.trans (h.trans h4.symm))
theorem cut_as (v : Value) (l : List OC) (vv : Vec) (W : World) (hv : OpsV W v l) (hs : ∀ x ∈ l, x.2.length ≤ 1000) (hl : l.length ≤ 100000) :
    Calls Tryd.prog 21 #[v, .agg (vc vv)] W fun e w' => ∃ u, e = .returned u ∧ RowAs (cutM l vv) u w' ∧ Below W.heap.size W w' :=
  (order_Cut v l vv W hv hs hl).mono fun e w' ⟨u, l', he, ho, hc, hb⟩ => ⟨u, he, ⟨l', ho.opsV, hc⟩, hb⟩
theorem found_one {w : World} {f : Option OC} {o : OpM} {c : List Claim} (h : Found w f o c) : (oc o).all (·.oneCell') = true := oneO _ h.cl.oneCell
end Go.Proofs.YtagdapmnghnphaaDoor.V
