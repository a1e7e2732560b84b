/-
  Frames: their cells; rows of operations in memory; their bytes.
-/
import Derived.Test.YtagjgknkkbkjgaaJX
import Derived.Test.YtagjgknkkbkjgaaJS
import Derived.LoopTactic
namespace Go.Proofs.Ytagjgknkkbkjgaa.V
set_option linter.unusedVariables false
set_option linter.unusedSimpArgs false
set_option maxRecDepth 100000
open Go Go.RowKit Go.Maps Wire

/-- A frame: its numbers, and the value of its operations. -/
structure FrM where
  (kd fr rt : Nat) (hv : Vec) (ops : Value)
structure okF (f : FrM) : Prop where
  kd : f.kd < 256
  fr : f.fr < 256
  rt : f.rt < 256
  hv : okV f.hv
def fc (f : FrM) : Array Value := #[.int .u8 (f.kd : Int), .int .u8 (f.fr : Int), .int .u8 (f.rt : Int), .int .u32 (f.hv 0 : Int), .int .u32 (f.hv 1 : Int), .int .u32 (f.hv 2 : Int), .int .u32 (f.hv 3 : Int), .int .u32 (f.hv 4 : Int), .int .u32 (f.hv 5 : Int), .int .u32 (f.hv 6 : Int), .int .u32 (f.hv 7 : Int), f.ops]
theorem fc_size (f : FrM) : (fc f).size = 12 := rfl
/-- A frame's block. -/
def FrAt (w : World) (b : Nat) (f : FrM) : Prop := w.heap[b]? = some (.cells (fc f) 27 (0, 0))
theorem FrAt.lt {w : World} {b : Nat} {f : FrM} (h : FrAt w b f) : b < w.heap.size := lt_of_heap h
theorem FrAt.keep {w w' : World} {b : Nat} {f : FrM} (h : FrAt w b f) (hb : Below w.heap.size w w') : FrAt w' b f := heap_keep h hb
theorem FrAt.al {w : World} {b : Nat} {f : FrM} (h : FrAt w b f) (x : Obj) : FrAt (w.alloc x) b f := heap_al h x
theorem FrAt.dr {w : World} {b : Nat} {f : FrM} (h : FrAt w b f) : FrAt w.drew b f := h
theorem FrAt.cell {w : World} {b : Nat} {f : FrM} (h : FrAt w b f) (k : Nat) : w.cell? ⟨b, k, none⟩ = (fc f)[k]? := by
  unfold FrAt at h
  simp [World.cell?, h]
theorem FrAt.c0 {w : World} {b : Nat} {f : FrM} (h : FrAt w b f) : w.cell? ⟨b, 0, none⟩ = some (.int .u8 (f.kd : Int)) := (h.cell 0).trans rfl
theorem FrAt.c1 {w : World} {b : Nat} {f : FrM} (h : FrAt w b f) : w.cell? ⟨b, 1, none⟩ = some (.int .u8 (f.fr : Int)) := (h.cell 1).trans rfl
theorem FrAt.c2 {w : World} {b : Nat} {f : FrM} (h : FrAt w b f) : w.cell? ⟨b, 2, none⟩ = some (.int .u8 (f.rt : Int)) := (h.cell 2).trans rfl
theorem FrAt.c3 {w : World} {b : Nat} {f : FrM} (h : FrAt w b f) : w.cell? ⟨b, 3, none⟩ = some (.int .u32 (f.hv 0 : Int)) := (h.cell 3).trans rfl
theorem FrAt.c4 {w : World} {b : Nat} {f : FrM} (h : FrAt w b f) : w.cell? ⟨b, 4, none⟩ = some (.int .u32 (f.hv 1 : Int)) := (h.cell 4).trans rfl
theorem FrAt.c5 {w : World} {b : Nat} {f : FrM} (h : FrAt w b f) : w.cell? ⟨b, 5, none⟩ = some (.int .u32 (f.hv 2 : Int)) := (h.cell 5).trans rfl
theorem FrAt.c6 {w : World} {b : Nat} {f : FrM} (h : FrAt w b f) : w.cell? ⟨b, 6, none⟩ = some (.int .u32 (f.hv 3 : Int)) := (h.cell 6).trans rfl
theorem FrAt.c7 {w : World} {b : Nat} {f : FrM} (h : FrAt w b f) : w.cell? ⟨b, 7, none⟩ = some (.int .u32 (f.hv 4 : Int)) := (h.cell 7).trans rfl
theorem FrAt.c8 {w : World} {b : Nat} {f : FrM} (h : FrAt w b f) : w.cell? ⟨b, 8, none⟩ = some (.int .u32 (f.hv 5 : Int)) := (h.cell 8).trans rfl
theorem FrAt.c9 {w : World} {b : Nat} {f : FrM} (h : FrAt w b f) : w.cell? ⟨b, 9, none⟩ = some (.int .u32 (f.hv 6 : Int)) := (h.cell 9).trans rfl
theorem FrAt.c10 {w : World} {b : Nat} {f : FrM} (h : FrAt w b f) : w.cell? ⟨b, 10, none⟩ = some (.int .u32 (f.hv 7 : Int)) := (h.cell 10).trans rfl
theorem FrAt.c11 {w : World} {b : Nat} {f : FrM} (h : FrAt w b f) : w.cell? ⟨b, 11, none⟩ = some (f.ops) := (h.cell 11).trans rfl
theorem frSize (f : FrM) : (Try.prog.info? 27).map (·.size) = some (fc f).size := by rw [fc_size]; kernel_rfl
theorem frAt_new (w : World) (f : FrM) : FrAt (w.alloc (.cells (fc f) 27)) w.heap.size f := heap_alloc_last' _ _
theorem load_fr {ops : Array Oper} {rest : List Oper} {c : Oper} {a : Act} {w : World} {Q : Exit → Act → World → Prop} (x : Operand) (ho : c.op = .load 27 x) (hw : Region.wanted c (yielded ops a.tmps) = true)
    (g : Nat) (hx : a.eval x = .pointer (some ⟨g, 0, none⟩)) (f : FrM) (hg : FrAt w g f)
    (h : wpList Try.prog ops Q rest (a.put c.dst (.agg (fc f))) w) : wpList Try.prog ops Q (c :: rest) a w :=
  BigFrame.wpList_want hw fun _ hK => wp_load_row 27 x ho g hx _ _ _ _ hg Try.underlying27 rfl (frSize _) (hK _ _ h)
theorem run_load_fr {c : Oper} {a : Act} {w : World} (x : Operand) (ho : c.op = .load 27 x) (g : Nat) (hx : a.eval x = .pointer (some ⟨g, 0, none⟩)) (f : FrM) (hg : FrAt w g f) :
    (execOp a.eval c).run Try.prog w = .ok (.value (.agg (fc f))) w := by
  unfold execOp
  simp only [ho, hx, Instr.loadAt, Instr.sureAddr, Sem.run_bind, Sem.run_pure, Result.andThen_ok, run_loadVar_row w g 27 27 _ _ _ hg Try.underlying27 rfl (frSize _)]
theorem oneF (f : FrM) (h : f.ops.oneCell' = true) : (fc f).all (·.oneCell') = true := by
  unfold fc
  simp only [Value.oneCell'] at h ⊢
  simp [h]

/-! ### Rows of operations -/
abbrev OC := OpM × List Claim
def flatO (l : List OC) : List Value := l.flatMap fun x => (oc x.1).toList
theorem flatO_append (l m : List OC) : flatO (l ++ m) = flatO l ++ flatO m := by simp [flatO]
theorem flatO_one (x : OC) : flatO [x] = (oc x.1).toList := by simp [flatO]
theorem flatO_length (l : List OC) : (flatO l).length = l.length * 29 := by
  induction l with
  | nil => rfl
  | cons x r ih => rw [show x :: r = [x] ++ r from rfl, flatO_append, List.length_append, flatO_one, ih, List.length_append, Array.length_toList, oc_size]; simp; omega
theorem flatO_get : ∀ (l : List OC) (i : Nat) (x : OC), l[i]? = some x → ∀ k, k < 29 → (flatO l)[i * 29 + k]? = (oc x.1)[k]?
  | [], i, x, h, _, _ => by simp at h
  | y :: r, 0, x, h, k, hk => by
    simp at h; subst h
    rw [show y :: r = [y] ++ r from rfl, flatO_append, flatO_one, List.getElem?_append_left (by rw [Array.length_toList, oc_size]; omega)]
    simp
  | y :: r, i + 1, x, h, k, hk => by
    simp at h
    rw [show y :: r = [y] ++ r from rfl, flatO_append, flatO_one, List.getElem?_append_right (by rw [Array.length_toList, oc_size]; omega)]
    rw [show (i + 1) * 29 + k - (oc y.1).toList.length = i * 29 + k by rw [Array.length_toList, oc_size]; omega]
    exact flatO_get r i x h k hk
theorem oc_get (o : OpM) {k : Nat} (hk : k < 29) : ∃ v, (oc o)[k]? = some v := ⟨_, Array.getElem?_eq_getElem (by rw [oc_size]; exact hk)⟩

/-- A slice that reads as these operations. -/
def IsOps (w : World) (a : Option Addr) (len cap : Nat) (xs : List OC) : Prop :=
  xs.length = len ∧ len ≤ cap ∧ cap ≤ maxLen ∧ (∀ x ∈ xs, okO x.1 ∧ ClaimsV w x.1.lv x.2) ∧
    match a with
    | none => len = 0 ∧ cap = 0
    | some ad => ∀ i x, xs[i]? = some x → ∀ k, k < 29 → w.cell? ((ad.add (i * 29)).add k) = (oc x.1)[k]?
theorem IsOps.keep {w w' : World} {a : Option Addr} {len cap : Nat} {xs : List OC} (h : IsOps w a len cap xs) (hb : Below w.heap.size w w') : IsOps w' a len cap xs := by
  obtain ⟨h1, h2, h3, h4, h5⟩ := h
  refine ⟨h1, h2, h3, fun x hx => ⟨(h4 x hx).1, (h4 x hx).2.keep hb⟩, ?_⟩
  cases a with
  | none => exact h5
  | some ad =>
    intro i x hx k hk
    obtain ⟨v, hv⟩ := oc_get x.1 hk
    have h := h5 i x hx k hk
    rw [hv] at h ⊢
    exact cell_keep hb h
/-- An operation that lies somewhere in memory. -/
def OpIn (w : World) (p : Addr) (o : OpM) : Prop := ∀ k, k < 29 → w.cell? (p.add k) = (oc o)[k]?
theorem OpIn.keep {w w' : World} {p : Addr} {o : OpM} (h : OpIn w p o) (hb : Below w.heap.size w w') : OpIn w' p o := by
  intro k hk
  obtain ⟨v, hv⟩ := oc_get o hk
  have := h k hk
  rw [hv] at this ⊢
  exact cell_keep hb this
theorem IsOps.at {w : World} {ad : Addr} {len cap : Nat} {xs : List OC} (h : IsOps w (some ad) len cap xs) (i : Nat) (hi : i < len) :
    ∃ (o : OpM) (l : List Claim), xs[i]? = some (o, l) ∧ okO o ∧ ClaimsV w o.lv l ∧ OpIn w (ad.add (i * 29)) o := by
  obtain ⟨h1, h2, h3, h4, h5⟩ := h
  have hx : xs[i]? = some (xs[i]'(by omega)) := List.getElem?_eq_getElem (by omega)
  have hc := h5 i _ hx
  have hok := h4 _ (List.mem_of_getElem? hx)
  generalize xs[i]'(by omega) = x at hx hc hok
  obtain ⟨o, l⟩ := x
  exact ⟨o, l, hx, hok.1, hok.2, hc⟩
theorem IsOps.none_len {w : World} {len cap : Nat} {xs : List OC} (h : IsOps w none len cap xs) : len = 0 := h.2.2.2.2.1
def OpsV (w : World) (v : Value) (l : List OC) : Prop := ∃ a len cap, v = .slice a len cap ∧ IsOps w a len cap l
theorem OpsV.keep {w w' : World} {v : Value} {l : List OC} (h : OpsV w v l) (hb : Below w.heap.size w w') : OpsV w' v l := by
  obtain ⟨a, len, cap, e, h⟩ := h
  exact ⟨a, len, cap, e, h.keep hb⟩
theorem OpsV.nil (w : World) : OpsV w (.slice none 0 0) [] := ⟨none, 0, 0, rfl, rfl, Nat.le_refl _, by unfold maxLen; omega, by simp, rfl, rfl⟩
theorem OpsV.one {w : World} {v : Value} {l : List OC} (h : OpsV w v l) : v.oneCell' = true := by obtain ⟨a, n, c, rfl, _⟩ := h; rfl
theorem OpsV.all {w : World} {v : Value} {l : List OC} (h : OpsV w v l) : ∀ x ∈ l, okO x.1 ∧ ClaimsV w x.1.lv x.2 := by obtain ⟨a, n, c, rfl, h⟩ := h; exact h.2.2.2.1
theorem ClaimsV.all {w : World} {v : Value} {l : List Claim} (h : ClaimsV w v l) : ∀ x ∈ l, Claim.ok x := by obtain ⟨a, n, c, rfl, h⟩ := h; exact h.2.2.2.1
/-- The slice of an operation's lines. -/
theorem OpIn.lines {w : World} {p : Addr} {o : OpM} (h : OpIn w p o) : w.cell? (p.add 28) = some o.lv := (h 28 (by omega)).trans rfl
theorem run_loadVar_op {w : World} {p : Addr} {o : OpM} (h : OpIn w p o) : (loadVar 50 p).run Try.prog w = .ok (.agg (oc o)) w := by
  have hl : (loadCells p (oc o).toList.length).run Try.prog w = .ok (oc o).toList.toArray w :=
    run_loadCells_list (P := Try.prog) w p (oc o).toList (fun j v hv => by
      have hj := (List.getElem?_eq_some_iff.1 hv).1
      rw [Array.length_toList, oc_size] at hj
      rw [h j hj, ← hv, Array.getElem?_toList])
  have hu := Try.underlying50
  have hi := opSize o
  cases hq : Try.prog.info? 50 with
  | none => simp [hq] at hi
  | some i =>
    have hs : i.size = (oc o).size := by simpa [hq] using hi
    have hagg : (isAgg 50).run Try.prog w = .ok true w := by
      unfold isAgg
      rw [Sem.run_bind, run_underlying hu w]
      rfl
    simp only [Array.length_toList, Array.toArray_toList] at hl
    simp [loadVar, Sem.run_bind, hagg, sizeOf, typeInfo, hq, hs, hl]
theorem run_load_opIn {c : Oper} {a : Act} {w : World} (x : Operand) (ho : c.op = .load 50 x) (p : Addr) (hx : a.eval x = .pointer (some p)) (o : OpM) (hg : OpIn w p o) :
    (execOp a.eval c).run Try.prog w = .ok (.value (.agg (oc o))) w := by
  unfold execOp
  simp only [ho, hx, Instr.loadAt, Instr.sureAddr, Sem.run_bind, Sem.run_pure, Result.andThen_ok, run_loadVar_op hg]
theorem load_opIn {ops : Array Oper} {rest : List Oper} {c : Oper} {a : Act} {w : World} {Q : Exit → Act → World → Prop} (x : Operand) (ho : c.op = .load 50 x) (hw : Region.wanted c (yielded ops a.tmps) = true)
    (p : Addr) (hx : a.eval x = .pointer (some p)) (o : OpM) (hg : OpIn w p o)
    (h : wpList Try.prog ops Q rest (a.put c.dst (.agg (oc o))) w) : wpList Try.prog ops Q (c :: rest) a w :=
  BigFrame.wpList_want hw fun K hK => by
    unfold Oper.wp
    rw [run_load_opIn x ho p hx o hg]
    exact hK _ _ h
theorem quiet_load_opIn {C : World → Prop} {K : Act → Prop} {a : Act} {c : Oper} (x : Operand) (ho : c.op = .load 50 x)
    (p : Addr) (hx : a.eval x = .pointer (some p)) (o : OpM) (hC : ∀ w, C w → OpIn w p o) (h : K (a.put c.dst (.agg (oc o)))) : c.quiet Try.prog a C K :=
  ⟨_, fun w hCw => by unfold Oper.quietAt; rw [run_load_opIn x ho p hx o (hC w hCw)]; exact ⟨rfl, rfl⟩, h⟩

/-! ### What a frame's bytes are -/
def long (l : List OC) : Bool := l.any fun x => decide (16 < x.2.length)
/-- May a frame be? -/
def mayF (f : FrM) (l : List OC) : Bool := decide (f.kd ≤ 1) && (decide (f.fr < 8) && (decide (f.rt < 8) && (decide (f.fr ≠ f.rt) && ((decide (f.kd ≠ 0) || decide (l.length = 0)) && (decide (l.length ≤ 64) && !long l)))))
theorem mayF_iff {f : FrM} {l : List OC} : mayF f l = true ↔ f.kd ≤ 1 ∧ f.fr < 8 ∧ f.rt < 8 ∧ f.fr ≠ f.rt ∧ (f.kd ≠ 0 ∨ l.length = 0) ∧ l.length ≤ 64 ∧ ∀ x ∈ l, x.2.length ≤ 16 := by
  unfold mayF long
  simp only [Bool.and_eq_true, Bool.or_eq_true, decide_eq_true_eq, Bool.not_eq_true', List.any_eq_false, Nat.not_lt]
def encOps (l : List OC) : List UInt8 := l.flatMap fun x => encT (encO x.1 x.2)
theorem encOps_nil : encOps [] = [] := rfl
theorem encOps_cons (x : OC) (r : List OC) : encOps (x :: r) = encT (encO x.1 x.2) ++ encOps r := by simp [encOps]
theorem encOps_take {l : List OC} {k : Nat} {x : OC} (hx : l[k]? = some x) : encOps (l.take (k + 1)) = encOps (l.take k) ++ encT (encO x.1 x.2) := by
  rw [← take_snocC hx]; simp [encOps]
/-- The bytes ahead of a frame's operations; all of them. -/
def encFh (f : FrM) (n : Nat) : List UInt8 := enc f.kd ++ (enc f.fr ++ (enc f.rt ++ (encV (vl f.hv) ++ enc n)))
def encF (f : FrM) (l : List OC) : List UInt8 := encFh f l.length ++ encOps l
/-- What Put returns. -/
def putF (f : FrM) (l : List OC) : List UInt8 × Int := if mayF f l = true then (Crc.sealed (encF f l), 0) else ([], 2)

theorem encT_len {o : OpM} {l : List Claim} (h : okO o) (hl : ∀ x ∈ l, Claim.ok x) (h16 : l.length ≤ 16) : (encT (encO o l)).length ≤ 10009 := by
  have := encO_len h hl h16
  have h9 := enc_len (n := (encO o l).length) (by omega)
  unfold encT
  rw [List.length_append]; omega
theorem encOps_len {w : World} : ∀ (l : List OC), (∀ x ∈ l, okO x.1 ∧ ClaimsV w x.1.lv x.2) → (∀ x ∈ l, x.2.length ≤ 16) → (encOps l).length ≤ 10009 * l.length
  | [], _, _ => by simp [encOps]
  | x :: r, h, h16 => by
    have ih := encOps_len r (fun y hy => h y (List.mem_cons_of_mem _ hy)) (fun y hy => h16 y (List.mem_cons_of_mem _ hy))
    have := encT_len (h x (List.mem_cons_self ..)).1 (h x (List.mem_cons_self ..)).2.all (h16 x (List.mem_cons_self ..))
    rw [encOps_cons, List.length_append, List.length_cons]; omega
theorem encFh_len {f : FrM} (h : okF f) {n : Nat} (hn : n < 18446744073709551616) : (encFh f n).length ≤ 108 := by
  have h1 := enc_len (n := f.kd) (by have := h.kd; omega)
  have h2 := enc_len (n := f.fr) (by have := h.fr; omega)
  have h3 := enc_len (n := f.rt) (by have := h.rt; omega)
  have h4 := encV_len (vl_lt h.hv)
  have h5 := enc_len hn
  unfold encFh
  simp only [List.length_append]
  have : (vl f.hv).length = 8 := rfl
  omega
theorem encF_len {w : World} {f : FrM} (h : okF f) {l : List OC} (hl : ∀ x ∈ l, okO x.1 ∧ ClaimsV w x.1.lv x.2) (hm : mayF f l = true) : (encF f l).length ≤ 650000 := by
  obtain ⟨_, _, _, _, _, h64, h16⟩ := mayF_iff.1 hm
  have h1 := encFh_len h (n := l.length) (by omega)
  have h2 := encOps_len l hl h16
  unfold encF
  rw [List.length_append]; omega
theorem ba_sealed (s : List UInt8) : ba s ++ S.lowB (Crc.sum s) = ba (Crc.sealed s) := toList_inj (by rw [ByteArray.data_append, Array.toList_append, ba_list, ba_list]; rfl)
end Go.Proofs.Ytagjgknkkbkjgaa.V

/-
  frame.all, and the loops of package slices that frame calls.
-/
namespace Go.Proofs.Ytagjgknkkbkjgaa.V
set_option linter.unusedVariables false
set_option linter.unusedSimpArgs false
set_option maxRecDepth 100000
open Go Go.RowKit Go.Maps Wire

def bcells (l : List Bool) : Array Value := (l.map Value.bool).toArray
theorem bcells_at {l : List Bool} {k : Nat} {b : Bool} (h : l[k]? = some b) : (bcells l)[k]? = some (.bool b) := by simp [bcells, h]
theorem add_one (g k : Nat) : (⟨g, 0, none⟩ : Addr).add (k * 1) = ⟨g, k, none⟩ := by rw [Nat.mul_one]; exact add8 g k
theorem add_one' (g k : Nat) : (⟨g, 0, none⟩ : Addr).add k = ⟨g, k, none⟩ := add8 g k

theorem sl_Index (l : List Bool) (g : Nat) (hl : l.length ≤ 100) (w : World) (hg : w.heap[g]? = some (.cells (bcells l) 4 (0, 0))) :
    Calls Try.prog 73 #[.slice (some ⟨g, 0, none⟩) l.length l.length, .bool false] w
      fun e w' => ∃ r : Int, e = .returned (.int .i64 r) ∧ decide (0 ≤ r) = !l.all id ∧ w = w' := by
  have HL := hid hl
  have HG := hid hg
  obtain ⟨n, hn⟩ : ∃ n, l.length = n := ⟨_, rfl⟩
  have HN := hid hn
  rw [hn] at hl ⊢
  clear hg hn
  go_enter Try.func73, Try.ntmps73
  go_upto_region 2 with (fail)
  go_loopw [8] (fun i wr => ∃ k : Nat, k ≤ n ∧ i = .int .i64 k ∧ w = wr ∧ ∀ j b, j < k → l[j]? = some b → b = true) (fun i _ => n - (intOf i).toNat)
  case atStart => exact ⟨0, by omega, rfl, rfl, fun j b h => by omega⟩
  case round =>
    obtain ⟨k, hk, rfl, rfl, hall⟩ := hrel
    by_cases hlt : k < n
    · obtain ⟨b, hb⟩ : ∃ b, l[k]? = some b := ⟨_, List.getElem?_eq_getElem (by rw [HN.out]; exact hlt)⟩
      have hc : w.cell? ⟨g, k, none⟩ = some (.bool b) := (cell_of_heap HG.out).trans (bcells_at hb)
      have ha := add_one g k
      have HA := hid hall
      have HB := hid hb
      clear hall hb
      cases b with
      | true =>
        go_wp2
        go_roundw
        case rel =>
          refine ⟨k + 1, by omega, by go_num, trivial, fun j b hj hb => ?_⟩
          by_cases e : j = k
          · subst e
            rw [HB.out] at hb
            exact (Option.some.inj hb).symm
          · exact HA.out j b (by omega) hb
        case measure => simp [intOf]; omega
      | false =>
        go_wp2
        go_ret
        refine ⟨k, rfl, ?_, rfl⟩
        rw [decide_eq_true (by omega), show l.all id = false from List.all_eq_false.2 ⟨false, List.mem_of_getElem? HB.out, by simp⟩]
        rfl
    · obtain rfl : k = n := by omega
      have HA := hid hall
      clear hall
      go_wp2
      go_ret
      refine ⟨-1, rfl, ?_, rfl⟩
      rw [show l.all id = true from List.all_eq_true.2 fun b hb => by obtain ⟨j, hj⟩ := List.getElem?_of_mem hb; exact HA.out j b (by rw [← HN.out]; exact (List.getElem?_eq_some_iff.1 hj).1) hj]
      rfl

theorem sl_Contains (l : List Bool) (g : Nat) (hl : l.length ≤ 100) (w : World) (hg : w.heap[g]? = some (.cells (bcells l) 4 (0, 0))) :
    Calls Try.prog 54 #[.slice (some ⟨g, 0, none⟩) l.length l.length, .bool false] w
      fun e w' => e = .returned (.bool (!l.all id)) ∧ w = w' := by
  have h := sl_Index l g hl w hg
  clear hl hg
  go_enter Try.func54, Try.ntmps54
  go_wp2_with (go_at_call 73; (refine h.mono ?_); rintro e w' ⟨r, rfl, hr, rfl⟩)
  go_ret
  exact ⟨by rw [← hr]; rfl, rfl⟩

theorem frame_all (l : List Bool) (g n : Nat) (hn : n = l.length) (hl : l.length ≤ 100) (w : World) (hg : w.heap[g]? = some (.cells (bcells l) 4 (0, 0))) :
    Calls Try.prog 30 #[.slice (some ⟨g, 0, none⟩) n n] w
      fun e w' => e = .returned (.bool (l.all id)) ∧ Below w.heap.size w w' := by
  subst hn
  have h := sl_Contains l g hl w hg
  clear hl hg
  go_enter Try.func30, Try.ntmps30
  go_wp2_with (go_at_call 54; (refine h.mono ?_); rintro e w' ⟨rfl, rfl⟩)
  go_ret
  exact ⟨by simp, Below.refl _ _⟩

theorem frame_tooLong (o : OpM) (l : List Claim) (w : World) (hv : ClaimsV w o.lv l) :
    Calls Try.prog 32 #[.agg (oc o)] w
      fun e w' => e = .returned (.bool (decide (16 < l.length))) ∧ Below w.heap.size w w' := by
  obtain ⟨ad, len, cap, hlv, hI⟩ := hv
  have hlen := hI.1
  have g28 : (oc o)[28]? = some (.slice ad len cap) := by rw [← hlv]; rfl
  have HE := hid (below_al w (.cells (oc o) 50))
  have HN := hid hlen
  clear hlv hI hlen
  go_enter Try.func32, Try.ntmps32
  go_wp2
  go_ret
  exact ⟨by rw [HN.out, show decide (16 < len) = decide ((16 : Int) < (len : Int)) from decide_eq_decide.2 (by omega)]; rfl, HE.out⟩
end Go.Proofs.Ytagjgknkkbkjgaa.V

/-
  slices.ContainsFunc over operations.
-/
namespace Go.Proofs.Ytagjgknkkbkjgaa.V
set_option linter.unusedVariables false
set_option linter.unusedSimpArgs false
set_option maxRecDepth 100000
open Go Go.RowKit Go.Maps Wire

def tlV : Value := .func (.func 32) #[] #[]
theorem long_take {l : List OC} {k : Nat} {x : OC} (hx : l[k]? = some x) (h : 16 < x.2.length) : long l = true :=
  List.any_eq_true.2 ⟨x, List.mem_of_getElem? hx, decide_eq_true h⟩
theorem long_not {l : List OC} {n : Nat} (hn : l.length = n) (h : ∀ j x, j < n → l[j]? = some x → x.2.length ≤ 16) : long l = false :=
  List.any_eq_false.2 fun x hx => by
    obtain ⟨j, hj⟩ := List.getElem?_of_mem hx
    have := h j x (by rw [← hn]; exact (List.getElem?_eq_some_iff.1 hj).1) hj
    simp; omega

set_option maxHeartbeats 400000 in
theorem sl_IndexFunc (l : List OC) (v : Value) (w : World) (hv : OpsV w v l) :
    Calls Try.prog 55 #[v, tlV] w
      fun e w' => ∃ r : Int, e = .returned (.int .i64 r) ∧ decide (0 ≤ r) = long l ∧ Below w.heap.size w w' := by
  obtain ⟨ad, len, cap, rfl, hI⟩ := hv
  have HI := hid hI
  have HN := hid hI.1
  have hm : len ≤ 9223372036854775807 := by have h1 := hI.2.1; have h2 := hI.2.2.1; unfold maxLen at h2; omega
  clear hI
  unfold tlV
  go_enter Try.func55, Try.ntmps55
  go_upto_region 2 with (fail)
  go_loopw [8] (fun i wr => ∃ k : Nat, k ≤ len ∧ i = .int .i64 k ∧ Below w.heap.size w wr ∧ ∀ j x, j < k → l[j]? = some x → x.2.length ≤ 16) (fun i _ => len - (intOf i).toNat)
  case atStart => exact ⟨0, by omega, rfl, Below.refl _ _, fun j b h => by omega⟩
  case round =>
    obtain ⟨k, hk, rfl, hB, hall⟩ := hrel
    have HA := hid hall
    have HB := hid hB
    clear hall hB
    by_cases hlt : k < len
    · cases ad with
      | none => have := HI.out.none_len; omega
      | some ad =>
        obtain ⟨o, lc, hx, hok, hc, hin⟩ := (HI.out.keep HB.out).at k hlt
        have ht := frame_tooLong o lc wr hc
        have HX := hid hx
        have HIN := hid hin
        clear hx hin hok hc
        cases hb : decide (16 < lc.length) with
        | false =>
          rw [hb] at ht
          have HBB := hid hb
          clear hb
          go_wp2_with (first
            | (refine load_opIn _ rfl (by kernel_rfl) (ad.add (k * 29)) rfl o HIN.out ?_)
            | (go_at_call 32; (with_reducible refine ht.mono ?_); rintro e w1 ⟨rfl, hB1⟩; have HB1 := hid (below_next HB.out hB1); clear hB1))
          go_roundw
          case rel =>
            refine ⟨k + 1, by omega, by go_num, HB1.out, fun j x hj hxj => ?_⟩
            by_cases e : j = k
            · subst e
              rw [HX.out] at hxj
              cases hxj
              have := of_decide_eq_false HBB.out
              show lc.length ≤ 16
              omega
            · exact HA.out j x (by omega) hxj
          case measure => simp [intOf]; omega
        | true =>
          rw [hb] at ht
          have HBB := hid hb
          clear hb
          go_wp2_with (first
            | (refine load_opIn _ rfl (by kernel_rfl) (ad.add (k * 29)) rfl o HIN.out ?_)
            | (go_at_call 32; (with_reducible refine ht.mono ?_); rintro e w1 ⟨rfl, hB1⟩; have HB1 := hid (below_next HB.out hB1); clear hB1))
          go_ret
          refine ⟨k, rfl, ?_, HB1.out⟩
          rw [decide_eq_true (by omega), long_take HX.out (of_decide_eq_true HBB.out)]
    · obtain rfl : k = len := by omega
      go_wp2
      go_ret
      refine ⟨-1, rfl, ?_, HB.out⟩
      rw [long_not HN.out HA.out]
      rfl

theorem sl_ContainsFunc (l : List OC) (v : Value) (w : World) (hv : OpsV w v l) :
    Calls Try.prog 31 #[v, tlV] w
      fun e w' => e = .returned (.bool (long l)) ∧ Below w.heap.size w w' := by
  have h := sl_IndexFunc l v w hv
  clear hv
  unfold tlV at h ⊢
  go_enter Try.func31, Try.ntmps31
  go_wp2_with (go_at_call 55; (with_reducible refine h.mono ?_); rintro e w' ⟨r, rfl, hr, hB⟩)
  go_ret
  exact ⟨by rw [← hr]; rfl, hB⟩
end Go.Proofs.Ytagjgknkkbkjgaa.V
