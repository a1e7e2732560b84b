/-
  frame.getOps: the function that reads one operation.
-/
import Derived.Test.YtagjgknkkbkjgaaJK
namespace Go.Proofs.Ytagjgknkkbkjgaa.V
set_option linter.unusedVariables false
set_option linter.unusedSimpArgs false
set_option maxRecDepth 100000
open Go Go.RowKit Go.Maps Wire

abbrev OneV := { v : Value // v.oneCell' = true }
/-- The text that Text(Left()) reads. -/
def txt (st : St) : List UInt8 × St := takeText st (((st.getD []).length : Nat) : Int)
theorem small_takeText {st : St} (hs : Small st) (m : Int) : Small (takeText st m).2 := by
  unfold takeText
  cases h : (takeNum st m.toNat).2 with
  | none => exact small_none
  | some r =>
    dsimp only
    split
    · exact small_drop (by have := small_takeNum hs m.toNat; rw [h] at this; exact this) _
    · exact small_none
theorem takeText_len {st : St} (hs : Small st) (m : Int) : (takeText st m).1.length ≤ 1000000 := by
  unfold takeText
  cases h : (takeNum st m.toNat).2 with
  | none => simp
  | some r =>
    dsimp only
    split
    · have := small_takeNum hs m.toNat
      rw [h] at this
      have h2 : r.length ≤ 1000000 := this
      rw [List.length_take]; omega
    · simp
theorem kx_of_keeps {w w' : World} {g : Nat} (h : Keeps w.heap.size (some g) w w') : KX w.heap.size (fun b => b = g) w w' :=
  ⟨h.os, h.tape, h.output, h.size, fun b hb hg => h.block b hb (fun e => hg (Option.some.inj e))⟩
theorem ld_one {w : World} {b : Nat} {p : Value} {fr : Nat × Nat} (h : w.heap[b]? = some (.cells #[p] 67 fr)) : (Instr.loadAt 67 (.pointer (some ⟨b, 0, none⟩))).run Try.prog w = .ok p w := by
  have hc : w.cell? ⟨b, 0, none⟩ = some p := (cell_of_heap h).trans rfl
  go_simp
theorem ext_0 (x y : Value) (w : World) : (Instr.extract (.tuple #[x, y]) 0).run Try.prog w = .ok x w := by go_simp
theorem ext_1 (x y : Value) (w : World) : (Instr.extract (.tuple #[x, y]) 1).run Try.prog w = .ok y w := by go_simp
theorem new_op {c : Oper} (ho : c.op = .alloc 50) (a : Act) (w : World) : (execOp a.eval c).run Try.prog w = .ok (.value (.pointer (some ⟨w.heap.size, 0, none⟩))) (w.alloc (.cells (oc zeroO) 50)) := by
  unfold execOp
  simp only [ho]
  go_simp
  rfl
theorem put_op {c : Oper} {a : Act} {w : World} {x y : Operand} {g : Nat} {o : OpM} {old : Array Value} (ho : c.op = .store 50 x y) (h1 : a.eval x = .pointer (some ⟨g, 0, none⟩)) (h2 : a.eval y = .agg (oc o))
    (hg : w.heap[g]? = some (.cells old 50 (0, 0))) (hsz : old.size = (oc o).size) (h1c : o.lv.oneCell' = true) : (execOp a.eval c).run Try.prog w = .ok .skip (w.setRow g (oc o)) := by
  unfold execOp
  simp only [ho, h1, h2, Instr.storeAt, Instr.sureAddr, Sem.run_bind, Sem.run_pure, Result.andThen_ok, run_storeVar_row w g 50 50 old (oc o) hg (opSize o) hsz (oneO o h1c)]

/-- getOps under way: its three captured boxes, the reader, what it has. -/
structure GL (B : Nat) (w0 w : World) (bl bR bO g n : Nat) (st : St) (v : Value) (l : List OC) : Prop where
  kx : KX B (fun b => b = g) w0 w
  left : w.heap[bl]? = some (.cells #[.int .u64 (n : Int)] 47 (0, 0))
  rd : w.heap[bR]? = some (.cells #[.pointer (some ⟨g, 0, none⟩)] 67 (0, 0))
  ops : w.heap[bO]? = some (.cells #[v] 25 (0, 0))
  at_ : RAt w (some g) st
  small : Small st
  own : OwnOps (bO + 1) w v l
  hg : g < B
  hl : B ≤ bl
  hR : B ≤ bR
  hO : B ≤ bO
  hn : n + l.length ≤ 64

theorem rd_typed {w : World} {g : Nat} {st : St} (h : RAt w (some g) st) {b : Nat} {cs : Array Value} {t : TypeId} (hb : w.heap[b]? = some (.cells cs t (0, 0))) (ht : t = 50 ∨ t = 92 ∨ t = 47 ∨ t = 67 ∨ t = 25) : b ≠ g := by
  intro e
  subst e
  have h' : w.heap[b]? = some (.cells (rcells st) 101 (0, 0)) := h
  rw [h'] at hb
  cases hb
  rcases ht with h | h | h | h | h <;> exact absurd h (by decide)
/-- Behind a change of the reader alone, and new blocks. -/
theorem GL.turn {B : Nat} {w0 w w' : World} {bl bR bO g n : Nat} {st st' : St} {v : Value} {l : List OC} (h : GL B w0 w bl bR bO g n st v l) (hk : KX w.heap.size (fun b => b = g) w w') (hr : RAt w' (some g) st') (hs : Small st') (hB : B ≤ w.heap.size) : GL B w0 w' bl bR bO g n st' v l := by
  have key : ∀ (b : Nat) (cs : Array Value) (t : TypeId), (t = 50 ∨ t = 92 ∨ t = 47 ∨ t = 67 ∨ t = 25) → w.heap[b]? = some (.cells cs t (0, 0)) → w'.heap[b]? = some (.cells cs t (0, 0)) := fun b cs t ht hb =>
    (hk.block b (lt_of_heap hb) (rd_typed h.at_ hb ht)).trans hb
  exact ⟨h.kx.trans (hk.mono hB), key _ _ _ (.inr (.inr (.inl rfl))) h.left, key _ _ _ (.inr (.inr (.inr (.inl rfl)))) h.rd, key _ _ _ (.inr (.inr (.inr (.inr rfl)))) h.ops, hr, hs,
    h.own.same (fun b cs t ht hc => key b cs t (ht.elim .inl (fun e => .inr (.inl e))) hc), h.hg, h.hl, h.hR, h.hO, h.hn⟩

theorem GL.push {B : Nat} {w0 w1 w2 w3 : World} {bl bR bO g n : Nat} {st : St} {v v3 : Value} {l : List OC} {x : OC} (h : GL B w0 w1 bl bR bO g n st v l) (hB : B ≤ w1.heap.size) (hb : Below w1.heap.size w1 w2) (hgr : w2.grownBy w3 v.ownBlock)
    (ho : w3.ownsRow (bO + 1) 50 29 v3 (l.length + 1) (flatO l ++ (oc x.1).toList)) (hx : okO x.1) (hc : ClaimsT w1 x.1.lv x.2) (hn : n ≠ 0) :
    (∀ (b : Nat) (cs : Array Value) (t : TypeId), t ≠ 50 → w1.heap[b]? = some (.cells cs t (0, 0)) → w3.heap[b]? = some (.cells cs t (0, 0))) ∧
    GL B w0 ((w3.setCell ⟨bO, 0, none⟩ v3).setCell ⟨bl, 0, none⟩ (.int .u64 ((n - 1 : Nat) : Int))) bl bR bO g (n - 1) st v3 (l ++ [x]) := by
  have hnn : n - 1 + (l.length + 1) ≤ 64 := by have := h.hn; omega
  have hown := h.own.1.2
  have kept : ∀ (b : Nat) (cs : Array Value) (t : TypeId), t ≠ 50 → w1.heap[b]? = some (.cells cs t (0, 0)) → w3.heap[b]? = some (.cells cs t (0, 0)) := fun b cs t ht hcs => by
    refine (hgr.block b (Nat.lt_of_lt_of_le (lt_of_heap hcs) hb.size) (fun e => ?_)).trans (heap_keep hcs hb)
    rcases hown with ⟨rfl, _⟩ | ⟨g', cap, cur, rfl, _, hgg, _⟩
    · cases e
    · obtain rfl : b = g' := Option.some.inj e
      rw [hcs] at hgg
      cases hgg
      exact ht rfl
  have hnl : bO ≠ bl := fun e => by
    have h1 := h.ops
    have h2 := h.left
    rw [e, h2] at h1
    cases h1
  have hnR : bO ≠ bR := fun e => by
    have h1 := h.ops
    have h2 := h.rd
    rw [e, h2] at h1
    cases h1
  have hlR : bl ≠ bR := fun e => by
    have h1 := h.left
    have h2 := h.rd
    rw [e, h2] at h1
    cases h1
  have k1 := kept _ _ _ (by decide) h.left
  have k2 := kept _ _ _ (by decide) h.rd
  have k3 := kept _ _ _ (by decide) h.ops
  have k4 : w3.heap[g]? = some (.cells (rcells st) 101 (0, 0)) := kept g _ _ (by decide) h.at_
  have hng1 : bO ≠ g := Nat.ne_of_gt (Nat.lt_of_lt_of_le h.hg h.hO)
  have hng2 : bl ≠ g := Nat.ne_of_gt (Nat.lt_of_lt_of_le h.hg h.hl)
  have hO3 := OwnOps.push h.own hb hgr ho hx hc
  refine ⟨kept, ?_, ?_, ?_, ?_, ?_, h.small, ?_, h.hg, h.hl, h.hR, h.hO, by rw [List.length_append]; exact hnn⟩
  · have e : KX B (fun b => b = g) w1 w3 := ⟨hgr.os.trans hb.os, hgr.tape.trans hb.tape, hgr.output.trans hb.output, Nat.le_trans hb.size hgr.size, fun b hlt _ => by
      refine (hgr.block b (by have := hb.size; omega) (fun e => ?_)).trans (hb.block b (by omega))
      rcases hown with ⟨rfl, _⟩ | ⟨g', cap, cur, rfl, hbg, _⟩
      · cases e
      · obtain rfl : b = g' := Option.some.inj e
        have := h.hO
        omega⟩
    refine h.kx.trans (e.trans ⟨rfl, rfl, rfl, by simp [World.setCell], fun b hlt _ => ?_⟩)
    rw [Below.heap_setCell _ _ _ _ (by show b ≠ bl; have := h.hl; omega), Below.heap_setCell _ _ _ _ (by show b ≠ bO; have := h.hO; omega)]
  · have := heap_s (k := 0) (v := .int .u64 ((n - 1 : Nat) : Int)) (heap_n (b' := bO) (k := 0) (v := v3) k1 (by omega))
    simpa using this
  · exact heap_n (heap_n k2 (by omega)) (by omega)
  · have := heap_n (b' := bl) (k := 0) (v := .int .u64 ((n - 1 : Nat) : Int)) (heap_s (k := 0) (v := v3) k3) (by omega)
    simpa using this
  · exact heap_n (heap_n k4 (by omega)) (by omega)
  · refine hO3.same (fun b cs t ht hcs => heap_n (heap_n hcs ?_) ?_)
    · intro e
      subst e
      rw [k3] at hcs
      cases hcs
      rcases ht with ht | ht <;> exact absurd ht (by decide)
    · intro e
      subst e
      rw [k1] at hcs
      cases hcs
      rcases ht with ht | ht <;> exact absurd ht (by decide)

/-- What one call of the function does. -/
inductive Nx (B : Nat) (w0 w' : World) (bl bR bO g n : Nat) (st : St) (v : Value) (l : List OC) : Ending → Prop
  | none : n = 0 → GL B w0 w' bl bR bO g n st v l → Nx B w0 w' bl bR bO g n st v l (.returned (.bool false))
  | bad : n ≠ 0 → getE (txt st).1 = 5 → GL B w0 w' bl bR bO g n (txt st).2 v l → Nx B w0 w' bl bR bO g n st v l (.returned (.bool false))
  | one (v' u : Value) : n ≠ 0 → getE (txt st).1 = 0 → GL B w0 w' bl bR bO g (n - 1) (txt st).2 v' (l ++ [(setL (getO (txt st).1) u, getL (txt st).1)]) → Nx B w0 w' bl bR bO g n st v l (.returned (.bool true))

set_option maxHeartbeats 1000000 in
theorem getOps_next (B : Nat) (w0 w : World) (bl bR bO g n : Nat) (st : St) (v : Value) (l : List OC) (h : GL B w0 w bl bR bO g n st v l) (hBw : B ≤ w.heap.size) :
    Calls Try.prog 62 #[.pointer (some ⟨bl, 0, none⟩), .pointer (some ⟨bR, 0, none⟩), .pointer (some ⟨bO, 0, none⟩)] w fun e w' => Nx B w0 w' bl bR bO g n st v l e ∧ w.heap.size ≤ w'.heap.size := by
  have HG := hid h
  have c0 : w.cell? ⟨bl, 0, none⟩ = some (.int .u64 (n : Int)) := (cell_of_heap h.left).trans rfl
  by_cases hn : n = 0
  · have hn0 : ((n : Int) == 0) = true := by simp [hn]
    have HN := hid hn
    clear hn h
    go_enter Try.func62, Try.ntmps62
    go_wp2
    go_ret
    exact ⟨.none HN.out HG.out, Nat.le_refl _⟩
  · have hn0 : ((n : Int) == 0) = false := by simpa using hn
    have HN := hid hn
    have hltg := lt_of_heap (show w.heap[g]? = some (.cells (rcells st) 101 (0, 0)) from h.at_)
    have HS := hid (And.intro (lt_of_heap h.ops) (And.intro (lt_of_heap h.rd) (And.intro (rd_typed h.at_ h.rd (by simp)) (And.intro (lt_of_heap h.left) hltg))))
    have HLF := hid (show -9223372036854775808 ≤ (((st.getD []).length : Nat) : Int) ∧ (((st.getD []).length : Nat) : Int) < 9223372036854775808 by
      have : (st.getD []).length ≤ 1000000 := h.small
      omega)
    have HSZ := hid (show (ba (txt st).1).size ≤ 1000000 by rw [ba_size]; exact takeText_len h.small _)
    have HST := hid (show Stable (fun b => b = g) (fun ph w => RAt w (some g) (if ph then (txt st).2 else st)) ∧ ∀ b, b = g → b < w.drew.heap.size from ⟨fun ph w w' hs hr => (hs g rfl).trans hr, fun b e => by subst e; exact hltg⟩)
    clear hn h hltg
    go_enter Try.func62, Try.ntmps62
    go_upto_region 3 with (fail)
    clear c0 hn0
    obtain ⟨Fl, hFl⟩ : ∃ Fl : OneV → List Fa, Fl = fun u => Fa.eq (.pointer (some ⟨g, 0, none⟩)) :: Fa.eq (.pointer (some ⟨g, 0, none⟩)) :: Fa.eq (.int .i64 ((st.getD []).length : Nat)) :: Fa.eq (.string (ba (txt st).1)) :: Fa.eq (.tuple #[.agg (oc (setL (getO (txt st).1) u.1)), .int .i64 (getE (txt st).1)]) :: Fa.eq (.tuple #[.agg (oc (setL (getO (txt st).1) u.1)), .int .i64 (getE (txt st).1)]) :: Fa.eq (.agg (oc (setL (getO (txt st).1) u.1))) :: Fa.eq (.int .i64 (getE (txt st).1)) :: Fa.box 50 29 :: Fa.put 8 50 (oc (setL (getO (txt st).1) u.1)) :: Fa.eq (.int .i64 (getE (txt st).1)) :: [] := ⟨_, rfl⟩
    refine wp_flowq (fun b => b = g) 50 (fun ph w => RAt w (some g) (if ph then (txt st).2 else st)) 3 ⟨4, 1776, fun u w => ClaimsT w u.1 (getL (txt st).1)⟩ ⟨.slice none 0 0, rfl⟩ (fun k => if k = 9 then some 8 else none) Fl 24 (by kernel_rfl) (fun u => by rw [hFl]; rfl) (fun b e => by subst e; exact HS.out.2.2.2.2) (by kernel_rfl) (by kernel_rfl) (by kernel_rfl) rfl (by kernel_rfl) ?_ (by kernel_rfl) ?_ ?_ ?_ HG.out.at_ ?_
    · intro u
      rw [hFl]
      exact ⟨trivial, trivial, trivial, trivial, trivial, trivial, trivial, trivial, trivial, fun k hk => by show (if k = 9 then some 8 else none) ≠ some 8; rw [if_neg (by omega)]; simp, trivial, trivial⟩
    · intro i u u' hi hM
      rw [hFl]
      match i, hM with
      | 0, _ => rfl
      | 1, _ => rfl
      | 2, _ => rfl
      | 3, _ => rfl
      | 4, hM => exact absurd (show Nat.testBit 1776 4 = false from hM) (by decide)
      | 5, hM => exact absurd (show Nat.testBit 1776 5 = false from hM) (by decide)
      | 6, hM => exact absurd (show Nat.testBit 1776 6 = false from hM) (by decide)
      | 7, _ => rfl
      | 8, _ => rfl
      | 9, hM => exact absurd (show Nat.testBit 1776 9 = false from hM) (by decide)
      | 10, _ => rfl
      | i + 11, _ => rfl
    · intro u ph w1 w2 hs hr hc
      refine hc.typ (fun b cs hb => hs b cs _ _ (fun e => rd_typed hr hb (by simp) e) (by decide) hb)
    · subst hFl
      refine ⟨?_, ?_, ?_, ?_, ?_, ?_, ?_, ?_, ?_, ?_, ?_, trivial⟩
      · exact q_load (v := .pointer (some ⟨bR, 0, none⟩)) (c := fun _ => .pointer (some ⟨g, 0, none⟩)) rfl (fun u w hB => ld_one ((hB.block bR HS.out.2.1 HS.out.2.2.1).trans HG.out.rd)) (fun u => rfl) (by kernel_rfl) rfl (by kernel_rfl) (by kernel_rfl) (fun u => Ev.out (by kernel_rfl) rfl)
      · exact q_load (v := .pointer (some ⟨bR, 0, none⟩)) (c := fun _ => .pointer (some ⟨g, 0, none⟩)) rfl (fun u w hB => ld_one ((hB.block bR HS.out.2.1 HS.out.2.2.1).trans HG.out.rd)) (fun u => rfl) (by kernel_rfl) rfl (by kernel_rfl) (by kernel_rfl) (fun u => Ev.out (by kernel_rfl) rfl)
      · exact flowq_call (fun _ => .int .i64 ((st.getD []).length : Nat)) HST.out.1 HST.out.2 (fun u => rfl) (by kernel_rfl) rfl (by kernel_rfl) (by kernel_rfl) (fun u o a w ph hb hB hn h1 h2 hS => ⟨_, #[.pointer (some ⟨g, 0, none⟩)], enters rfl (fun args w => rfl) (ev1 (Ev.at (F := fun k => ((fun u => Fa.eq (.pointer (some ⟨g, 0, none⟩)) :: Fa.eq (.pointer (some ⟨g, 0, none⟩)) :: Fa.eq (.int .i64 ((st.getD []).length : Nat)) :: Fa.eq (.string (ba (txt st).1)) :: Fa.eq (.tuple #[.agg (oc (setL (getO (txt st).1) u.1)), .int .i64 (getE (txt st).1)]) :: Fa.eq (.tuple #[.agg (oc (setL (getO (txt st).1) u.1)), .int .i64 (getE (txt st).1)]) :: Fa.eq (.agg (oc (setL (getO (txt st).1) u.1))) :: Fa.eq (.int .i64 (getE (txt st).1)) :: Fa.box 50 29 :: Fa.put 8 50 (oc (setL (getO (txt st).1) u.1)) :: Fa.eq (.int .i64 (getE (txt st).1)) :: [] : OneV → List Fa) u).getD k (.eq undef)) (i := 1) (by kernel_rfl) (by kernel_rfl) rfl) o a w hb hn), by have hp := h2 (by kernel_rfl); subst hp; exact (wire_Left (some g) st w hS).mono fun e w' ⟨e1, e2⟩ => ⟨e1, e2 ▸ Below.refl _ _⟩⟩)
      · exact flowq_turn (fun _ => .string (ba (txt st).1)) (fun u => rfl) (by kernel_rfl) rfl (by kernel_rfl) rfl (fun u o a w hb hB hn hS => ⟨_, #[.pointer (some ⟨g, 0, none⟩), .int .i64 ((st.getD []).length : Nat)], enters rfl (fun args w => rfl) (ev2 (Ev.at (F := fun k => ((fun u => Fa.eq (.pointer (some ⟨g, 0, none⟩)) :: Fa.eq (.pointer (some ⟨g, 0, none⟩)) :: Fa.eq (.int .i64 ((st.getD []).length : Nat)) :: Fa.eq (.string (ba (txt st).1)) :: Fa.eq (.tuple #[.agg (oc (setL (getO (txt st).1) u.1)), .int .i64 (getE (txt st).1)]) :: Fa.eq (.tuple #[.agg (oc (setL (getO (txt st).1) u.1)), .int .i64 (getE (txt st).1)]) :: Fa.eq (.agg (oc (setL (getO (txt st).1) u.1))) :: Fa.eq (.int .i64 (getE (txt st).1)) :: Fa.box 50 29 :: Fa.put 8 50 (oc (setL (getO (txt st).1) u.1)) :: Fa.eq (.int .i64 (getE (txt st).1)) :: [] : OneV → List Fa) u).getD k (.eq undef)) (i := 0) (by kernel_rfl) (by kernel_rfl) rfl) (Ev.at (F := fun k => ((fun u => Fa.eq (.pointer (some ⟨g, 0, none⟩)) :: Fa.eq (.pointer (some ⟨g, 0, none⟩)) :: Fa.eq (.int .i64 ((st.getD []).length : Nat)) :: Fa.eq (.string (ba (txt st).1)) :: Fa.eq (.tuple #[.agg (oc (setL (getO (txt st).1) u.1)), .int .i64 (getE (txt st).1)]) :: Fa.eq (.tuple #[.agg (oc (setL (getO (txt st).1) u.1)), .int .i64 (getE (txt st).1)]) :: Fa.eq (.agg (oc (setL (getO (txt st).1) u.1))) :: Fa.eq (.int .i64 (getE (txt st).1)) :: Fa.box 50 29 :: Fa.put 8 50 (oc (setL (getO (txt st).1) u.1)) :: Fa.eq (.int .i64 (getE (txt st).1)) :: [] : OneV → List Fa) u).getD k (.eq undef)) (i := 2) (by kernel_rfl) (by kernel_rfl) rfl) o a w hb hn), (wire_Text (some g) st _ HLF.out.1 HLF.out.2 HG.out.small w hS).mono fun e w' ⟨e1, e2, e3⟩ => ⟨e1, kx_of_keeps e3, e2⟩⟩)
      · exact flowq_make (fun u => .tuple #[.agg (oc (setL (getO (txt st).1) u.1)), .int .i64 (getE (txt st).1)]) HST.out.1 HST.out.2 (fun u => rfl) (by kernel_rfl) rfl rfl (by kernel_rfl) (fun u o a w ph hb hB hn hS => ⟨_, #[.string (ba (txt st).1)], enters rfl (fun args w => rfl) (ev1 (Ev.at (F := fun k => ((fun u => Fa.eq (.pointer (some ⟨g, 0, none⟩)) :: Fa.eq (.pointer (some ⟨g, 0, none⟩)) :: Fa.eq (.int .i64 ((st.getD []).length : Nat)) :: Fa.eq (.string (ba (txt st).1)) :: Fa.eq (.tuple #[.agg (oc (setL (getO (txt st).1) u.1)), .int .i64 (getE (txt st).1)]) :: Fa.eq (.tuple #[.agg (oc (setL (getO (txt st).1) u.1)), .int .i64 (getE (txt st).1)]) :: Fa.eq (.agg (oc (setL (getO (txt st).1) u.1))) :: Fa.eq (.int .i64 (getE (txt st).1)) :: Fa.box 50 29 :: Fa.put 8 50 (oc (setL (getO (txt st).1) u.1)) :: Fa.eq (.int .i64 (getE (txt st).1)) :: [] : OneV → List Fa) u).getD k (.eq undef)) (i := 3) (by kernel_rfl) (by kernel_rfl) rfl) o a w hb hn), by have := op_Get (ba (txt st).1) HSZ.out w; rw [ba_list] at this; exact this.mono fun e w' ⟨v, h1, h2, h3⟩ => ⟨⟨v, h2.1.one⟩, h1, h2, h3⟩⟩)
      · exact q_move (c := fun u => .tuple #[.agg (oc (setL (getO (txt st).1) u.1)), .int .i64 (getE (txt st).1)]) (.inl rfl) (fun u => rfl) (by kernel_rfl) rfl (by kernel_rfl) (by kernel_rfl) (fun u => Ev.at (i := 4) (by kernel_rfl) (by kernel_rfl) rfl)
      · exact q_ext (v := fun u => .tuple #[.agg (oc (setL (getO (txt st).1) u.1)), .int .i64 (getE (txt st).1)]) (c := fun u => .agg (oc (setL (getO (txt st).1) u.1))) rfl (fun u w => ext_0 _ _ w) (fun u => rfl) (by kernel_rfl) rfl (by kernel_rfl) (by kernel_rfl) (fun u => Ev.at (i := 5) (by kernel_rfl) (by kernel_rfl) rfl)
      · exact q_ext (v := fun u => .tuple #[.agg (oc (setL (getO (txt st).1) u.1)), .int .i64 (getE (txt st).1)]) (c := fun u => .int .i64 (getE (txt st).1)) rfl (fun u w => ext_1 _ _ w) (fun u => rfl) (by kernel_rfl) rfl (by kernel_rfl) (by kernel_rfl) (fun u => Ev.at (i := 5) (by kernel_rfl) (by kernel_rfl) rfl)
      · exact flowq_box 50 29 (oc zeroO) rfl HST.out.1 HST.out.2 (fun u => rfl) (by kernel_rfl) rfl (by kernel_rfl) (by kernel_rfl) (fun a w => new_op rfl a w)
      · exact flowq_put 8 29 (fun u => oc (setL (getO (txt st).1) u.1)) (fun u => rfl) HST.out.1 HST.out.2 rfl (by kernel_rfl) (fun u => rfl) (fun u => rfl) rfl (by kernel_rfl) (by kernel_rfl) (fun u o a w g4 old hb hn hv hg hsz => put_op rfl ((eval_at (by kernel_rfl)).trans hv) (Ev.at (F := fun k => ((fun u => Fa.eq (.pointer (some ⟨g, 0, none⟩)) :: Fa.eq (.pointer (some ⟨g, 0, none⟩)) :: Fa.eq (.int .i64 ((st.getD []).length : Nat)) :: Fa.eq (.string (ba (txt st).1)) :: Fa.eq (.tuple #[.agg (oc (setL (getO (txt st).1) u.1)), .int .i64 (getE (txt st).1)]) :: Fa.eq (.tuple #[.agg (oc (setL (getO (txt st).1) u.1)), .int .i64 (getE (txt st).1)]) :: Fa.eq (.agg (oc (setL (getO (txt st).1) u.1))) :: Fa.eq (.int .i64 (getE (txt st).1)) :: Fa.box 50 29 :: Fa.put 8 50 (oc (setL (getO (txt st).1) u.1)) :: Fa.eq (.int .i64 (getE (txt st).1)) :: [] : OneV → List Fa) u).getD k (.eq undef)) (i := 6) (by kernel_rfl) (by kernel_rfl) rfl o a w hb hn) hg hsz u.2)
      · exact q_move (c := fun u => .int .i64 (getE (txt st).1)) (.inr rfl) (fun u => rfl) (by kernel_rfl) rfl (by kernel_rfl) (by kernel_rfl) (fun u => Ev.at (i := 7) (by kernel_rfl) (by kernel_rfl) rfl)
    · subst hFl
      intro u o vs w1 hK hR hC hf
      have HC := hid hC
      have HK := hid hK
      have HR := hid (show RAt w1 (some g) (txt st).2 from hR)
      obtain ⟨g4, ev8, hg4, ho4, huq, old, hold, hosz⟩ := hf 8 (by decide)
      obtain ⟨g5, hg5, ho5, hput⟩ := hf 9 (by decide)
      obtain rfl : g5 = g4 := huq g5 hg5 (lt_of_heap hput) ho5
      have e0 : vs 0 = .pointer (some ⟨g, 0, none⟩) := hf 0 (by decide)
      have e1 : vs 1 = .pointer (some ⟨g, 0, none⟩) := hf 1 (by decide)
      have e2 : vs 2 = .int .i64 ((st.getD []).length : Nat) := hf 2 (by decide)
      have e3 : vs 3 = .string (ba (txt st).1) := hf 3 (by decide)
      have e4 : vs 4 = .tuple #[.agg (oc (setL (getO (txt st).1) u.1)), .int .i64 (getE (txt st).1)] := hf 4 (by decide)
      have e5 : vs 5 = .tuple #[.agg (oc (setL (getO (txt st).1) u.1)), .int .i64 (getE (txt st).1)] := hf 5 (by decide)
      have e6 : vs 6 = .agg (oc (setL (getO (txt st).1) u.1)) := hf 6 (by decide)
      have e7 : vs 7 = .int .i64 (getE (txt st).1) := hf 7 (by decide)
      have e10 : vs 10 = .int .i64 (getE (txt st).1) := hf 10 (by decide)
      simp only [fill, List.setIfInBounds_toArray, List.set_cons_zero, List.set_cons_succ, e0, e1, e2, e3, e4, e5, e6, e7, e10, ev8]
      clear e0 e1 e2 e3 e4 e5 e6 e7 e10 ev8 hf hC hK hR huq hold hosz ho4 ho5
      have HP := hid (show OpAt w1 g5 (setL (getO (txt st).1) u.1) from hput)
      have HG1 := hid (HG.out.turn (w' := w1) (st' := (txt st).2) ⟨HK.out.os, HK.out.tape, HK.out.output, HK.out.size, HK.out.block⟩ HR.out (small_takeText HG.out.small _) hBw)
      have HSZ1 := hid (show w.heap.size ≤ w1.heap.size from HK.out.size)
      clear hput hg5 hg4
      have h5 : getE (txt st).1 = 0 ∨ getE (txt st).1 = 5 := endOf_vals _
      rcases h5 with hE | hE
      · rw [hE]
        have HE := hid hE
        have hok : okO (setL (getO (txt st).1) u.1) := { (getE_zero hE).2.1 with }
        have HOK := hid hok
        clear hE hok
        obtain ⟨pv, cv, hv⟩ := HG1.out.own.form
        have c0 : w1.cell? ⟨bO, 0, none⟩ = some (.slice pv l.length cv) := hv ▸ (cell_of_heap HG1.out.ops).trans rfl
        have un : IntKind.u64.wrap ((n : Int) - 1) = ((n - 1 : Nat) : Int) := by have := HN.out; have := HG.out.hn; rw [wrap_u64]; omega
        have hown := HG1.out.own.1
        rw [hv] at hown
        have HOWN := hid hown
        have hpush := fun w2 w3 v3 => GL.push (w2 := w2) (w3 := w3) (v3 := v3) (x := (setL (getO (txt st).1) u.1, getL (txt st).1)) HG1.out (Nat.le_trans hBw HSZ1.out)
        rw [hv] at hpush
        have HPU := hid hpush
        have HV := hid hv
        have HU := hid (show (setL (getO (txt st).1) u.1).lv.oneCell' = true from u.2)
        obtain ⟨i0, hi, hz0, hz1, hz2⟩ := info_parts infoOp
        have hlen : l.length ≤ 63 := by have := HN.out; have := HG.out.hn; omega
        obtain ⟨q, hq⟩ : ∃ q, setL (getO (txt st).1) u.1 = q := ⟨_, rfl⟩
        rw [hq] at HP HOK HPU HU ⊢
        have HCq := hid (show ClaimsT w1 q.lv (getL (txt st).1) from hq ▸ HC.out)
        have HQ := hid hq
        clear hq hown hpush hv
        go_wp2_with (first
          | (refine load_op2 _ rfl (by kernel_rfl) g5 rfl q HP.out ?_)
          | (refine build_op rfl _ rfl q rfl ?_)
          | (at_builtin; refine wpList_append_own _ rfl (.tmp 18) (.tmp 20) 25 rfl (bO + 1) 50 i0 (.agg (oc zeroO)) 29 144 Try.underlying25 hi hz0 hz1 hz2 rfl (by decide) (.slice pv l.length cv) _ _ rfl (HOWN.out.alloc _) ⟨w1.heap.size, 0, none⟩ 1 1 (oc q).toList rfl rfl (cells_newO _ _ _ rfl) (one_op q HU.out) (by unfold maxLen; omega) (by omega) (by have := lt_of_heap HG1.out.ops; simp; omega) ?_; intro v3 w3 hown3 hgr _; have HX := hid (HPU.out (w1.alloc (.cells (oc q) 50)) w3 v3 (below_al _ _) hgr hown3 HOK.out HCq.out HN.out); have HGR := hid (show w.heap.size ≤ w3.heap.size from Nat.le_trans HSZ1.out (Nat.le_trans (by simp) hgr.size)); obtain ⟨p3, q3, hv3⟩ := (show ∃ p c, v3 = .slice p (l.length + 1) c from by rcases hown3.2 with ⟨_, e⟩ | ⟨_, _, _, rfl, _⟩ <;> first | omega | exact ⟨_, _, rfl⟩); subst hv3; have b0 := (cell_of_heap (j := 0) (HX.out.1 _ _ _ (by decide) HG1.out.ops)).trans (show _ = some v from rfl); have b1 := freeV (HX.out.1 _ _ _ (by decide) HG1.out.ops) 0; have b2 := (cell_of_heap (j := 0) (HX.out.1 _ _ _ (by decide) HG1.out.left)).trans (show _ = some (Value.int .u64 (n : Int)) from rfl); have b3 := freeV (HX.out.1 _ _ _ (by decide) HG1.out.left) 0; have hbO : bl ≠ bO := (fun e => by have h1 := HG1.out.ops; rw [← e, HG1.out.left] at h1; cases h1); clear hown3 hgr))
        go_ret
        refine ⟨.one (.slice p3 (l.length + 1) q3) u.1 HN.out HE.out (HQ.out ▸ HX.out.2), by simpa using HGR.out⟩
      · rw [hE]
        have HE := hid hE
        clear hE
        go_wp2
        go_ret
        exact ⟨.bad HN.out HE.out HG1.out, HSZ1.out⟩
end Go.Proofs.Ytagjgknkkbkjgaa.V
