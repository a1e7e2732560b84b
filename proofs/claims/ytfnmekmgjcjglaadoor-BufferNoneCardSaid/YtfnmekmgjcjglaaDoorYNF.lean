/-
  The document's Put.
-/
import Derived.Test.YtfnmekmgjcjglaaDoorYNE
import Derived.Test.YtfnmekmgjcjglaaDoorYND
import Derived.Test.YtfnmekmgjcjglaaDoorYMO
namespace Go.Proofs.YtfnmekmgjcjglaaDoor.V
set_option linter.unusedVariables false
set_option linter.unusedSimpArgs false
set_option maxRecDepth 100000
open Go Go.RowKit Go.Maps Wire
/-- A row beside a block that is none of operations. -/
theorem own_put {B : Nat} {w w' : World} {v : Value} {l : List OC} (ho : OwnO B w v l) {g : Nat} (hg : B ≤ g) (hno : ∀ cs t fr, w.heap[g]? = some (.cells cs t fr) → t ≠ 50 ∧ t ≠ 94) (h : ∀ k, k ≠ g → w'.heap[k]? = w.heap[k]?) : OwnO B w' v l :=
  ho.same (fun k hk => h k (by omega)) (fun k cs t ht hk => (h k (fun e => by
    rw [e] at hk
    obtain ⟨h1, h2⟩ := hno cs t _ hk
    rcases ht with rfl | rfl
    · exact h1 rfl
    · exact h2 rfl)).trans hk)
theorem getElem_inj {c : List OC} (hn : (c.map dt).Nodup) {k : Nat} {x : OC} (hk : c[k]? = some x) : (c.take k ++ c.drop (k + 1)) = remM c (dt x) := rem_erase hn hk
theorem set_other {w : World} {g i : Nat} {u : Value} {k : Nat} (h : k ≠ g) : (w.setCell ⟨g, i, none⟩ u).heap[k]? = w.heap[k]? := by
  simp [World.setCell, Array.getElem?_modify, Ne.symm h]
theorem RefAt.no {w : World} {g n : Nat} {h : Vec} {v : Value} (hg : RefAt w g n h v) : ∀ cs t fr, w.heap[g]? = some (.cells cs t fr) → t ≠ 50 ∧ t ≠ 94 := fun cs t fr hc => by
  rw [hg] at hc
  cases hc
  exact ⟨by decide, by decide⟩
theorem RefAt.set9 {w : World} {g n : Nat} {h : Vec} {v : Value} (hg : RefAt w g n h v) (u : Value) : RefAt (w.setCell ⟨g, 9, none⟩ u) g n h u := heap_s hg
theorem RefAt.setr {w : World} {g n : Nat} {h : Vec} {v : Value} (hg : RefAt w g n h v) {r : Nat} (hr : r < 8) (k : Nat) : RefAt (w.setCell ⟨g, 1 + r, none⟩ (.int .u32 (k : Int))) g n (upd h r k) v := by
  have := heap_s hg (k := 1 + r) (v := .int .u32 (k : Int))
  rw [ref_set n h v hr] at this
  exact this
/-- What the document's Put answers. -/
def RefP (B : Nat) (W : World) (n : Nat) (h : Vec) (v : Value) (c xs : List OC) (e : Ending) (w' : World) : Prop :=
  (¬ okAll n xs → e = .returned (.tuple #[.agg (rfC n h v), .slice none 0 0, .int .i64 5])) ∧
  (okAll n xs → ∃ v' u out c' h', e = .returned (.tuple #[.agg (rfC n h' v'), u, .int .i64 0]) ∧ OwnO B w' v' c' ∧ OwnO B w' u out ∧ (out, h', c') = putM h c xs ∧ BufP n h' c') ∧ Below W.heap.size W w'
/-- What holds as the document puts. -/
structure R2 (W wr : World) (n : Nat) (h : Vec) (v0 v : Value) (c : List OC) : Prop where
  ref : RefAt wr W.heap.size n h v0
  row : OwnO W.heap.size wr v c
  below : Below W.heap.size W wr
  cell : RefAt wr (W.heap.size + 1) 0 zeroV (.slice none 0 0)
theorem R2.keep {W wr w' : World} {n : Nat} {h : Vec} {v0 v : Value} {c : List OC} (r : R2 W wr n h v0 v c) (hb : Below wr.heap.size wr w') : R2 W w' n h v0 v c :=
  ⟨heap_keep r.ref hb, r.row.keep r.below.size hb, r.below.trans (hb.mono r.below.size), heap_keep r.cell hb⟩
theorem R2.stored {W wr : World} {n : Nat} {h : Vec} {v0 v : Value} {c : List OC} (r : R2 W wr n h v0 v c) (u : Value) : R2 W (wr.setCell ⟨W.heap.size, 9, none⟩ u) n h u v c :=
  ⟨r.ref.set9 u, own_put r.row (Nat.le_refl _) r.ref.no (fun k hk => set_other hk), r.below.setCell (Nat.le_refl _) u, (set_other (by omega)).trans r.cell⟩
theorem R2.counted {W wr : World} {n : Nat} {h : Vec} {v0 v : Value} {c : List OC} (r : R2 W wr n h v0 v c) {q : Nat} (hq : q < 8) (k : Nat) : R2 W (wr.setCell ⟨W.heap.size, 1 + q, none⟩ (.int .u32 (k : Int))) n (upd h q k) v0 v c :=
  ⟨r.ref.setr hq k, own_put r.row (Nat.le_refl _) r.ref.no (fun j hj => set_other hj), r.below.setCell (Nat.le_refl _) _, (set_other (by omega)).trans r.cell⟩
section
variable {ops : Array Oper} {rest : List Oper} {c : Oper} {a : Act} {w : World} {Q : Exit → Act → World → Prop}
theorem x_laid {y : Operand} {o : OpM} (ho : c.op = .buildSlice 22 1 #[(0, y)]) (hy : a.eval y = .agg (oc o)) : (execOp a.eval c).run Tryd.prog w = .ok (.value (.slice (some ⟨w.heap.size, 0, none⟩) 1 1)) (w.alloc (.cells (oc o) 50)) := by
  obtain ⟨i0, hi, hz0, hz1, hz2⟩ := info_parts infoOp
  have hr := run_buildSlice (P := Tryd.prog) w 22 50 1 #[(0, .agg (oc o))] (oc o) i0 _ Tryd.underlying22 hi hz0 (by rw [hz1]; omega) (by rw [hz1]; omega) (by rw [hz1]; simpa using fill_op o)
  unfold execOp
  simp only [ho, List.map_toArray, List.map_cons, List.map_nil, hy, Sem.run_bind, Sem.run_pure, Result.andThen_ok, hr]
theorem x_slice {x : Operand} {lo hi : Option Operand} {t : Nat} {u v : Value} {l m : Option Value} (ho : c.op = .slice t x lo hi none) (hx : a.eval x = u) (hl : lo.map a.eval = l) (hm : hi.map a.eval = m) (hr : (Instr.sliceAt t u l m none).run Tryd.prog w = .ok v w) : (execOp a.eval c).run Tryd.prog w = .ok (.value v) w := by
  unfold execOp
  simp only [ho, hx, hl, hm, Option.map_none, Sem.run_bind, hr, Result.andThen_ok, Sem.run_pure]
theorem x_bin {x y : Operand} {k : BinOp} {s t : Nat} {u z v : Value} (ho : c.op = .binOp k s x y t) (hx : a.eval x = u) (hy : a.eval y = z) (hr : (do eqGuard k s x y u z; binOp k s u z : Sem Value).run Tryd.prog w = .ok v w) : (execOp a.eval c).run Tryd.prog w = .ok (.value v) w := by
  unfold execOp
  simp only [ho, hx, hy]
  show ((do eqGuard k s x y u z; binOp k s u z : Sem Value) >>= fun v => pure (Next.value v)).run Tryd.prog w = _
  rw [Sem.run_bind, hr]
  rfl
end
theorem LaidO.new {w : World} {x : OC} : LaidO (w.alloc (.cells (oc x.1) 50)) x (.slice (some ⟨w.heap.size, 0, none⟩) 1 1) := ⟨_, rfl, heap_alloc_last' _ _⟩
end Go.Proofs.YtfnmekmgjcjglaaDoor.V
namespace Go.Proofs.YtfnmekmgjcjglaaDoor.V
set_option linter.unusedVariables false
set_option linter.unusedSimpArgs false
set_option maxRecDepth 100000
open Go Go.RowKit Go.Maps Wire
/-- What holds as the document hands on. -/
structure RL (W : World) (n : Nat) (h0 : Vec) (L0 : List OC) (wr : World) (v9 : Value) (out : List OC) (v2 : Value) (h : Vec) (c : List OC) : Prop where
  r2 : R2 W wr n h v2 v2 c
  own : OwnO W.heap.size wr v9 out
  ne : ∀ k, v9.ownBlock = some k → v2.ownBlock ≠ some k
  going : Going h0 L0 out h c
  buf : BufP n h c
end Go.Proofs.YtfnmekmgjcjglaaDoor.V
