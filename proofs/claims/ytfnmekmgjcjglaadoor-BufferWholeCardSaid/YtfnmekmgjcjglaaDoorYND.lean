/-
  Operations put into a buffer.
-/
import Derived.Test.YtfnmekmgjcjglaaDoorYNC
namespace Go.Proofs.YtfnmekmgjcjglaaDoor.V
set_option linter.unusedVariables false
set_option linter.unusedSimpArgs false
set_option maxRecDepth 100000
open Go Go.RowKit Go.Maps Wire
/-! ### what a turned buffer leaves as it was -/
theorem buf_no8 (n : Nat) (h : Vec) (mb : Nat) (k : Nat) (z : Int) : (bufC n h mb)[k]? ≠ some (.int .u8 z) := by
  intro e
  have hk : k < 10 := (Array.getElem?_eq_some_iff.1 e).1
  match k, hk with
  | 0, _ => cases e
  | 1, _ => cases e
  | 2, _ => cases e
  | 3, _ => cases e
  | 4, _ => cases e
  | 5, _ => cases e
  | 6, _ => cases e
  | 7, _ => cases e
  | 8, _ => cases e
  | 9, _ => cases e
theorem BufAt.cell8 {w : World} {p mb n : Nat} {h : Vec} {c : List OC} (b : BufAt w p mb n h c) {a : Addr} {z : Int} (hc : w.cell? a = some (.int .u8 z)) : a.block ≠ p ∧ a.block ≠ mb := by
  refine ⟨fun e => ?_, fun e => ?_⟩
  · unfold World.cell? at hc
    rw [e, b.obj] at hc
    dsimp only at hc
    split at hc
    · cases hc
    · exact buf_no8 _ _ _ _ _ hc
  · obtain ⟨es, clock, hm⟩ := b.map.obj
    unfold World.cell? at hc
    rw [e, hm] at hc
    cases hc
theorem Mov.cell {w w' : World} {p mb n : Nat} {h : Vec} {c : List OC} (b : BufAt w p mb n h c) (m : Mov p mb w w') {a : Addr} {z : Int} (h8 : w.cell? a = some (.int .u8 z)) {a' : Addr} (hb : a'.block = a.block) : w'.cell? a' = w.cell? a' := by
  obtain ⟨h1, h2⟩ := b.cell8 h8
  refine World.cell?_of_block (m.block _ ?_ (by rw [hb]; exact h1) (by rw [hb]; exact h2))
  rw [hb]
  exact cell_lt h8
theorem Mov.claimsV {w w' : World} {p mb n : Nat} {h : Vec} {c : List OC} (b : BufAt w p mb n h c) (m : Mov p mb w w') {v : Value} {l : List Claim} (hc : ClaimsV w v l) : ClaimsV w' v l := by
  obtain ⟨a, len, cap, rfl, h1, h2, h3, h4, h5⟩ := hc
  refine ⟨a, len, cap, rfl, h1, h2, h3, h4, ?_⟩
  cases a with
  | none => exact h5
  | some ad =>
    intro i x hx k hk
    have h0 := h5 i x hx 0 (by omega)
    rw [← h5 i x hx k hk]
    exact Mov.cell b m (h0.trans (show (cl x)[0]? = some (.int .u8 (x.1.1 : Int)) from rfl)) (by rw [block_add, block_add, block_add, block_add])
theorem Mov.opsV {w w' : World} {p mb n : Nat} {h : Vec} {c : List OC} (b : BufAt w p mb n h c) (m : Mov p mb w w') {v : Value} {l : List OC} (hv : OpsV w v l) : OpsV w' v l := by
  obtain ⟨a, len, cap, rfl, h1, h2, h3, h4, h5⟩ := hv
  refine ⟨a, len, cap, rfl, h1, h2, h3, fun x hx => ⟨(h4 x hx).1, Mov.claimsV b m (h4 x hx).2⟩, ?_⟩
  cases a with
  | none => exact h5
  | some ad =>
    intro i x hx k hk
    have h0 := h5 i x hx 0 (by omega)
    rw [← h5 i x hx k hk]
    exact Mov.cell b m (h0.trans (show (oc x.1)[0]? = some (.int .u8 (x.1.r : Int)) from rfl)) (by rw [block_add, block_add, block_add, block_add])
theorem Mov.isOps {w w' : World} {p mb n : Nat} {h : Vec} {c : List OC} (b : BufAt w p mb n h c) (m : Mov p mb w w') {a : Option Addr} {len cap : Nat} {l : List OC} (hv : IsOps w a len cap l) : IsOps w' a len cap l := by
  obtain ⟨a', len', cap', e, h'⟩ := Mov.opsV b m ⟨a, len, cap, rfl, hv⟩
  cases e
  exact h'
theorem Mov.grow {p mb : Nat} {w w1 w2 : World} {row : Option Nat} (m : Mov p mb w w1) (g : w1.grownBy w2 row) (hr : ∀ k, row = some k → w.heap.size ≤ k) : Mov p mb w w2 :=
  ⟨g.os.trans m.os, g.tape.trans m.tape, g.output.trans m.output, Nat.le_trans m.size g.size, fun k hk h1 h2 => (g.block k (Nat.lt_of_lt_of_le hk m.size) (fun e => by have := hr k e.symm; omega)).trans (m.block k hk h1 h2)⟩
theorem OwnO.blk {B : Nat} {w : World} {v : Value} {l : List OC} (h : OwnO B w v l) : ∀ k, v.ownBlock = some k → B ≤ k ∧ k < w.heap.size := by
  intro k e
  rcases h.1.2 with ⟨rfl, _⟩ | ⟨g', cap, cur, rfl, hB, hgg, _⟩
  · cases e
  · obtain rfl : k = g' := (Option.some.inj e).symm
    exact ⟨hB, lt_of_heap hgg⟩
/-- An operation appended: only the row's own block changes. -/
theorem wpList_pushG {ops : Array Oper} {rest : List Oper} {o : Oper} {a : Act} {w : World} {Q : Exit → Act → World → Prop} (hgd : o.guard = none) (s x : Operand)
    (ho : o.op = .call { callee := .builtin .append, args := #[s, x], argTypes := #[22, 22] }) (B : Nat) (w0 : World) (v : Value) (l : List OC) (hs : a.eval s = v) (hown : OwnO B w0 v l) (hB : B ≤ w0.heap.size) (hb : Below w0.heap.size w0 w)
    (g : Nat) (q : OC) (hx : a.eval x = .slice (some ⟨g, 0, none⟩) 1 1) (hg : w.heap[g]? = some (.cells (oc q.1) 50 (0, 0))) (hq : okO q.1) (hc : ClaimsB B w q.1.lv q.2) (hlen : l.length ≤ 1000000)
    (h : ∀ p c w', OwnO B w' (.slice p (l.length + 1) c) (l ++ [q]) → w.grownBy w' v.ownBlock → wpList Tryd.prog ops Q rest (a.put o.dst (.slice p (l.length + 1) c)) w') : wpList Tryd.prog ops Q (o :: rest) a w := by
  obtain ⟨i0, hi, hz0, hz1, hz2⟩ := info_parts infoOp
  have hBw : B ≤ w.heap.size := Nat.le_trans hB hb.size
  refine wpList_append_own _ hgd s x 22 ho B 50 i0 (.agg (oc zeroO)) 29 144 Tryd.underlying22 hi hz0 hz1 hz2 rfl (by decide) v _ _ hs (hown.keep hB hb).1 ⟨g, 0, none⟩ 1 1 (oc q.1).toList hx rfl
    (fun j u hj => by rw [add8, cell_of_heap hg, ← hj, Array.getElem?_toList]) (one_op q.1 hc.1.oneCell) (by unfold maxLen; omega) (by omega) hBw ?_
  intro v3 w3 hown3 hgr _
  have hP := OwnO.push hown hB hb hgr hown3 hq hc
  obtain ⟨p3, q3, hv3⟩ := (show ∃ p c, v3 = .slice p (l.length + 1) c from by rcases hown3.2 with ⟨_, e⟩ | ⟨_, _, _, rfl, _⟩ <;> first | omega | exact ⟨_, _, rfl⟩)
  subst hv3
  exact h p3 q3 w3 hP hgr
/-- A buffer beside such a row. -/
theorem BufAt.grow {w w' : World} {p mb n : Nat} {h : Vec} {c : List OC} (b : BufAt w p mb n h c) {row : Option Nat} (g : w.grownBy w' row) (hr : ∀ k, row = some k → ∃ cs fr, w.heap[k]? = some (.cells cs 50 fr)) : BufAt w' p mb n h c := by
  have hne : ∀ k, k < w.heap.size → (∀ cs fr, w.heap[k]? ≠ some (.cells cs 50 fr)) → w'.heap[k]? = w.heap[k]? := fun k hk hno => g.block k hk (fun e => by
    obtain ⟨cs, fr, hc⟩ := hr k e.symm
    exact hno cs fr hc)
  refine b.same (hne p b.ltp (fun cs fr hc => (b.ne_cells (by decide) hc).1 rfl)) (hne mb b.ltm (fun cs fr hc => (b.ne_cells (by decide) hc).2 rfl)) (fun k cs hk => (hne k (lt_of_heap hk) (fun cs2 fr hc => by rw [hk] at hc; cases hc)).trans hk)
theorem OwnO.blkO {B : Nat} {w : World} {v : Value} {l : List OC} (h : OwnO B w v l) : ∀ k, v.ownBlock = some k → ∃ cs fr, w.heap[k]? = some (.cells cs 50 fr) := by
  intro k e
  rcases h.1.2 with ⟨rfl, _⟩ | ⟨g', cap, cur, rfl, hB, hgg, _⟩
  · cases e
  · obtain rfl : k = g' := (Option.some.inj e).symm
    exact ⟨_, _, hgg⟩
theorem claims_grow {w w' : World} {row : Option Nat} (g : w.grownBy w' row) (hr : ∀ k, row = some k → ∃ cs fr, w.heap[k]? = some (.cells cs 50 fr)) {v : Value} {l : List Claim} (h : ClaimsB 0 w v l) : ClaimsB 0 w' v l :=
  h.typ (fun k hk => absurd hk (Nat.not_lt_zero k)) (fun k cs hk => (g.block k (lt_of_heap hk) (fun e => by
    obtain ⟨cs2, fr, hc⟩ := hr k e.symm
    rw [hk] at hc
    cases hc)).trans hk)
theorem own_mov {w w' : World} {p mb n : Nat} {h : Vec} {c : List OC} (b : BufAt w p mb n h c) (m : Mov p mb w w') {B : Nat} {v : Value} {l : List OC} (ho : OwnO B w v l) (hl : ∀ x ∈ l, ClaimsB 0 w x.1.lv x.2) : OwnO B w' v l ∧ ∀ x ∈ l, ClaimsB 0 w' x.1.lv x.2 := by
  have hl2 : ∀ x ∈ l, ClaimsB 0 w' x.1.lv x.2 := fun x hx => Mov.claims b m (hl x hx)
  refine ⟨⟨⟨ho.1.1, ?_⟩, fun x hx => ⟨(ho.2 x hx).1, (hl2 x hx).any B⟩⟩, hl2⟩
  rcases ho.1.2 with hn | ⟨g, cap, cur, hv, hbg, hg, rest⟩
  · exact .inl hn
  · exact .inr ⟨g, cap, cur, hv, hbg, Mov.typ b m (by decide) hg, rest⟩
theorem own_row {w : World} {B g : Nat} {o : OpM} {v : Value} {l : List OC} (ho : OwnO B w v l) (hl : ∀ x ∈ l, ClaimsB 0 w x.1.lv x.2) (hg : OpAt w g o) (hne : v.ownBlock ≠ some g) (R : Array Value) : OwnO B (w.setRow g R) v l ∧ ∀ x ∈ l, ClaimsB 0 (w.setRow g R) x.1.lv x.2 := by
  have hl2 : ∀ x ∈ l, ClaimsB 0 (w.setRow g R) x.1.lv x.2 := fun x hx => (hl x hx).typ (fun k hk => absurd hk (Nat.not_lt_zero k)) (fun k cs hk => row_ne hk (fun e => by
    unfold OpAt at hg
    rw [e, hk] at hg
    cases hg))
  refine ⟨⟨⟨ho.1.1, ?_⟩, fun x hx => ⟨(ho.2 x hx).1, (hl2 x hx).any B⟩⟩, hl2⟩
  rcases ho.1.2 with hn | ⟨g', cap, cur, hv, hbg, hg', rest⟩
  · exact .inl hn
  · refine .inr ⟨g', cap, cur, hv, hbg, row_ne hg' (fun e => hne ?_), rest⟩
    rw [hv, e]; rfl
/-! ### mathematics -/
theorem admit_take {h : Vec} {l xs : List OC} {k : Nat} {x : OC} (hx : xs[k]? = some x) : admitM h l (xs.take (k + 1)) = admit1 h (admitM h l (xs.take k)) x := by
  unfold admitM
  rw [take_snocO hx, List.foldl_append]
  rfl
theorem admit1_map (h : Vec) (l : List OC) (x : OC) : (admit1 h l x).map core = admit1 h (l.map core) (core x) := by
  have := admit_map h [x] l
  exact this.symm
theorem admit_len (h : Vec) : ∀ (xs l : List OC), (admitM h l xs).length ≤ l.length + xs.length
  | [], l => Nat.le_refl _
  | x :: xs, l => by
    unfold admitM
    rw [List.foldl_cons]
    have h1 := admit_len h xs (admit1 h l x)
    unfold admitM at h1
    have h2 : (admit1 h l x).length ≤ l.length + 1 := by
      unfold admit1
      split
      · omega
      · simp
    rw [List.length_cons]
    omega
theorem next_core {h : Vec} {c : List OC} {x : OC} (e : nextM h c = some x) : nextM h (c.map core) = some (core x) := by rw [next_map, e]; rfl
theorem next_coreN {h : Vec} {c : List OC} (e : nextM h c = none) : nextM h (c.map core) = none := by rw [next_map, e]; rfl
/-- What the closure answers, in one. -/
structure HandQ (p mb n : Nat) (h : Vec) (c : List OC) (w w' : World) (isb : Bool) (o : OC) (h' : Vec) (c' : List OC) : Prop where
  ok : okO o.1
  lines : ClaimsB 0 w' o.1.lv o.2
  buf : BufAt w' p mb n h' c'
  mov : Mov p mb w w'
  yes : isb = true → ∀ h0 l0 out, Going h0 l0 out h (c.map core) → Going h0 l0 (out ++ [core o]) h' (c'.map core)
  no : isb = false → nextM h (c.map core) = none ∧ h' = h ∧ c' = c
theorem hand_of {w : World} {p mb n : Nat} {h : Vec} {c : List OC} (b : BufAt w p mb n h c) {e : Ending} {w' : World} (hh : HandP w p mb n h c e w') : ∃ isb o h' c', e = .returned (.tuple #[.agg (oc o.1), .bool isb]) ∧ HandQ p mb n h c w w' isb o h' c' := by
  cases hn : nextM h c with
  | none =>
    obtain ⟨e1, hB⟩ := hh.1 hn
    exact ⟨false, zeroY, h, c, e1, ⟨by constructor <;> first | exact ok_zero | decide, ClaimsB.nil _ _, b.keep hB, Mov.of hB, fun e => (by cases e), fun _ => ⟨next_coreN hn, rfl, rfl⟩⟩⟩
  | some x =>
    obtain ⟨u, e1, h1, h2, h3⟩ := hh.2 x hn
    have hxm := (next_some hn).1
    refine ⟨true, (setL x.1 u, x.2), upX h x, remM c (dt x), e1, ⟨ok_setL (b.oks x hxm) u, h1, h2, h3, fun _ h0 l0 out hg => ?_, fun e => (by cases e)⟩⟩
    have hnd : ((c.map core).map dt).Nodup := by
      have := b.map.2.1
      rwa [← dts_core (map_core_core c)] at this
    have := hg.step hnd (next_core hn)
    rw [rem_map] at this
    exact this
end Go.Proofs.YtfnmekmgjcjglaaDoor.V
namespace Go.Proofs.YtfnmekmgjcjglaaDoor.V
set_option linter.unusedVariables false
set_option linter.unusedSimpArgs false
set_option maxRecDepth 100000
open Go Go.RowKit Go.Maps Wire
/-- How long a slice is. -/
def slLen (v : Value) : Nat := match v with | .slice _ n _ => n | _ => 0
/-- What Put answers. -/
def PutP (W : World) (p mb n : Nat) (h : Vec) (c xs : List OC) (e : Ending) (w' : World) : Prop :=
  (¬ okAll n xs → e = .returned (.tuple #[.slice none 0 0, .int .i64 5]) ∧ Below W.heap.size W w') ∧
  (okAll n xs → ∃ u out c' h', e = .returned (.tuple #[u, .int .i64 0]) ∧ OwnO W.heap.size w' u out ∧ (∀ x ∈ out, ClaimsB 0 w' x.1.lv x.2) ∧ BufAt w' p mb n h' c' ∧ (out.map core, h', c'.map core) = putM h (c.map core) (xs.map core) ∧ Mov p mb W w')
/-- What holds as operations are handed on. -/
structure LoopP (W : World) (p mb n qb : Nat) (h0 : Vec) (L0 : List OC) (wr : World) (v : Value) (out : List OC) (g12 : Nat) (isb : Bool) (o : OC) (h : Vec) (c : List OC) : Prop where
  own : OwnO W.heap.size wr v out
  lines : ∀ x ∈ out, ClaimsB 0 wr x.1.lv x.2
  buf : BufAt wr p mb n h c
  box : BoxP wr qb p
  at_ : OpAt wr g12 o.1
  ok : okO o.1
  oline : ClaimsB 0 wr o.1.lv o.2
  hg12 : W.heap.size ≤ g12
  ne : v.ownBlock ≠ some g12
  mov : Mov p mb W wr
  going : Going h0 L0 (out.map core ++ (if isb then [core o] else [])) h (c.map core)
  no : isb = false → nextM h (c.map core) = none
set_option maxHeartbeats 400000 in
theorem buffer_Put {W : World} {p mb n : Nat} {h : Vec} {c : List OC} (b : BufAt W p mb n h c) (v : Value) (xs : List OC) (hv : OpsV W v xs) (hT : Tab W) (hl : c.length + xs.length ≤ 90000) :
    Calls Tryd.prog 13 #[.pointer (some ⟨p, 0, none⟩), v] W fun e w' => PutP W p mb n h c xs e w' := by
  obtain ⟨a, m, cp, rfl, hI⟩ := hv
  have HM := hid (show m = xs.length from hI.1.symm)
  have hm : m ≤ 9223372036854775807 := Nat.le_trans hI.2.1 hI.2.2.1
  have HI := hid hI
  have HB := hid b
  have HT := hid hT
  have HL := hid hl
  have hnone := buffer_none b
  clear hI b hT hl
  go_enter Tryd.func13, Tryd.ntmps13
  go_wp2_with (go_at_call 25; refine hnone.mono ?_; clear hnone; rintro e W ⟨rfl, rfl⟩)
  go_loopw [18] (fun i wr => ∃ k : Nat, k ≤ m ∧ i = .int .i64 (k : Nat) ∧ Hid (∀ x ∈ xs.take k, checkM x.1 x.2 n = 0) ∧ Hid (Below W.heap.size W wr)) (fun i _ => m - (intOf i).toNat)
  case atStart => exact ⟨0, by omega, rfl, hid (by simp), hid (Below.refl _ _)⟩
  case round =>
    obtain ⟨k, hk, rfl, HC, HBL⟩ := hrel
    by_cases hlt : k < m
    · cases a with
      | none => have := HI.out.none_len; omega
      | some ad =>
        obtain ⟨o, cl', hx, hok, hcl, hin⟩ := (HI.out.keep HBL.out).at k hlt
        obtain ⟨x, hxe⟩ : ∃ x : OC, x = (o, cl') := ⟨_, rfl⟩
        have HX := hid (show xs[k]? = some x by rw [hxe]; exact hx)
        have HXI := hid (show OpIn wr (ad.add (k * 29)) x.1 by rw [hxe]; exact hin)
        have HXO := hid (show okO x.1 by rw [hxe]; exact hok)
        have HXC := hid (show ClaimsV wr x.1.lv x.2 by rw [hxe]; exact hcl)
        clear hx hok hcl hin hxe
        have h1 : (k : Int) < (m : Int) := by omega
        go_upto_region 6 with (first
          | (refine load_opIn _ rfl rfl (ad.add (k * 29)) rfl x.1 HXI.out ?_)
          | (refine wpList_store_row rfl _ _ _ rfl wr.heap.size (oc x.1) rfl rfl 50 (oc zeroO) ?_ (opSize _) rfl (oneO _ HXC.out.oneCell) ?_; (focus exact heap_alloc_last' _ _); rw [World.setRow_alloc_new]))
        go_frame
        have hL7 := below_al wr (.cells (oc x.1) 50)
        have HX7 := hid (show OpIn (wr.alloc (.cells (oc x.1) 50)) ⟨wr.heap.size, 0, none⟩ x.1 from fun k hk => by rw [add8]; exact (opAt_new wr x.1).cell k)
        have HBW := hid ((HB.out.keep HBL.out).keep hL7)
        have HXL := hid (HXC.out.keep hL7)
        have HBL7 := hid (below_next HBL.out hL7)
        have HT7 := hid (HT.out.keep HBL7.out)
        clear hL7 HXC HXI
        generalize wr.alloc (.cells (oc x.1) 50) = W7 at HX7 HBW HXL HBL7 HT7 ⊢
        generalize wr.heap.size = g7 at HX7 ⊢
        refine wp_flow (fun _ => none) (Fa.eq (.agg (oc x.1)) :: Fa.eq (.pointer (some ⟨p, 0, none⟩)) :: Fa.eq (.pointer (some ⟨p, 0, none⟩)) :: Fa.eq (.pointer (some ⟨p, 0, none⟩)) :: Fa.eq (.int .i64 ((n : Nat))) :: Fa.eq (.int .i64 (checkM x.1 x.2 n)) :: Fa.eq (.bool ((checkM x.1 x.2 n) != (0))) :: []) 59 (by kernel_rfl) rfl (by kernel_rfl) rfl (by kernel_rfl) ?_ ?_ ?_
        · exact fits_plain _ _ rfl
        · refine ⟨?_, ?_, ?_, ?_, ?_, ?_, ?_, trivial⟩
          · exact v_load (u := .pointer (some (⟨g7, 0, none⟩ : Addr))) (c := .agg (oc x.1)) rfl (fun w hB => ldp_op (OpIn.keep (OpIn.dr HX7.out) hB)) rfl (by kernel_rfl) True.intro (Ev.out (by kernel_rfl) rfl)
          · exact v_move (.inl rfl) rfl (by kernel_rfl) True.intro (Ev.out (by kernel_rfl) rfl)
          · exact v_nil rfl rfl (by kernel_rfl) True.intro (Ev.at (i := 1) (by kernel_rfl) (by kernel_rfl) rfl)
          · exact v_faddr (u := .pointer (some ⟨p, 0, none⟩)) (c := .pointer (some ⟨p, 0, none⟩)) rfl (fun w => (by go_simp)) rfl (by kernel_rfl) True.intro (Ev.at (i := 2) (by kernel_rfl) (by kernel_rfl) rfl)
          · exact v_load (u := .pointer (some ⟨p, 0, none⟩)) (c := .int .i64 ((n : Nat))) rfl (fun w hB => (by have h9 := (BufAt.keep HBW.out ((below_dr _).trans hB)).c0; go_simp)) rfl (by kernel_rfl) True.intro (Ev.at (i := 3) (by kernel_rfl) (by kernel_rfl) rfl)
          · exact v_call (vs := #[.agg (oc x.1), .int .i64 ((n : Nat))]) (c := .int .i64 (checkM x.1 x.2 n)) rfl (fun args w => rfl) (fun w hB => op_Check x.1 HXO.out x.2 n w (HXL.out.keep ((below_dr _).trans hB)) (HT7.out.keep ((below_dr _).trans hB))) rfl (by kernel_rfl) True.intro (ev2 (Ev.at (i := 0) (by kernel_rfl) (by kernel_rfl) rfl) (Ev.at (i := 4) (by kernel_rfl) (by kernel_rfl) rfl))
          · exact v_bin (u := .int .i64 (checkM x.1 x.2 n)) (v := .int .i64 (0)) (c := .bool ((checkM x.1 x.2 n) != (0))) rfl (fun w => (by go_simp)) rfl (by kernel_rfl) True.intro (Ev.at (i := 5) (by kernel_rfl) (by kernel_rfl) rfl) Ev.const
        intro _ vs W8 hB8 hf
        have e0 : vs 0 = .agg (oc x.1) := hf 0 (by decide)
        have e1 : vs 1 = .pointer (some ⟨p, 0, none⟩) := hf 1 (by decide)
        have e2 : vs 2 = .pointer (some ⟨p, 0, none⟩) := hf 2 (by decide)
        have e3 : vs 3 = .pointer (some ⟨p, 0, none⟩) := hf 3 (by decide)
        have e4 : vs 4 = .int .i64 ((n : Nat)) := hf 4 (by decide)
        have e5 : vs 5 = .int .i64 (checkM x.1 x.2 n) := hf 5 (by decide)
        have e6 : vs 6 = .bool ((checkM x.1 x.2 n) != (0)) := hf 6 (by decide)
        obtain ⟨q, hq⟩ : ∃ z : Bool, ((checkM x.1 x.2 n) != (0)) = z := ⟨_, rfl⟩
        rw [hq] at e6
        have HQ := hid hq
        clear hq
        simp only [fill, List.setIfInBounds_toArray, List.set_cons_zero, List.set_cons_succ, e0, e1, e2, e3, e4, e5, e6]
        clear e0 e1 e2 e3 e4 e5 e6
        clear hf
        have HBL8 := hid (below_next HBL7.out hB8)
        have hq := HQ.out
        clear hB8 HX7 HBW HXL HT7
        cases q
        · have HE := hid (show checkM x.1 x.2 n = 0 by simpa using hq)
          clear hq
          go_wp2
          go_roundw
          case rel =>
            refine ⟨k + 1, by omega, by go_num, hid (fun y hy => ?_), HBL8⟩
            rw [take_snocO HX.out] at hy
            rcases List.mem_append.1 hy with hy | hy
            · exact HC.out y hy
            · rw [List.mem_singleton] at hy; subst hy; exact HE.out
          case measure => exact meas1 hlt
        · have HE := hid (show ¬ okAll n xs from fun hc => by
            have := hc x (List.mem_of_getElem? HX.out)
            rw [this] at hq
            simp at hq)
          clear hq
          go_wp2
          (try simp only [Exit.inBlock, Exit.then])
          refine bodyPost_ret (results_tmp2 rfl _ _ _) rfl ?_
          exact ⟨fun _ => ⟨rfl, HBL8.out⟩, fun hc => absurd hc HE.out⟩
    · obtain rfl : m = k := by omega
      have HOK := hid (show okAll n xs from fun x hx => HC.out x (by rw [List.take_of_length_le (by have := HM.out; omega)]; exact hx))
      have HB1 := hid (HB.out.keep HBL.out)
      have HV1 := hid (HI.out.keep HBL.out)
      have HM1 := hid (show Mov p mb W wr from Mov.of HBL.out)
      clear HC
      go_wp2
      go_loopw [32] (fun i w2 => ∃ (j : Nat) (c2 : List OC), j ≤ m ∧ i = .int .i64 (j : Nat) ∧ Hid (BufAt w2 p mb n h c2) ∧ Hid (c2.map core = (admitM h c (xs.take j)).map core) ∧ Hid (Mov p mb W w2) ∧ Hid (IsOps w2 a m cp xs)) (fun i _ => m - (intOf i).toNat)
      case atStart => exact ⟨0, c, by omega, rfl, HB1, hid rfl, HM1, HV1⟩
      case round =>
        obtain ⟨j, c2, hj, rfl, HB2, HC2, HM2, HV2⟩ := hrel
        have HLEN := hid (show c2.length ≤ 90000 from by
          have h1 := congrArg List.length HC2.out
          rw [List.length_map, List.length_map] at h1
          have h2 := admit_len h (xs.take j) c
          have h3 := HL.out
          rw [List.length_take] at h2
          omega)
        by_cases hjm : j < m
        · cases a with
          | none => have := HI.out.none_len; omega
          | some ad =>
            obtain ⟨o, cl', hx, hok, hcl, hin⟩ := HV2.out.at j hjm
            obtain ⟨x, hxe⟩ : ∃ x : OC, x = (o, cl') := ⟨_, rfl⟩
            have HX := hid (show xs[j]? = some x by rw [hxe]; exact hx)
            have HXI := hid (show OpIn wr (ad.add (j * 29)) x.1 by rw [hxe]; exact hin)
            have HXO := hid (show okO x.1 by rw [hxe]; exact hok)
            have HXC := hid (show ClaimsV wr x.1.lv x.2 by rw [hxe]; exact hcl)
            clear hx hok hcl hin hxe
            have h1 : (j : Int) < (m : Int) := by omega
            have HXB := hid (show OpIn (wr.alloc (.cells (oc x.1) 50)) ⟨wr.heap.size, 0, none⟩ x.1 from fun k hk => by rw [add8]; exact (opAt_new wr x.1).cell k)
            have had := buffer_admit (HB2.out.keep (below_al wr (.cells (oc x.1) 50))) x HXO.out (HXC.out.keep (below_al _ _)) (HOK.out x (List.mem_of_getElem? HX.out)) (by have := HLEN.out; omega)
            go_wp2_with (first
              | (refine load_opIn _ rfl rfl (ad.add (j * 29)) rfl x.1 HXI.out ?_)
              | (refine load_opIn _ rfl rfl ⟨wr.heap.size, 0, none⟩ rfl x.1 HXB.out ?_)
              | (refine wpList_store_row rfl _ _ _ rfl wr.heap.size (oc x.1) rfl rfl 50 (oc zeroO) ?_ (opSize _) rfl (oneO _ HXC.out.oneCell) ?_; (focus exact heap_alloc_last' _ _); rw [World.setRow_alloc_new])
              | (go_at_call 28; refine had.mono ?_; clear had; rintro e w3 ⟨⟨v3, rfl⟩, c3, a1, a2, a3⟩; have HA := hid (And.intro a1 (And.intro a2 a3)); clear a1 a2 a3))
            go_roundw
            case rel =>
              have hm3 : Mov p mb wr w3 := (Mov.of (below_al wr (.cells (oc x.1) 50))).trans HA.out.2.2
              refine ⟨j + 1, c3, by omega, by go_num, hid HA.out.1, hid ?_, hid (HM2.out.trans hm3), hid (Mov.isOps HB2.out hm3 HV2.out)⟩
              rw [HA.out.2.1, admit1_map, HC2.out, ← admit1_map, admit_take HX.out]
            case measure => exact meas1 hjm
        · obtain rfl : m = j := by omega
          have HC3 := hid (show c2.map core = admitM h (c.map core) (xs.map core) from by
            rw [HC2.out, List.take_of_length_le (by have := HM.out; omega), admit_map])
          clear HC2
          obtain ⟨L0, hL0⟩ : ∃ L0, L0 = admitM h (c.map core) (xs.map core) := ⟨_, rfl⟩
          rw [← hL0] at HC3
          have HL0 := hid hL0
          clear hL0
          have hhd := buffer_handing p wr
          have HBB := hid (And.intro (HB2.out.keep (below_al wr (.cells #[.pointer (some ⟨p, 0, none⟩)] 24))) (heap_alloc_last' wr (.cells #[.pointer (some ⟨p, 0, none⟩)] 24)))
          have hnx := (handing_call HBB.out.1 wr.heap.size HBB.out.2).mono (fun e w' hh => hand_of HBB.out.1 hh)
          go_upto_region 17 with (first
            | (go_at_call 29; refine hhd.mono ?_; clear hhd; rintro e w4 ⟨rfl, rfl⟩)
            | (go_at_call 49; refine hnx.mono ?_; clear hnx; rintro e w5 ⟨isb, o, h2, c3, rfl, hq⟩; have HQ := hid hq; have hone := hq.lines.1.oneCell; clear hq)
            | (refine wpList_store_row rfl _ _ _ rfl w5.heap.size (oc o.1) rfl rfl 50 (oc zeroO) ?_ (opSize _) rfl (oneO _ hone) ?_; (focus exact heap_alloc_last' _ _); rw [World.setRow_alloc_new]))
          obtain ⟨qb, hqb⟩ : ∃ qb, qb = wr.heap.size := ⟨_, rfl⟩
          rw [← hqb] at HBB
          rw [← hqb]
          have hw4 := HQ.out.buf
          have hL6 := below_al w5 (.cells (oc o.1) 50)
          have HLP := hid (show LoopP W p mb n qb h L0 (w5.alloc (.cells (oc o.1) 50)) (.slice none 0 0) [] w5.heap.size isb o h2 c3 from
            ⟨OwnO.nil _ _, fun x hx => (by cases hx), hw4.keep hL6, heap_al (Mov.typ HBB.out.1 HQ.out.mov (by decide) HBB.out.2) _, opAt_new w5 o.1, HQ.out.ok, HQ.out.lines.keep (Nat.zero_le _) hL6,
             Nat.le_trans HM2.out.size (Nat.le_trans (below_al wr (.cells #[.pointer (some ⟨p, 0, none⟩)] 24)).size HQ.out.mov.size), (by intro e; cases e),
             (HM2.out.trans (Mov.of (below_al wr _))).trans (HQ.out.mov.trans (Mov.of hL6)),
             (by
               cases hib : isb with
               | true =>
                 have := HQ.out.yes hib h L0 [] (by have h3 := HC3.out; rw [h3]; exact Going.start _ _)
                 simpa [hib] using this
               | false =>
                 obtain ⟨n1, n2, n3⟩ := HQ.out.no hib
                 rw [n2, n3, HC3.out]
                 exact Going.start _ _),
             (fun hib => by
               obtain ⟨n1, n2, n3⟩ := HQ.out.no hib
               rw [n2, n3]
               exact n1)⟩)
          clear HQ hw4 hL6 HBB HB2 HM2 HV2 HC3 hone hqb
          generalize w5.alloc (.cells (oc o.1) 50) = W6 at HLP ⊢
          generalize w5.heap.size = g6 at HLP ⊢
          go_loopw [10, 12, 13] (fun v10 v12 v13 wr => ∃ (out : List OC) (g12 : Nat) (isb : Bool) (o : OC) (h2 : Vec) (c2 : List OC), v12 = .pointer (some ⟨g12, 0, none⟩) ∧ v13 = .bool isb ∧ Hid (LoopP W p mb n qb h L0 wr v10 out g12 isb o h2 c2)) (fun v10 _ _ _ => L0.length + 1 - slLen v10)
          case atStart => exact ⟨[], g6, isb, o, h2, c3, rfl, rfl, HLP⟩
          case round =>
            clear HLP
            obtain ⟨out, g12, isb, o, h2, c2, rfl, rfl, HLP⟩ := hrel
            have hbd : out.length + 1 ≤ L0.length + 1 ∧ (isb = true → out.length + 1 ≤ L0.length) := by
              have h1 := HLP.out.going.1
              rw [List.length_append, List.length_map] at h1
              refine ⟨by omega, fun e => ?_⟩
              rw [e] at h1
              simp at h1
              omega
            have hL0 : L0.length ≤ 90000 := by
              have h1 := admit_len h (xs.map core) (c.map core)
              have h2 := HL.out
              rw [← HL0.out, List.length_map, List.length_map] at h1
              omega
            obtain ⟨pp, cc, rfl⟩ := HLP.out.own.form
            cases isb
            · have HD := hid (HLP.out.going.done (by have := HLP.out.no rfl; exact this))
              go_wp2
              (try simp only [Exit.inBlock, Exit.then])
              refine bodyPost_ret (results_tmp2 rfl _ _ _) rfl ?_
              refine ⟨fun hc => absurd HOK.out hc, fun _ => ⟨_, out, c2, h2, rfl, HLP.out.own, HLP.out.lines, HLP.out.buf, ?_, HLP.out.mov⟩⟩
              have h1 := HD.out
              unfold putM
              rw [← HL0.out, h1]
              simp
            · have hol : out.length ≤ 1000000 := by omega
              have HOL := hid (And.intro hbd hL0)
              have HXI := hid (show OpIn wr ⟨g12, 0, none⟩ o.1 from fun k hk => by rw [add8]; exact HLP.out.at_.cell k)
              have hone := HLP.out.oline.1.oneCell
              have hWs := HLP.out.mov.size
              clear hbd hL0
              go_upto_region 20 with (first
                | (refine load_opIn _ rfl rfl ⟨g12, 0, none⟩ rfl o.1 HXI.out ?_)
                | (refine build_op rfl _ rfl o.1 rfl ?_)
                | (refine wpList_pushG rfl _ _ rfl W.heap.size wr _ out rfl HLP.out.own hWs (below_al _ _) wr.heap.size o rfl (heap_alloc_last' _ _) HLP.out.ok ((HLP.out.oline.any _).keep hWs (below_al _ _)) hol ?_; intro p3 c3 w19 hown3 hgr3))
              have hal := below_al wr (.cells (oc o.1) 50)
              have hbo : ∀ k, (Value.slice pp out.length cc).ownBlock = some k → ∃ cs fr, (wr.alloc (.cells (oc o.1) 50)).heap[k]? = some (.cells cs 50 fr) := fun k e => by
                obtain ⟨cs, fr, hc⟩ := HLP.out.own.blkO k e
                exact ⟨cs, fr, heap_keep hc hal⟩
              have H19 := hid (show OwnO W.heap.size w19 (.slice p3 (out.length + 1) c3) (out ++ [o]) ∧ (∀ x ∈ out ++ [o], ClaimsB 0 w19 x.1.lv x.2) ∧ BufAt w19 p mb n h2 c2 ∧ BoxP w19 qb p ∧ OpAt w19 g12 o.1 ∧ Mov p mb W w19 ∧ ClaimsB 0 w19 o.1.lv o.2 from by
                have hcl : ∀ x ∈ out ++ [o], ClaimsB 0 w19 x.1.lv x.2 := fun x hx => by
                  refine claims_grow hgr3 hbo ?_
                  rcases List.mem_append.1 hx with hx | hx
                  · exact (HLP.out.lines x hx).keep (Nat.zero_le _) hal
                  · rw [List.mem_singleton] at hx; subst hx; exact HLP.out.oline.keep (Nat.zero_le _) hal
                refine ⟨hown3, hcl, (HLP.out.buf.keep hal).grow hgr3 hbo, ?_, ?_, (HLP.out.mov.trans (Mov.of hal)).grow hgr3 (fun k e => (HLP.out.own.blk k e).1), hcl o (by simp)⟩
                · have hb := heap_keep HLP.out.box hal
                  refine (hgr3.block qb (lt_of_heap hb) (fun e => ?_)).trans hb
                  obtain ⟨cs, fr, hc⟩ := hbo qb e.symm
                  rw [hb] at hc
                  cases hc
                · have hb := HLP.out.at_.keep hal
                  exact (hgr3.block g12 hb.lt (fun e => HLP.out.ne e.symm)).trans hb)
              clear hbo hal hown3 hgr3 hol
              have HG := hid HLP.out.going
              clear HLP HXI
              have HX19 := hid (show OpIn w19 ⟨g12, 0, none⟩ o.1 from fun k hk => by rw [add8]; exact H19.out.2.2.2.2.1.cell k)
              go_upto_region 18 with (first
                | (refine load_opIn _ rfl rfl ⟨g12, 0, none⟩ rfl o.1 HX19.out ?_)
                | (refine wpList_store_row rfl _ _ _ rfl w19.heap.size (oc o.1) rfl rfl 50 (oc zeroO) ?_ (opSize _) rfl (oneO _ hone) ?_; (focus exact heap_alloc_last' _ _); rw [World.setRow_alloc_new]))
              (try go_frame)
              have hal := below_al w19 (.cells (oc o.1) 50)
              have H21 := hid (show OwnO W.heap.size (w19.alloc (.cells (oc o.1) 50)) (.slice p3 (out.length + 1) c3) (out ++ [o]) ∧ (∀ x ∈ out ++ [o], ClaimsB 0 (w19.alloc (.cells (oc o.1) 50)) x.1.lv x.2) ∧ BufAt (w19.alloc (.cells (oc o.1) 50)) p mb n h2 c2 ∧ BoxP (w19.alloc (.cells (oc o.1) 50)) qb p ∧ OpAt (w19.alloc (.cells (oc o.1) 50)) w19.heap.size o.1 ∧ Mov p mb W (w19.alloc (.cells (oc o.1) 50)) ∧ W.heap.size ≤ w19.heap.size ∧ (Value.slice p3 (out.length + 1) c3).ownBlock ≠ some w19.heap.size from
                ⟨H19.out.1.keep H19.out.2.2.2.2.2.1.size hal, fun x hx => (H19.out.2.1 x hx).keep (Nat.zero_le _) hal, H19.out.2.2.1.keep hal, heap_keep H19.out.2.2.2.1 hal, opAt_new _ _, H19.out.2.2.2.2.2.1.trans (Mov.of hal), H19.out.2.2.2.2.2.1.size, fun e => by have := (H19.out.1.blk _ e).2; omega⟩)
              clear hal H19 HX19
              generalize w19.alloc (.cells (oc o.1) 50) = W21 at H21 ⊢
              generalize w19.heap.size = g21 at H21 ⊢
              have hnx := (handing_call H21.out.2.2.1 qb H21.out.2.2.2.1).mono (fun e w' hh => hand_of H21.out.2.2.1 hh)
              go_wp2_with (first
                | (go_at_call 49; refine hnx.mono ?_; clear hnx; rintro e w5 ⟨isb, o5, h5, c5, rfl, hq⟩; have HQ := hid hq; have hone5 := hq.lines.1.oneCell; have HO5 := hid (show OpAt w5 g21 o.1 from Mov.typ H21.out.2.2.1 hq.mov (by decide) H21.out.2.2.2.2.1); clear hq)
                | (refine wpList_store_row rfl _ _ _ rfl g21 (oc o5.1) rfl rfl 50 (oc o.1) HO5.out (opSize _) rfl (oneO _ hone5) ?_))
              go_roundw
              case rel =>
                obtain ⟨r1, r2⟩ := own_mov H21.out.2.2.1 HQ.out.mov H21.out.1 H21.out.2.1
                obtain ⟨s1, s2⟩ := own_row r1 r2 HO5.out H21.out.2.2.2.2.2.2.2 (oc o5.1)
                have hm5 := H21.out.2.2.2.2.2.1.trans HQ.out.mov
                have hbx := Mov.typ H21.out.2.2.1 HQ.out.mov (by decide) H21.out.2.2.2.1
                refine ⟨out ++ [o], g21, isb, o5, h5, c5, rfl, rfl, hid ⟨s1, s2, HQ.out.buf.rowOp HO5.out _, ?_, setRow_heap _ _ _ _ _ _ HO5.out, HQ.out.ok, ?_, H21.out.2.2.2.2.2.2.1, H21.out.2.2.2.2.2.2.2, hm5.rowNew H21.out.2.2.2.2.2.2.1 _, ?_, fun hib => ?_⟩⟩
                · refine row_ne hbx (fun e => ?_)
                  have := HO5.out
                  unfold OpAt at this
                  rw [e, hbx] at this
                  cases this
                · refine HQ.out.lines.typ (fun k hk => absurd hk (Nat.not_lt_zero k)) (fun k cs hk => row_ne hk (fun e => ?_))
                  have := HO5.out
                  unfold OpAt at this
                  rw [e, hk] at this
                  cases this
                · have hg : Going h L0 ((out ++ [o]).map core) h2 (c2.map core) := by have := HG.out; simpa using this
                  cases hib : isb with
                  | true => exact HQ.out.yes hib h L0 _ hg
                  | false =>
                    obtain ⟨n1, n2, n3⟩ := HQ.out.no hib
                    rw [n2, n3]
                    simpa using hg
                · obtain ⟨n1, n2, n3⟩ := HQ.out.no hib
                  rw [n2, n3]
                  exact n1
              case measure =>
                show L0.length + 1 - slLen (.slice p3 (out.length + 1) c3) < L0.length + 1 - slLen (.slice pp out.length cc)
                have := HOL.out.1.2 trivial
                show L0.length + 1 - (out.length + 1) < L0.length + 1 - out.length
                omega
end Go.Proofs.YtfnmekmgjcjglaaDoor.V
