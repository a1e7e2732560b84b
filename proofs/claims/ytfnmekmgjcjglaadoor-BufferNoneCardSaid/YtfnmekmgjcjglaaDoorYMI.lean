/-
  Sorting indices by a comparing method value: rows of indices, what the sort's functions are told; insertion sort.
-/
import Derived.Test.YtfnmekmgjcjglaaDoorYMF
import Derived.Sort.Lot0
import Derived.Sort.LotA
import Derived.Sort.LotB
import Derived.Sort.LotC
import Derived.Shelf.SlSortCmp.Xorshift
import Derived.Ground.SlsfProg
import Derived.Test.YtfnmekmgjcjglaaDoorProg
namespace Go.Proofs.YtfnmekmgjcjglaaDoor.V
set_option linter.unusedVariables false
set_option linter.unusedSimpArgs false
set_option maxRecDepth 100000
open Go Go.RowKit Go.Maps Wire
set_option maxRecDepth 100000
set_option linter.unusedVariables false
set_option linter.unusedSimpArgs false
open Go.Sort (swp PermIn SortedIn SWO)
/-- A call of a function value with something handed over ahead. -/
theorem v_callv {ops : Array Oper} {Q : Exit → Act → World → Prop} {tgt : Nat → Option Nat} {F : Nat → Fa} {a0 : Act} {w0 : World} {k : Nat} {op : Oper} {fx : Operand} {f : Nat} {pre : Array Value} {xs : Array Operand} {ats : Array Nat} {vs : Array Value} {c : Value} (ho : op.op = .call { callee := .value fx, args := xs, argTypes := ats })
    (hfn : ∀ (args : Array Value) (w : World), (callFunc f args).run Tryd.prog w = .ok (.enter f args) w)
    (hc : ∀ w, Below w0.heap.size w0 w → Calls Tryd.prog f (pre ++ vs) w fun e w' => e = .returned c ∧ Below w.heap.size w w') (hF : F k = .eq c) (hd : op.dst.isSome = true) (hg : guardOK ops F op) (hfv : Ev ops F a0 w0 op fx (.func (.func f) pre #[]))
    (h1 : ∀ (o : Nat → Nat) (a : Act) (w : World), BaseA ops a0 a → (∀ i, (needOf op).testBit i = true → (F i).holds w0.heap.size i o (valAt ops a i) w) → xs.map a.eval = vs) : StepOK Tryd.prog ops Q tgt F a0 w0 k op :=
  flow_call _ hF hd hg (fun o a w hb hB hn => by
    refine ⟨f, pre ++ vs, ?_, hc w hB⟩
    have hv := hfv o a w hb hn
    have hx := h1 o a w hb hn
    have e : execOp a.eval op = callFunc f (pre ++ xs.map a.eval ++ #[]) := by
      unfold execOp
      rw [ho]
      simp only [resolve, hv]
      rfl
    rw [e, hx, Array.append_empty]
    exact hfn _ w)
/-! ### Rows of indices -/
/-- What stands at a place (a name that the walk leaves alone). -/
def gA (d : Array Nat) (i : Nat) : Nat := d[i]!
structure Srt (w0 : World) (blk : Nat) (ok : Nat → Prop) (d : Array Nat) (W : World) : Prop where
  row : ∃ cs : Array Value, W.heap[blk]? = some (.cells cs 3 (0, 0)) ∧ ∀ i, i < d.size → cs[i]? = some (.int .i64 (gA d i : Nat))
  below : Below w0.heap.size w0 W
  hb : w0.heap.size ≤ blk
  ok : ∀ i, i < d.size → ok (gA d i)
variable {w0 : World} {blk : Nat} {ok : Nat → Prop} {d : Array Nat} {W W' : World}
theorem Srt.lt (h : Srt w0 blk ok d W) : blk < W.heap.size := by obtain ⟨cs, hc, _⟩ := h.row; exact lt_of_heap hc
theorem Srt.later (h : Srt w0 blk ok d W) (hB : Below W.heap.size W W') : Srt w0 blk ok d W' :=
  ⟨by obtain ⟨cs, hc, hi⟩ := h.row; exact ⟨cs, heap_keep hc hB, hi⟩, h.below.trans (hB.mono h.below.size), h.hb, h.ok⟩
theorem Srt.dr (h : Srt w0 blk ok d W) : Srt w0 blk ok d W.drew := h.later (below_dr W)
theorem Srt.cell (h : Srt w0 blk ok d W) {i : Nat} (hi : i < d.size) : W.cell? ⟨blk, i, none⟩ = some (.int .i64 (gA d i : Nat)) := by
  obtain ⟨cs, hc, hk⟩ := h.row
  rw [cell_of_heap hc]; exact hk i hi
theorem Srt.free (h : Srt w0 blk ok d W) (i : Nat) : W.frozen? ⟨blk, i, none⟩ = false := by
  obtain ⟨cs, hc, hk⟩ := h.row
  exact freeV hc i
theorem getD_set {d : Array Nat} {i k v : Nat} (hi : i < d.size) : gA (d.setIfInBounds i v) k = if k = i then v else gA d k := by
  unfold gA
  by_cases h : k = i
  · subst h; simp [hi]
  · rw [if_neg h]
    simp [Array.getElem!_eq_getD, Array.getD_eq_getD_getElem?, Array.getElem?_setIfInBounds, Ne.symm h]
theorem Srt.set (h : Srt w0 blk ok d W) {i v : Nat} (hi : i < d.size) (hv : ok v) : Srt w0 blk ok (d.setIfInBounds i v) (W.setCell ⟨blk, i, none⟩ (.int .i64 (v : Nat))) := by
  obtain ⟨cs, hc, hk⟩ := h.row
  have hsz : i < cs.size := (Array.getElem?_eq_some_iff.1 (hk i hi)).1
  refine ⟨⟨cs.setIfInBounds i (.int .i64 (v : Nat)), heap_s hc, fun j hj => ?_⟩, h.below.setCell (p := ⟨blk, i, none⟩) h.hb _, h.hb, fun j hj => ?_⟩
  · rw [Array.size_setIfInBounds] at hj
    rw [getD_set hi, Array.getElem?_setIfInBounds]
    by_cases e : i = j
    · subst e; rw [if_pos rfl, if_pos rfl, if_pos hsz]
    · rw [if_neg e, if_neg (fun e' => e e'.symm)]; exact hk j hj
  · rw [Array.size_setIfInBounds] at hj
    rw [getD_set hi]
    split
    · exact hv
    · exact h.ok j hj
theorem Srt.swap (h : Srt w0 blk ok d W) {i j : Nat} (hi : i < d.size) (hj : j < d.size) :
    Srt w0 blk ok (swp d i j) ((W.setCell ⟨blk, i, none⟩ (.int .i64 (gA d j : Nat))).setCell ⟨blk, j, none⟩ (.int .i64 (gA d i : Nat))) :=
  (h.set hi (h.ok j hj)).set (by rw [Array.size_setIfInBounds]; exact hj) (h.ok i hi)
/-- What the comparing call owes. -/
structure CmpOK (w0 : World) (recv : Value) (ok : Nat → Prop) (c : Nat → Nat → Int) : Prop where
  call : ∀ W, Below w0.heap.size w0 W → ∀ i j : Nat, ok i → ok j → Calls Tryd.prog 59 (#[recv] ++ #[.int .i64 (i : Nat), .int .i64 (j : Nat)]) W fun e w' => e = .returned (.int .i64 (c i j)) ∧ Below W.heap.size W w'
theorem idx_int {blk n cap k : Nat} {z : Int} (hk : k < n) (hz : z = (k : Int)) (w : World) : (Instr.indexAt 99 (.slice (some ⟨blk, 0, none⟩) n cap) (.int .i64 z)).run Tryd.prog w = .ok (.pointer (some ⟨blk, k, none⟩)) w := by
  subst hz
  have h1 : (k : Int) < (n : Int) := by omega
  go_simp
theorem ld_int (h : Srt w0 blk ok d W) {i : Nat} (hi : i < d.size) : (Instr.loadAt 3 (.pointer (some ⟨blk, i, none⟩))).run Tryd.prog W = .ok (.int .i64 (gA d i : Nat)) W := by
  have hc := h.cell hi
  go_simp
theorem i64w {z : Int} (h : -9223372036854775808 ≤ z) (h' : z < 9223372036854775808) : IntKind.i64.wrap z = z := by
  simp [IntKind.wrap, IntKind.bits, IntKind.signed]; omega
theorem bin_add_i64 {x y : Int} (h : -9223372036854775808 ≤ x + y) (h' : x + y < 9223372036854775808) (w : World) : (do eqGuard .add 3 (Operand.tmp 0) (Operand.tmp 0) (.int .i64 x) (.int .i64 y); binOp .add 3 (.int .i64 x) (.int .i64 y) : Sem Value).run Tryd.prog w = .ok (.int .i64 (x + y)) w := by
  have e := i64w h h'
  go_simp
theorem bin_sub_i64 {x y : Int} (h : -9223372036854775808 ≤ x - y) (h' : x - y < 9223372036854775808) (w : World) : (do eqGuard .sub 3 (Operand.tmp 0) (Operand.tmp 0) (.int .i64 x) (.int .i64 y); binOp .sub 3 (.int .i64 x) (.int .i64 y) : Sem Value).run Tryd.prog w = .ok (.int .i64 (x - y)) w := by
  have e := i64w h h'
  go_simp
def ltC (c : Nat → Nat → Int) (x y : Nat) : Bool := decide (c x y < 0)
set_option maxHeartbeats 400000 in
theorem sort_reverse (n cap a b : Nat) (d0 : Array Nat) (hn : d0.size = n) (fv : Value) (hbs : b ≤ n) (hsz : n < 4611686018427387904) (W0 : World) (h : Srt w0 blk ok d0 W0) (hab : a ≤ b) :
    Calls Tryd.prog 90 #[.slice (some ⟨blk, 0, none⟩) n cap, .int .i64 (a : Nat), .int .i64 (b : Nat), fv] W0 fun e w' => e = .returned (.tuple #[]) ∧ ∃ d', PermIn a b d0 d' ∧ Srt w0 blk ok d' w' := by
  have H := hid h
  clear h
  go_enter Tryd.func90, Tryd.ntmps90
  go_wp2
  go_loopw [8, 9] (fun x y wr => ∃ (i : Nat) (j : Int) (d : Array Nat), x = .int .i64 (i : Nat) ∧ y = .int .i64 j ∧ a ≤ i ∧ i ≤ n ∧ -1 ≤ j ∧ j < b ∧ d.size = n ∧ Hid (PermIn a b d0 d) ∧ Srt w0 blk ok d wr) (fun x y _ => (intOf y + 1 - intOf x + n).toNat)
  case atStart => exact ⟨a, (b : Int) - 1, d0, rfl, rfl, Nat.le_refl _, by omega, by omega, by omega, hn, Go.Sort.permIn_refl _ _ _, H.out⟩
  case round =>
    obtain ⟨i, j, d, rfl, rfl, hi, hin, hj1, hj2, hds, hp, hs⟩ := hrel
    by_cases hlt : (i : Int) < j
    · obtain ⟨q, rfl⟩ : ∃ q : Nat, j = (q : Int) := ⟨j.toNat, by omega⟩
      have hi2 : i < n := by omega
      have hq2 : q < n := by omega
      have c0 := hs.cell (i := i) (by omega)
      have c1 := hs.cell (i := q) (by omega)
      have f0 := hs.free i
      have f1 := hs.free q
      have k0 : (i : Int) < (n : Int) := by omega
      have k1 : (q : Int) < (n : Int) := by omega
      have hne : i ≠ q := by omega
      have HS := hid hs
      clear hs
      go_wp2
      go_region
      go_wp2
      go_roundw
      case rel =>
        refine ⟨i + 1, (q : Int) - 1, swp d i q, by go_num, rfl, by omega, by omega, by omega, by omega, by rw [Go.Sort.size_swp]; exact hds, Go.Sort.permIn_trans _ _ _ _ _ hp.out (Go.Sort.swp_permIn _ _ _ _ _ (by omega) (by omega) (by omega) (by omega) (by omega)), ?_⟩
        have hsw := HS.out.swap (i := i) (j := q) (by omega) (by omega)
        exact hsw.dr
      case measure => simp [intOf]; omega
    · have HS := hid hs
      clear hs
      go_wp2
      go_end0
      exact ⟨rfl, d, hp.out, HS.out⟩
/-! ### Insertion sort -/
theorem insInner_succ (lt : Nat → Nat → Bool) (a j : Nat) (d : Array Nat) : Go.Sort.insInner lt a (j + 1) d = if (decide (j + 1 > a) && lt d[j + 1]! d[j]!) = true then Go.Sort.insInner lt a j (swp d (j + 1) j) else d := rfl
theorem insInner_stop {lt : Nat → Nat → Bool} {a j : Nat} {d : Array Nat} (h : ¬ a < j ∨ (0 < j ∧ lt d[j]! d[j - 1]! = false)) : Go.Sort.insInner lt a j d = d := by
  cases j with
  | zero => rfl
  | succ j =>
    rw [insInner_succ, if_neg]
    intro hc
    simp only [Bool.and_eq_true, decide_eq_true_eq] at hc
    rcases h with h | h
    · omega
    · rw [Nat.add_sub_cancel] at h; rw [h.2] at hc; simp at hc
theorem insInner_go {lt : Nat → Nat → Bool} {a j : Nat} {d : Array Nat} (h : a < j) (hl : lt d[j]! d[j - 1]! = true) : Go.Sort.insInner lt a j d = Go.Sort.insInner lt a (j - 1) (swp d j (j - 1)) := by
  cases j with
  | zero => omega
  | succ j =>
    rw [Nat.add_sub_cancel] at hl ⊢
    rw [insInner_succ, if_pos (by simp [hl]; omega)]
theorem insOuter_stop {lt : Nat → Nat → Bool} {a b i : Nat} {d : Array Nat} (h : ¬ i < b) : Go.Sort.insOuter lt a b i d = d := by unfold Go.Sort.insOuter; rw [if_neg h]
theorem insOuter_go {lt : Nat → Nat → Bool} {a b i : Nat} {d : Array Nat} (h : i < b) : Go.Sort.insOuter lt a b i d = Go.Sort.insOuter lt a b (i + 1) (Go.Sort.insInner lt a i d) := by
  conv => lhs; unfold Go.Sort.insOuter
  rw [if_pos h]
set_option maxHeartbeats 1000000 in
theorem sort_insertion (recv : Value) (c : Nat → Nat → Int) (HC : Hid (CmpOK w0 recv ok c)) (n cap a b : Nat) (d0 : Array Nat) (hn : d0.size = n) (hab : a ≤ b) (hbs : b ≤ n) (hsz : n < 4611686018427387904) (W0 : World) (h : Srt w0 blk ok d0 W0) :
    Calls Tryd.prog 86 #[.slice (some ⟨blk, 0, none⟩) n cap, .int .i64 (a : Nat), .int .i64 (b : Nat), .func (.func 59) #[recv] #[]] W0 fun e w' => e = .returned (.tuple #[]) ∧ Srt w0 blk ok (Go.Sort.insertionSort (ltC c) d0 a b) w' := by
  have H := hid h
  clear h
  go_enter Tryd.func86, Tryd.ntmps86
  go_wp2
  go_loopw [8] (fun x wr => ∃ (i : Nat) (d : Array Nat), x = .int .i64 (i : Nat) ∧ a < i ∧ i ≤ b + 1 ∧ d.size = n ∧ Hid (Go.Sort.insOuter (ltC c) a b i d = Go.Sort.insertionSort (ltC c) d0 a b) ∧ Srt w0 blk ok d wr) (fun x _ => b + 1 - (intOf x).toNat)
  case atStart => exact ⟨a + 1, d0, by go_num, by omega, by omega, hn, rfl, H.out⟩
  case round =>
    obtain ⟨i, d, rfl, hi, hib, hds, htw, hs⟩ := hrel
    by_cases hlt : i < b
    · have HS := hid hs
      have HT := hid (show Go.Sort.insOuter (ltC c) a b (i + 1) (Go.Sort.insInner (ltC c) a i d) = Go.Sort.insertionSort (ltC c) d0 a b by rw [← insOuter_go hlt]; exact htw.out)
      clear hs htw
      have hlt' : (i : Int) < (b : Int) := by omega
      go_wp2
      go_loopw [9] (fun x wr2 => ∃ (j : Nat) (d2 : Array Nat), x = .int .i64 (j : Nat) ∧ a ≤ j ∧ j ≤ i ∧ d2.size = n ∧ Hid (Go.Sort.insInner (ltC c) a j d2 = Go.Sort.insInner (ltC c) a i d) ∧ Srt w0 blk ok d2 wr2) (fun x _ => (intOf x).toNat)
      case atStart => exact ⟨i, d, rfl, by omega, by omega, hds, rfl, HS.out⟩
      case round =>
        obtain ⟨j, d2, rfl, hj, hji, hds2, htw2, hs2⟩ := hrel
        have HS2 := hid hs2
        clear hs2
        go_upto_region 4 with (fail)
        refine wp_flow (fun _ => none) (Fa.eq (.int .i64 ((j : Nat))) :: Fa.eq (.int .i64 ((a : Nat))) :: Fa.eq (.bool (decide (((a : Nat)) < ((j : Nat))))) :: Fa.eq (.bool (decide (((a : Nat)) < ((j : Nat))))) :: Fa.eq (gd (decide (((a : Nat)) < ((j : Nat)))) (.func (.func 59) #[recv] #[])) :: Fa.eq (gd (decide (((a : Nat)) < ((j : Nat)))) (.slice (some ⟨blk, 0, none⟩) n cap)) :: Fa.eq (gd (decide (((a : Nat)) < ((j : Nat)))) (.int .i64 ((j : Nat)))) :: Fa.eq (gd (decide (((a : Nat)) < ((j : Nat)))) (.pointer (some ⟨blk, j, none⟩))) :: Fa.eq (gd (decide (((a : Nat)) < ((j : Nat)))) (.int .i64 (gA d2 (j) : Nat))) :: Fa.eq (gd (decide (((a : Nat)) < ((j : Nat)))) (.slice (some ⟨blk, 0, none⟩) n cap)) :: Fa.eq (gd (decide (((a : Nat)) < ((j : Nat)))) (.int .i64 ((j : Nat)))) :: Fa.eq (gd (decide (((a : Nat)) < ((j : Nat)))) (.int .i64 (((j : Nat)) - (1)))) :: Fa.eq (gd (decide (((a : Nat)) < ((j : Nat)))) (.pointer (some ⟨blk, (j - 1), none⟩))) :: Fa.eq (gd (decide (((a : Nat)) < ((j : Nat)))) (.int .i64 (gA d2 ((j - 1)) : Nat))) :: Fa.eq (gd (decide (((a : Nat)) < ((j : Nat)))) (.int .i64 (c (gA d2 (j)) (gA d2 ((j - 1)))))) :: Fa.eq (gd (decide (((a : Nat)) < ((j : Nat)))) (.bool (decide ((c (gA d2 (j)) (gA d2 ((j - 1)))) < (0))))) :: Fa.eq (.bool ((decide (((a : Nat)) < ((j : Nat)))) && (decide ((c (gA d2 (j)) (gA d2 ((j - 1)))) < (0))))) :: []) 53 (by kernel_rfl) rfl (by kernel_rfl) rfl (by kernel_rfl) ?_ ?_ ?_
        · exact fits_plain _ _ rfl
        · refine ⟨?_, ?_, ?_, ?_, ?_, ?_, ?_, ?_, ?_, ?_, ?_, ?_, ?_, ?_, ?_, ?_, ?_, trivial⟩
          · exact v_move (.inl rfl) rfl (by kernel_rfl) True.intro (Ev.out (by kernel_rfl) rfl)
          · exact v_move (.inl rfl) rfl (by kernel_rfl) True.intro (Ev.out (by kernel_rfl) rfl)
          · exact v_bin (u := .int .i64 ((j : Nat))) (v := .int .i64 ((a : Nat))) (c := .bool (decide (((a : Nat)) < ((j : Nat))))) rfl (fun w => (by go_simp)) rfl (by kernel_rfl) True.intro (Ev.at (i := 0) (by kernel_rfl) (by kernel_rfl) rfl) (Ev.at (i := 1) (by kernel_rfl) (by kernel_rfl) rfl)
          · exact v_move (.inl rfl) rfl (by kernel_rfl) True.intro (Ev.at (i := 2) (by kernel_rfl) (by kernel_rfl) rfl)
          · exact flow_gd (decide (((a : Nat)) < ((j : Nat)))) (.func (.func 59) #[recv] #[]) 3 true (.bool (decide (((a : Nat)) < ((j : Nat))))) rfl (by kernel_rfl) rfl gu_t rfl (fun hg hF hj => v_move (.inl rfl) hF (by kernel_rfl) (guard_of rfl (by kernel_rfl) (by kernel_rfl) hj) (Ev.out (by kernel_rfl) rfl))
          · exact flow_gd (decide (((a : Nat)) < ((j : Nat)))) (.slice (some ⟨blk, 0, none⟩) n cap) 3 true (.bool (decide (((a : Nat)) < ((j : Nat))))) rfl (by kernel_rfl) rfl gu_t rfl (fun hg hF hj => v_move (.inl rfl) hF (by kernel_rfl) (guard_of rfl (by kernel_rfl) (by kernel_rfl) hj) (Ev.out (by kernel_rfl) rfl))
          · exact flow_gd (decide (((a : Nat)) < ((j : Nat)))) (.int .i64 ((j : Nat))) 3 true (.bool (decide (((a : Nat)) < ((j : Nat))))) rfl (by kernel_rfl) rfl gu_t rfl (fun hg hF hj => v_move (.inl rfl) hF (by kernel_rfl) (guard_of rfl (by kernel_rfl) (by kernel_rfl) hj) (Ev.out (by kernel_rfl) rfl))
          · exact flow_gd (decide (((a : Nat)) < ((j : Nat)))) (.pointer (some ⟨blk, j, none⟩)) 3 true (.bool (decide (((a : Nat)) < ((j : Nat))))) rfl (by kernel_rfl) rfl gu_t rfl (fun hg hF hj => v_iaddr (u := .slice (some ⟨blk, 0, none⟩) n cap) (v := .int .i64 ((j : Nat))) (c := .pointer (some ⟨blk, j, none⟩)) rfl (fun w => idx_int (by omega) (rfl) w) hF (by kernel_rfl) (guard_of rfl (by kernel_rfl) (by kernel_rfl) hj) (Ev.at (i := 5) (by kernel_rfl) (by kernel_rfl) (fe rfl (gd_t hg))) (Ev.at (i := 6) (by kernel_rfl) (by kernel_rfl) (fe rfl (gd_t hg))))
          · exact flow_gd (decide (((a : Nat)) < ((j : Nat)))) (.int .i64 (gA d2 (j) : Nat)) 3 true (.bool (decide (((a : Nat)) < ((j : Nat))))) rfl (by kernel_rfl) rfl gu_t rfl (fun hg hF hj => v_load (u := .pointer (some ⟨blk, j, none⟩)) (c := .int .i64 (gA d2 (j) : Nat)) rfl (fun w hB => ld_int ((HS2.out.dr).later hB) (by omega)) hF (by kernel_rfl) (guard_of rfl (by kernel_rfl) (by kernel_rfl) hj) (Ev.at (i := 7) (by kernel_rfl) (by kernel_rfl) (fe rfl (gd_t hg))))
          · exact flow_gd (decide (((a : Nat)) < ((j : Nat)))) (.slice (some ⟨blk, 0, none⟩) n cap) 3 true (.bool (decide (((a : Nat)) < ((j : Nat))))) rfl (by kernel_rfl) rfl gu_t rfl (fun hg hF hj => v_move (.inl rfl) hF (by kernel_rfl) (guard_of rfl (by kernel_rfl) (by kernel_rfl) hj) (Ev.out (by kernel_rfl) rfl))
          · exact flow_gd (decide (((a : Nat)) < ((j : Nat)))) (.int .i64 ((j : Nat))) 3 true (.bool (decide (((a : Nat)) < ((j : Nat))))) rfl (by kernel_rfl) rfl gu_t rfl (fun hg hF hj => v_move (.inl rfl) hF (by kernel_rfl) (guard_of rfl (by kernel_rfl) (by kernel_rfl) hj) (Ev.out (by kernel_rfl) rfl))
          · exact flow_gd (decide (((a : Nat)) < ((j : Nat)))) (.int .i64 (((j : Nat)) - (1))) 3 true (.bool (decide (((a : Nat)) < ((j : Nat))))) rfl (by kernel_rfl) rfl gu_t rfl (fun hg hF hj => v_bin (u := .int .i64 ((j : Nat))) (v := .int .i64 (1)) (c := .int .i64 (((j : Nat)) - (1))) rfl (fun w => (bin_sub_i64 (by omega) (by omega) w)) hF (by kernel_rfl) (guard_of rfl (by kernel_rfl) (by kernel_rfl) hj) (Ev.at (i := 10) (by kernel_rfl) (by kernel_rfl) (fe rfl (gd_t hg))) Ev.const)
          · exact flow_gd (decide (((a : Nat)) < ((j : Nat)))) (.pointer (some ⟨blk, (j - 1), none⟩)) 3 true (.bool (decide (((a : Nat)) < ((j : Nat))))) rfl (by kernel_rfl) rfl gu_t rfl (fun hg hF hj => v_iaddr (u := .slice (some ⟨blk, 0, none⟩) n cap) (v := .int .i64 (((j : Nat)) - (1))) (c := .pointer (some ⟨blk, (j - 1), none⟩)) rfl (fun w => idx_int (by omega) (by have := of_decide_eq_true hg; omega) w) hF (by kernel_rfl) (guard_of rfl (by kernel_rfl) (by kernel_rfl) hj) (Ev.at (i := 9) (by kernel_rfl) (by kernel_rfl) (fe rfl (gd_t hg))) (Ev.at (i := 11) (by kernel_rfl) (by kernel_rfl) (fe rfl (gd_t hg))))
          · exact flow_gd (decide (((a : Nat)) < ((j : Nat)))) (.int .i64 (gA d2 ((j - 1)) : Nat)) 3 true (.bool (decide (((a : Nat)) < ((j : Nat))))) rfl (by kernel_rfl) rfl gu_t rfl (fun hg hF hj => v_load (u := .pointer (some ⟨blk, (j - 1), none⟩)) (c := .int .i64 (gA d2 ((j - 1)) : Nat)) rfl (fun w hB => ld_int ((HS2.out.dr).later hB) (by omega)) hF (by kernel_rfl) (guard_of rfl (by kernel_rfl) (by kernel_rfl) hj) (Ev.at (i := 12) (by kernel_rfl) (by kernel_rfl) (fe rfl (gd_t hg))))
          · exact flow_gd (decide (((a : Nat)) < ((j : Nat)))) (.int .i64 (c (gA d2 (j)) (gA d2 ((j - 1))))) 3 true (.bool (decide (((a : Nat)) < ((j : Nat))))) rfl (by kernel_rfl) rfl gu_t rfl (fun hg hF hj => v_callv (f := 59) (pre := #[recv]) (vs := #[.int .i64 (gA d2 (j) : Nat), .int .i64 (gA d2 ((j - 1)) : Nat)]) (c := .int .i64 (c (gA d2 (j)) (gA d2 ((j - 1))))) rfl (fun args w => rfl) (fun w hB => (HC.out.call _ ((HS2.out.dr).later hB).below _ _ (((HS2.out.dr).later hB).ok _ (by omega)) (((HS2.out.dr).later hB).ok _ (by omega)))) hF (by kernel_rfl) (guard_of rfl (by kernel_rfl) (by kernel_rfl) hj) (Ev.at (i := 4) (by kernel_rfl) (by kernel_rfl) (fe rfl (gd_t hg))) (ev2 (Ev.at (i := 8) (by kernel_rfl) (by kernel_rfl) (fe rfl (gd_t hg))) (Ev.at (i := 13) (by kernel_rfl) (by kernel_rfl) (fe rfl (gd_t hg)))))
          · exact flow_gd (decide (((a : Nat)) < ((j : Nat)))) (.bool (decide ((c (gA d2 (j)) (gA d2 ((j - 1)))) < (0)))) 3 true (.bool (decide (((a : Nat)) < ((j : Nat))))) rfl (by kernel_rfl) rfl gu_t rfl (fun hg hF hj => v_bin (u := .int .i64 (c (gA d2 (j)) (gA d2 ((j - 1))))) (v := .int .i64 (0)) (c := .bool (decide ((c (gA d2 (j)) (gA d2 ((j - 1)))) < (0)))) rfl (fun w => (by go_simp)) hF (by kernel_rfl) (guard_of rfl (by kernel_rfl) (by kernel_rfl) hj) (Ev.at (i := 14) (by kernel_rfl) (by kernel_rfl) (fe rfl (gd_t hg))) Ev.const)
          · exact v_and (p := decide (((a : Nat)) < ((j : Nat)))) (q := decide ((c (gA d2 (j)) (gA d2 ((j - 1)))) < (0))) rfl rfl (by kernel_rfl) True.intro (Ev.at (i := 3) (by kernel_rfl) (by kernel_rfl) rfl) (fun hp => (Ev.at (i := 15) (by kernel_rfl) (by kernel_rfl) (fe rfl (gd_t hp))))
        intro _ vs W2 hB2 hf
        have e0 : vs 0 = .int .i64 ((j : Nat)) := hf 0 (by decide)
        have e1 : vs 1 = .int .i64 ((a : Nat)) := hf 1 (by decide)
        have e2 : vs 2 = .bool (decide (((a : Nat)) < ((j : Nat)))) := hf 2 (by decide)
        have e3 : vs 3 = .bool (decide (((a : Nat)) < ((j : Nat)))) := hf 3 (by decide)
        have e4 : vs 4 = gd (decide (((a : Nat)) < ((j : Nat)))) (.func (.func 59) #[recv] #[]) := hf 4 (by decide)
        have e5 : vs 5 = gd (decide (((a : Nat)) < ((j : Nat)))) (.slice (some ⟨blk, 0, none⟩) n cap) := hf 5 (by decide)
        have e6 : vs 6 = gd (decide (((a : Nat)) < ((j : Nat)))) (.int .i64 ((j : Nat))) := hf 6 (by decide)
        have e7 : vs 7 = gd (decide (((a : Nat)) < ((j : Nat)))) (.pointer (some ⟨blk, j, none⟩)) := hf 7 (by decide)
        have e8 : vs 8 = gd (decide (((a : Nat)) < ((j : Nat)))) (.int .i64 (gA d2 (j) : Nat)) := hf 8 (by decide)
        have e9 : vs 9 = gd (decide (((a : Nat)) < ((j : Nat)))) (.slice (some ⟨blk, 0, none⟩) n cap) := hf 9 (by decide)
        have e10 : vs 10 = gd (decide (((a : Nat)) < ((j : Nat)))) (.int .i64 ((j : Nat))) := hf 10 (by decide)
        have e11 : vs 11 = gd (decide (((a : Nat)) < ((j : Nat)))) (.int .i64 (((j : Nat)) - (1))) := hf 11 (by decide)
        have e12 : vs 12 = gd (decide (((a : Nat)) < ((j : Nat)))) (.pointer (some ⟨blk, (j - 1), none⟩)) := hf 12 (by decide)
        have e13 : vs 13 = gd (decide (((a : Nat)) < ((j : Nat)))) (.int .i64 (gA d2 ((j - 1)) : Nat)) := hf 13 (by decide)
        have e14 : vs 14 = gd (decide (((a : Nat)) < ((j : Nat)))) (.int .i64 (c (gA d2 (j)) (gA d2 ((j - 1))))) := hf 14 (by decide)
        have e15 : vs 15 = gd (decide (((a : Nat)) < ((j : Nat)))) (.bool (decide ((c (gA d2 (j)) (gA d2 ((j - 1)))) < (0)))) := hf 15 (by decide)
        have e16 : vs 16 = .bool ((decide (((a : Nat)) < ((j : Nat)))) && (decide ((c (gA d2 (j)) (gA d2 ((j - 1)))) < (0)))) := hf 16 (by decide)
        obtain ⟨z, hz⟩ : ∃ z : Bool, ((decide (((a : Nat)) < ((j : Nat)))) && (decide ((c (gA d2 (j)) (gA d2 ((j - 1)))) < (0)))) = z := ⟨_, rfl⟩
        rw [hz] at e16
        have HZ := hid hz
        clear hz
        simp only [fill, List.setIfInBounds_toArray, List.set_cons_zero, List.set_cons_succ, e0, e1, e2, e3, e4, e5, e6, e7, e8, e9, e10, e11, e12, e13, e14, e15, e16]
        clear e0 e1 e2 e3 e4 e5 e6 e7 e8 e9 e10 e11 e12 e13 e14 e15 e16
        have hz := HZ.out
        have HS3 := hid (HS2.out.later hB2)
        clear hB2 hf
        cases z
        · have hst := insInner_stop (lt := ltC c) (a := a) (j := j) (d := d2) (by
            rw [Bool.and_eq_false_iff] at hz
            rcases hz with hz | hz
            · left; have := of_decide_eq_false hz; omega
            · by_cases haj : a < j
              · right; exact ⟨by omega, hz⟩
              · exact .inl haj)
          have HST := hid (htw2.out.symm.trans hst)
          clear hz hst
          go_wp2
          go_roundw
          case rel =>
            refine ⟨i + 1, d2, by go_num, by omega, by omega, by omega, hid ?_, HS3.out⟩
            rw [← HT.out, HST.out]
          case measure => simp [intOf]; omega
        · simp only [Bool.and_eq_true, decide_eq_true_eq] at hz
          have haj : a < j := by omega
          have HST := hid (htw2.out.symm.trans (insInner_go (lt := ltC c) haj (decide_eq_true hz.2)))
          have c0 := HS3.out.cell (i := j) (by omega)
          have c1 := HS3.out.cell (i := j - 1) (by omega)
          have f0 := HS3.out.free j
          have f1 := HS3.out.free (j - 1)
          have k0 : (j : Int) < (n : Int) := by omega
          have k1 : (j : Int) - 1 = ((j - 1 : Nat) : Int) := by omega
          have k2 : ((j - 1 : Nat) : Int) < (n : Int) := by omega
          have hne : j ≠ j - 1 := by omega
          clear hz
          go_wp2
          go_region
          go_wp2
          go_roundw
          case rel =>
            have hsw := HS3.out.swap (i := j) (j := j - 1) (by omega) (by omega)
            exact ⟨j - 1, swp d2 j (j - 1), by go_num, by omega, by omega, by rw [Go.Sort.size_swp]; exact hds2, hid HST.out.symm, hsw.dr⟩
          case measure => simp [intOf]; omega
    · have HS := hid hs
      have HT := hid ((insOuter_stop hlt).symm.trans htw.out)
      clear hs htw
      go_wp2
      go_end0
      exact ⟨rfl, HT.out ▸ HS.out⟩
end Go.Proofs.YtfnmekmgjcjglaaDoor.V
namespace Go.Proofs.YtfnmekmgjcjglaaDoor.V
set_option linter.unusedVariables false
set_option linter.unusedSimpArgs false
open Go Go.Shelf
def powI_ren : Go.Shelf.Ren := ⟨fun | 47 => 97 | 15 => 82 | 28 => 94 | 29 => 95 | n => n, fun | 3 => 3 | 39 => 134 | 53 => 28 | 55 => 47 | 4 => 4 | 5 => 5 | 9 => 9 | n => n, fun | n => n⟩
theorem powI : Go.Proofs.SlLaysF0.n47 Tryd.prog powI_ren := {
  mixed := by kernel_rfl
  f15 := Tryd.func82.trans (congrArg some (by kernel_rfl))
  f28 := Tryd.func94.trans (congrArg some (by kernel_rfl))
  f29 := Tryd.func95.trans (congrArg some (by kernel_rfl))
  f47 := Tryd.func97.trans (congrArg some (by kernel_rfl))
  t3 := Tryd.underlying3
  a3 := Tryd.isAgg3
  z3 := Tryd.sizeOf3
  v3 := Tryd.zeroValue3
  t4 := Tryd.underlying4
  a4 := Tryd.isAgg4
  z4 := Tryd.sizeOf4
  v4 := Tryd.zeroValue4
  t5 := Tryd.underlying5
  a5 := Tryd.isAgg5
  z5 := Tryd.sizeOf5
  v5 := Tryd.zeroValue5
  t9 := Tryd.underlying9
  a9 := Tryd.isAgg9
  z9 := Tryd.sizeOf9
  v9 := Tryd.zeroValue9
  t39 := Tryd.underlying134
  a39 := Tryd.isAgg134
  z39 := Tryd.sizeOf134
  v39 := Tryd.zeroValue134
  t53 := Tryd.underlying28
  a53 := Tryd.isAgg28
  z53 := Tryd.sizeOf28
  v53 := Tryd.zeroValue28
  t55 := Tryd.underlying47
  a55 := Tryd.isAgg47
  z55 := Tryd.sizeOf47
  v55 := Tryd.zeroValue47 }
def xorI_ren : Go.Shelf.Ren := ⟨fun | 48 => 98 | n => n, fun | 76 => 153 | 55 => 47 | 0 => 0 | 66 => 147 | 39 => 134 | n => n, fun | n => n⟩
theorem xorI : Go.Proofs.SlLaysF0.n48 Tryd.prog xorI_ren := {
  mixed := by kernel_rfl
  f48 := Tryd.func98.trans (congrArg some (by kernel_rfl))
  t0 := Tryd.underlying0
  a0 := Tryd.isAgg0
  z0 := Tryd.sizeOf0
  v0 := Tryd.zeroValue0
  t39 := Tryd.underlying134
  a39 := Tryd.isAgg134
  z39 := Tryd.sizeOf134
  v39 := Tryd.zeroValue134
  t55 := Tryd.underlying47
  a55 := Tryd.isAgg47
  z55 := Tryd.sizeOf47
  v55 := Tryd.zeroValue47
  t66 := Tryd.underlying147
  a66 := Tryd.isAgg147
  z66 := Tryd.sizeOf147
  v66 := Tryd.zeroValue147
  t76 := Tryd.underlying153
  a76 := Tryd.isAgg153
  z76 := Tryd.sizeOf153
  v76 := Tryd.zeroValue153 }
def lenI_ren : Go.Shelf.Ren := ⟨fun | 15 => 82 | 28 => 94 | 29 => 95 | n => n, fun | 39 => 134 | 3 => 3 | 53 => 28 | 55 => 47 | 4 => 4 | 5 => 5 | 9 => 9 | n => n, fun | n => n⟩
theorem lenI : Go.Proofs.SlLaysF0.n15 Tryd.prog lenI_ren := {
  mixed := by kernel_rfl
  f15 := Tryd.func82.trans (congrArg some (by kernel_rfl))
  f28 := Tryd.func94.trans (congrArg some (by kernel_rfl))
  f29 := Tryd.func95.trans (congrArg some (by kernel_rfl))
  t3 := Tryd.underlying3
  a3 := Tryd.isAgg3
  z3 := Tryd.sizeOf3
  v3 := Tryd.zeroValue3
  t4 := Tryd.underlying4
  a4 := Tryd.isAgg4
  z4 := Tryd.sizeOf4
  v4 := Tryd.zeroValue4
  t5 := Tryd.underlying5
  a5 := Tryd.isAgg5
  z5 := Tryd.sizeOf5
  v5 := Tryd.zeroValue5
  t9 := Tryd.underlying9
  a9 := Tryd.isAgg9
  z9 := Tryd.sizeOf9
  v9 := Tryd.zeroValue9
  t39 := Tryd.underlying134
  a39 := Tryd.isAgg134
  z39 := Tryd.sizeOf134
  v39 := Tryd.zeroValue134
  t53 := Tryd.underlying28
  a53 := Tryd.isAgg28
  z53 := Tryd.sizeOf28
  v53 := Tryd.zeroValue28
  t55 := Tryd.underlying47
  a55 := Tryd.isAgg47
  z55 := Tryd.sizeOf47
  v55 := Tryd.zeroValue47 }
end Go.Proofs.YtfnmekmgjcjglaaDoor.V
