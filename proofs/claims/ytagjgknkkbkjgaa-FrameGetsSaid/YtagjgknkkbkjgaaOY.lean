/-
  The document's rows of numbers.
-/
import Derived.Test.YtagjgknkkbkjgaaJX
import Derived.Test.YtagjgknkkbkjgaaJU
import Derived.Deep.RegionHeld3
namespace Go.Proofs.Ytagjgknkkbkjgaa.V
set_option linter.unusedVariables false
set_option linter.unusedSimpArgs false
set_option maxRecDepth 100000
open Go Go.RowKit Go.Maps Wire

set_option maxRecDepth 100000
set_option linter.unusedVariables false
set_option linter.unusedSimpArgs false
theorem owns_keepG {w w' : World} {B size n : Nat} {e : TypeId} {v : Value} {xs : List Value} (h : w.ownsRow B e size v n xs) (hb : Below w.heap.size w w') : w'.ownsRow B e size v n xs := by
  refine ⟨h.1, ?_⟩
  rcases h.2 with hn | ⟨g', cap, cur, rfl, hB, hgg, rest⟩
  · exact .inl hn
  · exact .inr ⟨g', cap, cur, rfl, hB, heap_keep hgg hb, rest⟩
theorem owns_setG {w : World} {B b k size n : Nat} {e : TypeId} {v u : Value} {xs : List Value} (h : w.ownsRow B e size v n xs) (hb : b < B) : (w.setCell ⟨b, k, none⟩ u).ownsRow B e size v n xs := by
  refine ⟨h.1, ?_⟩
  rcases h.2 with hn | ⟨g', cap, cur, rfl, hB, hgg, rest⟩
  · exact .inl hn
  · exact .inr ⟨g', cap, cur, rfl, hB, heap_n hgg (by omega), rest⟩
theorem owns_formG {w : World} {B size n : Nat} {e : TypeId} {v : Value} {xs : List Value} (h : w.ownsRow B e size v n xs) : ∃ p c, v = .slice p n c := by
  rcases h.2 with ⟨rfl, rfl, _⟩ | ⟨g', cap, cur, rfl, _⟩
  · exact ⟨_, _, rfl⟩
  · exact ⟨_, _, rfl⟩
def numV (l : List Nat) : List Value := l.map fun n : Nat => Value.int .u64 (n : Int)
def msC (l : List Nat) : Array Value := (numV l).toArray
theorem msC_at {l : List Nat} {k m : Nat} (h : l[k]? = some m) : (msC l)[k]? = some (.int .u64 (m : Int)) := by simp [msC, numV, h]
theorem infoU64 : (Try.prog.info? 47).map (fun i => (i.zero, i.size, i.bytes)) = some (some (.int .u64 0), 1, 8) := by kernel_rfl
def numsGo (ms : List Nat) : Nat → St → List Nat × St
  | 0, st => ([], st)
  | k + 1, st => ((numsGo ms k st).1 ++ [(takeNum (numsGo ms k st).2 (ms.getD k 0)).1], (takeNum (numsGo ms k st).2 (ms.getD k 0)).2)
theorem numsGo_len (ms : List Nat) (k : Nat) (st : St) : (numsGo ms k st).1.length = k := by
  induction k with
  | zero => rfl
  | succ k ih => rw [numsGo, List.length_append, ih]; rfl
theorem small_numsGo (ms : List Nat) {st : St} (hs : Small st) (k : Nat) : Small (numsGo ms k st).2 := by
  induction k with
  | zero => exact hs
  | succ k ih => exact small_takeNum ih _

structure NS (B : Nat) (W w : World) (st : St) (v : Value) (lk : List Nat) (b : Nat) (ms : List Nat) : Prop where
  rb : w.heap[B]? = some (.cells (rcells st) 78 (0, 0))
  res : w.heap[B + 1]? = some (.cells (rcells none) 78 (0, 0))
  out : w.ownsRow (B + 2) 47 1 v lk.length (numV lk)
  below : Below B W w
  ms : w.heap[b]? = some (.cells (msC ms) 47 (0, 0))
  hb : b < B
theorem NS.keep {B : Nat} {W w w' : World} {st : St} {v : Value} {lk : List Nat} {b : Nat} {ms : List Nat} (h : NS B W w st v lk b ms) (hb : Below w.heap.size w w') : NS B W w' st v lk b ms :=
  ⟨heap_keep h.rb hb, heap_keep h.res hb, owns_keepG h.out hb, h.below.trans (hb.mono (by have := lt_of_heap h.rb; omega)), heap_keep h.ms hb, h.hb⟩
theorem NS.put {B : Nat} {W w : World} {st st' : St} {v X f X' f' : Value} {lk : List Nat} {b : Nat} {ms : List Nat} (h : NS B W w st v lk b ms) (e : rcells st = #[X, f]) (e' : rcells st' = #[X', f']) :
    NS B W ((w.setCell ⟨B, 0, none⟩ X').setCell ⟨B, 1, none⟩ f') st' v lk b ms :=
  ⟨by have := h.rb; rw [e] at this; rw [e']; exact heap_s (heap_s this), heap_n (heap_n h.res (by omega)) (by omega), owns_setG (owns_setG h.out (by omega)) (by omega), (h.below.setCell (Nat.le_refl _) _).setCell (Nat.le_refl _) _, by have := h.hb; exact heap_n (heap_n h.ms (by omega)) (by omega), h.hb⟩
theorem NS.app {B : Nat} {W w w2 : World} {st : St} {v v2 : Value} {lk l2 : List Nat} {b : Nat} {ms : List Nat} (h : NS B W w st v lk b ms) (o : Obj) (hg : (w.alloc o).grownBy w2 v.ownBlock) (ho : w2.ownsRow (B + 2) 47 1 v2 l2.length (numV l2)) : NS B W w2 st v2 l2 b ms := by
  have hs : B + 2 ≤ w.heap.size := lt_of_heap h.res
  have hb : Below (B + 2) w w2 := ((Below.refl _ _).alloc hs o).grown hg (size_alloc_le hs _) (fun j e => ((h.out.alloc o).lt j e).1)
  exact ⟨(hb.block _ (by omega)).trans h.rb, (hb.block _ (by omega)).trans h.res, ho, h.below.trans (hb.mono (by omega)), (hb.block _ (by have := h.hb; omega)).trans h.ms, h.hb⟩
theorem num_cell (W : World) (n k : Nat) (hk : k = W.heap.size) : ∀ j z, [Value.int .u64 (n : Int)][j]? = some z → (W.alloc (.cells #[.int .u64 (n : Int)] 47)).cell? ((⟨k, 0, none⟩ : Addr).add j) = some z := by
  intro j z h
  subst hk
  rw [add8, cell_of_heap (heap_alloc_last' W (.cells #[.int .u64 (n : Int)] 47)), ← h]
  simp

set_option maxHeartbeats 400000 in
theorem ref_nums (ms : List Nat) (hms : ms.length ≤ 100) (st0 : St) (hs0 : Small st0) (b : Nat) (W : World) (hb : W.heap[b]? = some (.cells (msC ms) 47 (0, 0))) :
    Calls Try.prog 82 #[.agg (rcells st0), .slice (some ⟨b, 0, none⟩) ms.length ms.length] W
      fun e w' => ∃ v, e = .returned (.tuple #[v, .agg (rcells (numsGo ms ms.length st0).2)]) ∧ w'.ownsRow W.heap.size 47 1 v (numsGo ms ms.length st0).1.length (numV (numsGo ms ms.length st0).1) ∧ Below W.heap.size W w' := by
  obtain ⟨n, hn⟩ : ∃ n, ms.length = n := ⟨_, rfl⟩
  rw [hn] at hms ⊢
  obtain ⟨X0, f0, hX0⟩ := rcells_form st0
  have H0 := hid (show NS W.heap.size W ((W.alloc (.cells (rcells st0) 78)).alloc (.cells #[.string ⟨#[]⟩, .bool false] 78)) st0 (.slice none 0 0) [] b ms from
    ⟨heap_al (heap_alloc_last' _ _) _, last2 _ _ _, ⟨rfl, .inl ⟨rfl, rfl⟩⟩, below_al2 _ _ _, heap_al (heap_al hb _) _, lt_of_heap hb⟩)
  obtain ⟨i0, hi, hz0, hz1, hz2⟩ := info_parts infoU64
  have HX0 := hid hX0
  rw [hX0] at H0 ⊢
  have HN := hid hn
  have HS := hid hs0
  clear hX0 hn hb hs0
  go_enter Try.func82, Try.ntmps82
  go_wp2
  go_loopw [6, 7] (fun t i wr => ∃ k : Nat, k ≤ n ∧ i = .int .i64 k ∧ NS W.heap.size W wr (numsGo ms k st0).2 t (numsGo ms k st0).1 b ms) (fun _ i _ => n - (intOf i).toNat)
  case atStart => exact ⟨0, by omega, rfl, H0.out⟩
  case round =>
    obtain ⟨k, hk, rfl, hrel⟩ := hrel
    obtain ⟨W0, rfl⟩ : ∃ W, W = wr := ⟨_, rfl⟩
    by_cases hlt : k < n
    · obtain ⟨m, hm⟩ : ∃ m, ms[k]? = some m := ⟨_, List.getElem?_eq_getElem (by have := HN.out; omega)⟩
      have hgd : ms.getD k 0 = m := by rw [List.getD_eq_getElem?_getD, hm]; rfl
      have hsk := small_numsGo ms HS.out k
      have hlk := numsGo_len ms k st0
      obtain ⟨lk, sk, hk2⟩ : ∃ a b, numsGo ms k st0 = (a, b) := ⟨_, _, rfl⟩
      obtain ⟨x, s', ht⟩ : ∃ x s, takeNum sk m = (x, s) := ⟨_, _, rfl⟩
      have hnext : numsGo ms (k + 1) st0 = (lk ++ [x], s') := by rw [numsGo, hk2, hgd]; dsimp only; rw [ht]
      rw [hk2] at hrel hsk hlk
      dsimp only at hrel hsk hlk
      obtain ⟨X, f, hX⟩ := rcells_form sk
      obtain ⟨X', f', hX'⟩ := rcells_form s'
      have hT := fun W => ref_TakeNum sk hsk m W
      rw [ht] at hT
      dsimp only at hT
      rw [hX, hX'] at hT
      have hrb := hrel.rb
      rw [hX] at hrb
      have c0 : W0.cell? ⟨W.heap.size, 0, none⟩ = some (.string X) := (cell_of_heap hrb).trans rfl
      have c1 : W0.cell? ⟨W.heap.size, 1, none⟩ = some (.bool f) := (cell_of_heap hrb).trans rfl
      have cm : W0.cell? ⟨b, k, none⟩ = some (.int .u64 (m : Int)) := (cell_of_heap hrel.ms).trans (msC_at hm)
      have hms2 : (k : Int) < (n : Int) := by omega
      have hnW : ¬ W0.heap.size = W.heap.size := by have := lt_of_heap hrb; omega
      have hnb : ¬ W0.heap.size = b := by have := lt_of_heap hrel.ms; omega
      have HC := hid (And.intro c0 (And.intro c1 cm))
      have HR := hid hrel
      have HX := hid (And.intro hX hX')
      have HNX := hid (And.intro hnext hlk)
      have hT1 := hT W0.drew
      have hT2 := hT (W0.alloc (.cells #[.string ⟨#[]⟩, .bool false] 78)).drew
      have HT1 := hid hT1
      have HT2 := hid hT2
      have HB1 := hid (show Below W0.heap.size W0 W0.drew from below_dr W0)
      have HB2 := hid (show Below W0.heap.size W0 (W0.alloc (.cells #[.string ⟨#[]⟩, .bool false] 78)).drew from (below_al W0 _).drew)
      have HZ := hid (show (W0.alloc (.cells #[.string ⟨#[]⟩, .bool false] 78)).drew.heap[W0.heap.size]? = some (.cells #[.string ⟨#[]⟩, .bool false] 78 (0, 0)) from heap_alloc_last' W0 _)
      clear hrel hsk hlk hk2 ht hnext hX hX' hT hrb hgd hm hT1 hT2
      go_wp2
      go_region_held3 (fun w' => w'.cell? ⟨W.heap.size, 0, none⟩ = some (.string X) ∧ w'.cell? ⟨W.heap.size, 1, none⟩ = some (.bool f) ∧ w'.cell? ⟨b, k, none⟩ = some (.int .u64 (m : Int))) (first | go_keep | (refine ⟨?_, ?_, ?_⟩ <;> assumption)) ((go_at_call 43; first
        | ((with_reducible refine HT1.out.mono ?_); rintro e w2 ⟨rfl, hB⟩; have hBw := below_next HB1.out hB; have y0 := cell_keep hBw HC.out.1; have y1 := cell_keep hBw HC.out.2.1; have y2 := cell_keep hBw HC.out.2.2; have HB := hid hBw; clear hB hBw)
        | ((with_reducible refine HT2.out.mono ?_); rintro e w2 ⟨rfl, hB⟩; have hBw := below_next HB2.out hB; have y0 := cell_keep hBw HC.out.1; have y1 := cell_keep hBw HC.out.2.1; have y2 := cell_keep hBw HC.out.2.2; have HB := hid hBw; have HZ2 := hid (heap_keep HZ.out hB); have u0 := (cells2 HZ2.out).1; have u1 := (cells2 HZ2.out).2; have u2 := fun j => freeV HZ2.out j; clear hB hBw)))
      all_goals (try clear c0 c1 cm y0 y1 y2)
      · have hBV := below_next HB.out (below_al w2 (.cells #[.string X', .bool f'] 78))
        have hV := heap_alloc_last' w2 (.cells #[.string X', .bool f'] 78)
        generalize w2.alloc (.cells #[.string X', .bool f'] 78) = V at hBV hV ⊢
        generalize w2.heap.size = q at hV ⊢
        have hNS := HR.out.keep hBV
        have HNS := hid hNS
        have hrb := hNS.rb
        rw [HX.out.1] at hrb
        have q0 := (cells2 hV).1
        have q1 := (cells2 hV).2
        have r0 := (cells2 hrb).1
        have r1 := (cells2 hrb).2
        have r2 := fun j => freeV hrb j
        have HN5 := hid (hNS.put HX.out.1 HX.out.2)
        have hsz5 : ((V.setCell ⟨W.heap.size, 0, none⟩ (.string X')).setCell ⟨W.heap.size, 1, none⟩ (.bool f')).heap.size = V.heap.size := by simp
        have HSZ := hid hsz5
        clear hBV hV hNS hrb hsz5
        go_upto_region 7 with (fail)
        generalize (V.setCell ⟨W.heap.size, 0, none⟩ (.string X')).setCell ⟨W.heap.size, 1, none⟩ (.bool f') = V5 at HN5 HSZ ⊢
        clear q0 q1 r0 r1 r2 HNS
        go_wp2_with (first
          | (at_builtin; refine wpList_append_own _ rfl (.tmp 26) (.tmp 28) 95 rfl (W.heap.size + 2) 47 i0 (.int .u64 0) 1 8 Try.underlying95 hi hz0 hz1 hz2 rfl (by decide) u6 _ _ rfl (HN5.out.out.alloc _) ⟨V5.heap.size, 0, none⟩ 1 1 [.int .u64 (x : Int)] rfl rfl (num_cell _ _ _ rfl) (by intro u hu; rw [List.mem_singleton] at hu; subst hu; rfl) (by have := HNX.out.2; unfold maxLen; omega) (by have := HNX.out.2; omega) (size_alloc_le (lt_of_heap HN5.out.res) _) ?_; intro v3 w3 hown3 hgr _; have HN6 := hid (HN5.out.app (l2 := lk ++ [x]) _ hgr (by rw [List.length_append, show numV (lk ++ [x]) = numV lk ++ [.int .u64 (x : Int)] by simp [numV]]; exact hown3)); clear hown3 hgr))
        go_roundw
        case rel => exact ⟨k + 1, by omega, by go_num, by rw [HNX.out.1]; exact HN6.out⟩
        case measure => simp [intOf]; omega
      · have hBV := show Below W0.heap.size W0 ((w2.setCell ⟨W0.heap.size, 0, none⟩ (.string X')).setCell ⟨W0.heap.size, 1, none⟩ (.bool f')) from (HB.out.setCell (Nat.le_refl _) _).setCell (Nat.le_refl _) _
        have hV := heap_s (k := 1) (v := .bool f') (heap_s (k := 0) (v := .string X') HZ2.out)
        try clear u0 u1 u2
        generalize (w2.setCell ⟨W0.heap.size, 0, none⟩ (.string X')).setCell ⟨W0.heap.size, 1, none⟩ (.bool f') = V at hBV hV ⊢
        obtain ⟨q, hq⟩ : ∃ q, q = W0.heap.size := ⟨_, rfl⟩
        rw [← hq] at hV ⊢
        clear hq
        have hNS := HR.out.keep hBV
        have HNS := hid hNS
        have hrb := hNS.rb
        rw [HX.out.1] at hrb
        have q0 := (cells2 hV).1
        have q1 := (cells2 hV).2
        have r0 := (cells2 hrb).1
        have r1 := (cells2 hrb).2
        have r2 := fun j => freeV hrb j
        have HN5 := hid (hNS.put HX.out.1 HX.out.2)
        have hsz5 : ((V.setCell ⟨W.heap.size, 0, none⟩ (.string X')).setCell ⟨W.heap.size, 1, none⟩ (.bool f')).heap.size = V.heap.size := by simp
        have HSZ := hid hsz5
        clear hBV hV hNS hrb hsz5
        go_upto_region 7 with (fail)
        generalize (V.setCell ⟨W.heap.size, 0, none⟩ (.string X')).setCell ⟨W.heap.size, 1, none⟩ (.bool f') = V5 at HN5 HSZ ⊢
        clear q0 q1 r0 r1 r2 HNS
        go_wp2_with (first
          | (at_builtin; refine wpList_append_own _ rfl (.tmp 26) (.tmp 28) 95 rfl (W.heap.size + 2) 47 i0 (.int .u64 0) 1 8 Try.underlying95 hi hz0 hz1 hz2 rfl (by decide) u6 _ _ rfl (HN5.out.out.alloc _) ⟨V5.heap.size, 0, none⟩ 1 1 [.int .u64 (x : Int)] rfl rfl (num_cell _ _ _ rfl) (by intro u hu; rw [List.mem_singleton] at hu; subst hu; rfl) (by have := HNX.out.2; unfold maxLen; omega) (by have := HNX.out.2; omega) (size_alloc_le (lt_of_heap HN5.out.res) _) ?_; intro v3 w3 hown3 hgr _; have HN6 := hid (HN5.out.app (l2 := lk ++ [x]) _ hgr (by rw [List.length_append, show numV (lk ++ [x]) = numV lk ++ [.int .u64 (x : Int)] by simp [numV]]; exact hown3)); clear hown3 hgr))
        go_roundw
        case rel => exact ⟨k + 1, by omega, by go_num, by rw [HNX.out.1]; exact HN6.out⟩
        case measure => simp [intOf]; omega
    · obtain rfl : k = n := by omega
      obtain ⟨X, f, hX⟩ := rcells_form (numsGo ms k st0).2
      have hrb := hrel.rb
      rw [hX] at hrb
      have hres := hrel.res
      have e0 : W0.cell? ⟨W.heap.size, 0, none⟩ = some (.string X) := (cells2 hrb).1
      have e1 : W0.cell? ⟨W.heap.size, 1, none⟩ = some (.bool f) := (cells2 hrb).2
      have z0 : W0.cell? ⟨W.heap.size + 1, 0, none⟩ = some (.string ⟨#[]⟩) := (cells2 hres).1
      have z1 : W0.cell? ⟨W.heap.size + 1, 1, none⟩ = some (.bool false) := (cells2 hres).2
      have z2 : ∀ j, W0.frozen? ⟨W.heap.size + 1, j, none⟩ = false := fun j => freeV hres j
      have HR := hid hrel
      have HX := hid hX
      have HRES := hid hres
      clear hrel hrb hres hX
      go_wp2
      go_region
      go_wp2
      exact bodyPost_ret (results_tmp_row rfl _ _ (W.heap.size + 1) 78 #[.string X, .bool f] (0, 0) _ _ rfl rfl (show (((W0.setCell ⟨W.heap.size + 1, 0, none⟩ (.string X)).setCell ⟨W.heap.size + 1, 1, none⟩ (.bool f)).drew).heap[W.heap.size + 1]? = some (.cells #[.string X, .bool f] 78 (0, 0)) from heap_s (heap_s HRES.out)) Try.underlying78 rfl (by kernel_rfl)) rfl
        ⟨u6, by rw [HX.out]; rfl, ownsRow_base (show (((W0.setCell ⟨W.heap.size + 1, 0, none⟩ (.string X)).setCell ⟨W.heap.size + 1, 1, none⟩ (.bool f)).drew).ownsRow (W.heap.size + 2) _ _ _ _ _ from owns_setG (owns_setG HR.out.out (by omega)) (by omega)) (by omega), ((HR.out.below.setCell (by show W.heap.size ≤ W.heap.size + 1; omega) _).setCell (by show W.heap.size ≤ W.heap.size + 1; omega) _).drew⟩

end Go.Proofs.Ytagjgknkkbkjgaa.V
