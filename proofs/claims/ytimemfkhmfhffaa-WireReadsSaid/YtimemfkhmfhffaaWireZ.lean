/-
  A thing read of the program and of the document's answer alike.
-/
import Derived.Test.YtimemfkhmfhffaaWireY
import Derived.Test.YtimemfkhmfhffaaWireL
import Derived.Deep.RegionWith
namespace Go.Proofs.Ytimemfkhmfhffaa
open Go Go.RowKit Wire

/-- What is left behind a thing. -/
def stepI (st : St) (x : Thing) : St :=
  if x.kind % 4 = 0 then (takeNum st x.most).2 else if x.kind % 4 = 1 then (takeText st (((x.most % 5000 : Nat) : Int) - 10)).2 else if x.kind % 4 = 2 then (takeDot st).2 else (takeVec st).2

/-- What lies where, while a thing is read: the row read (R) in block t, the answer's cells (C of type ty) in block d, the item, the result row (Z). -/
structure TF (w : World) (t d b5 b6 g : Nat) (R : Array Value) (ty : TypeId) (C : Array Value) (x : Thing) (st : St) (Z : Array Value) : Prop where
  row : w.heap[t]? = some (.cells R 40 (0, 0))
  ans : w.heap[d]? = some (.cells C ty (0, 0))
  item : w.heap[b5]? = some (.cells x.cells 35 (0, 0))
  res : w.heap[b6]? = some (.cells Z 40 (0, 0))
  rd : RAt w (some g) st

theorem TF.call {V w2 : World} {t d b5 b6 g : Nat} {R C Z : Array Value} {ty : TypeId} {x : Thing} {st st' : St} (h : TF V t d b5 b6 g R ty C x st Z) (hty : ty ≠ 5) (hk : Keeps V.heap.size (some g) V w2) (hr : RAt w2 (some g) st') (h1 : t ≠ g) (h2 : d ≠ g) (h3 : b5 ≠ g) (h4 : b6 ≠ g) :
    TF w2 t d b5 b6 g R ty C x st' Z :=
  ⟨hk.other _ _ _ _ h.row (by decide) (by simpa using h1), hk.other _ _ _ _ h.ans hty (by simpa using h2), hk.other _ _ _ _ h.item (by decide) (by simpa using h3), hk.other _ _ _ _ h.res (by decide) (by simpa using h4), hr⟩
theorem TF.drew {V : World} {t d b5 b6 g : Nat} {R C Z : Array Value} {ty : TypeId} {x : Thing} {st : St} (h : TF V t d b5 b6 g R ty C x st Z) : TF V.drew t d b5 b6 g R ty C x st Z :=
  ⟨h.row, h.ans, h.item, h.res, RAt.drew h.rd⟩
theorem TF.store {V : World} {t d b5 b6 g : Nat} {R C : Array Value} {ty : TypeId} {x : Thing} {st : St} {z0 z1 : Value} (h : TF V t d b5 b6 g R ty C x st #[z0, z1]) (h1 : t ≠ b6) (h2 : d ≠ b6) (h3 : b5 ≠ b6) (h4 : b6 ≠ g) (u v : Value) :
    TF ((V.setCell ⟨b6, 0, none⟩ u).setCell ⟨b6, 1, none⟩ v) t d b5 b6 g R ty C x st #[u, v] :=
  ⟨(Below.heap_setCell _ _ _ _ h1).trans ((Below.heap_setCell _ _ _ _ h1).trans h.row), (Below.heap_setCell _ _ _ _ h2).trans ((Below.heap_setCell _ _ _ _ h2).trans h.ans), (Below.heap_setCell _ _ _ _ h3).trans ((Below.heap_setCell _ _ _ _ h3).trans h.item), set2_heap h.res u v,
    RAt.setOwn (RAt.setOwn h.rd (by simpa using h4) _) (by simpa using h4) _⟩
theorem TF.itemcells {w : World} {t d b5 b6 g : Nat} {R C Z : Array Value} {ty : TypeId} {x : Thing} {st : St} (h : TF w t d b5 b6 g R ty C x st Z) :
    w.cell? ⟨b5, 13, none⟩ = some (.int .u64 x.most) := (cell_of_heap h.item).trans rfl
theorem TF.rowcells {w : World} {t d b5 b6 g : Nat} {C Z : Array Value} {ty : TypeId} {x : Thing} {st : St} {u v : Value} (h : TF w t d b5 b6 g #[u, v] ty C x st Z) :
    w.cell? ⟨t, 0, none⟩ = some u ∧ w.cell? ⟨t, 1, none⟩ = some v := ⟨(cell_of_heap h.row).trans rfl, (cell_of_heap h.row).trans rfl⟩
theorem TF.rescells {w : World} {t d b5 b6 g : Nat} {R C : Array Value} {ty : TypeId} {x : Thing} {st : St} {u v : Value} (h : TF w t d b5 b6 g R ty C x st #[u, v]) :
    w.cell? ⟨b6, 0, none⟩ = some u ∧ w.cell? ⟨b6, 1, none⟩ = some v ∧ w.frozen? ⟨b6, 0, none⟩ = false ∧ w.frozen? ⟨b6, 1, none⟩ = false := ⟨(cell_of_heap h.res).trans rfl, (cell_of_heap h.res).trans rfl, free_of_heap h.res, free_of_heap h.res⟩

set_option maxHeartbeats 2000000 in
set_option maxRecDepth 100000 in
theorem take_0 (W : World) (g : Nat) (x : Thing) (st st' : St) (X X' : ByteArray) (f f' : Bool) (n : Nat) (most : Nat) (hmo : x.most = most) (hk : x.kind % 4 = 0) (hr : RAt W (some g) st)
    (href : ∀ W, Calls Try.prog 34 #[.agg #[.string X, .bool f], .int .u64 (most : Int)] W fun e w' => e = .returned (.tuple #[.int .u64 (n : Int), .agg #[.string X', .bool f']]) ∧ Below W.heap.size W w')
    (hrd : ∀ w, RAt w (some g) st → Calls Try.prog 18 #[.pointer (some ⟨g, 0, none⟩), .int .u64 (most : Int)] w fun e w' => e = .returned (.int .u64 (n : Int)) ∧ RAt w' (some g) st' ∧ Keeps w.heap.size (some g) w w') :
    Calls Try.prog 14 #[.pointer (some ⟨g, 0, none⟩), .agg #[.string X, .bool f], .agg x.cells] W fun e w' => e = .returned (.tuple #[.agg #[.string X', .bool f'], .bool true]) ∧ RAt w' (some g) st' ∧ Keeps W.heap.size (some g) W w' := by
  subst hmo
  have hkm : (x.kind : Int).tmod 4 = 0 := by rw [Int.tmod_eq_emod_of_nonneg (by omega)]; omega
  have hgl : g < W.heap.size := lt_of_some (show W.heap[g]? = some (Obj.cells (rcells st) 65 (0, 0)) from hr)
  have h0 := first_three W (.cells #[.string X, .bool f] 40) (.cells x.cells 35) (.cells #[.string ⟨#[]⟩, .bool false] 40)
  have h5 := mid_three W (.cells #[.string X, .bool f] 40) (.cells x.cells 35) (.cells #[.string ⟨#[]⟩, .bool false] 40)
  have h6 := last_three W (.cells #[.string X, .bool f] 40) (.cells x.cells 35) (.cells #[.string ⟨#[]⟩, .bool false] 40)
  have hb3 := below_three W (.cells #[.string X, .bool f] 40) (.cells x.cells 35) (.cells #[.string ⟨#[]⟩, .bool false] 40)
  have c0 := (cell_of_heap (j := 0) h0).trans rfl
  have c1 := (cell_of_heap (j := 1) h0).trans rfl
  have i0 : (((W.alloc (.cells #[.string X, .bool f] 40)).alloc (.cells x.cells 35)).alloc (.cells #[.string ⟨#[]⟩, .bool false] 40)).cell? ⟨W.heap.size + 1, 0, none⟩ = some (.int .u8 (x.kind : Int)) := (cell_of_heap h5).trans rfl
  have i13 : (((W.alloc (.cells #[.string X, .bool f] 40)).alloc (.cells x.cells 35)).alloc (.cells #[.string ⟨#[]⟩, .bool false] 40)).cell? ⟨W.heap.size + 1, 13, none⟩ = some (.int .u64 (x.most : Int)) := (cell_of_heap h5).trans rfl
  have HB : Hid _ := And.intro h5 (And.intro h6 (And.intro hb3 hr))
  clear h0 h5 h6 hb3 hr
  go_enter Try.func14, Try.ntmps14
  go_wp2_with (go_at_call 34; refine (href _).mono ?_; rintro e w1 ⟨rfl, hb1⟩; clear href; obtain ⟨h5, h6, hb3, hr⟩ := HB.out; have j5 := kept_block h5 hb1; have j6 := kept_block h6 hb1; have hB1 := below_next hb3 hb1; have hR1 : RAt w1 (some g) st := RAt.keep hr hB1; have HB1 : Hid _ := And.intro j5 (And.intro j6 (And.intro hB1 hR1)); clear h5 h6 hb3 hr j5 j6 hB1 hR1)
  obtain ⟨j5, j6, hB1, hR1⟩ := HB1.out
  have hs1 := lt_of_some j6
  have hby : Below w1.heap.size w1 (w1.alloc (.cells #[.string X', .bool f'] 40)) := (Below.refl _ w1).alloc (Nat.le_refl _) _
  have hTY : TF (w1.alloc (.cells #[.string X', .bool f'] 40)) w1.heap.size w1.heap.size (W.heap.size + 1) (W.heap.size + 2) g #[.string X', .bool f'] 40 #[.string X', .bool f'] x st #[.string ⟨#[]⟩, .bool false] := ⟨(heap_alloc_last _ _), (heap_alloc_last _ _), (kept_alloc j5 _), (kept_alloc j6 _), RAt.keep hR1 hby⟩
  have hKY : Keeps W.heap.size (some g) W (w1.alloc (.cells #[.string X', .bool f'] 40)) := (below_next hB1 hby).keeps (some g) _ (Nat.le_refl _)
  have hn1 : w1.heap.size ≠ g := by omega
  have hn2 : w1.heap.size ≠ g := by omega
  have hn3 : W.heap.size + 1 ≠ g := by omega
  have hn4 : W.heap.size + 2 ≠ g := by omega
  have hn5 : w1.heap.size ≠ W.heap.size + 2 := by omega
  have hn6 : w1.heap.size ≠ W.heap.size + 2 := by omega
  clear HB HB1 j5 j6 hB1 hR1 hby
  generalize w1.alloc (.cells #[.string X', .bool f'] 40) = Y at *
  have HTY : Hid (TF Y w1.heap.size w1.heap.size (W.heap.size + 1) (W.heap.size + 2) g #[.string X', .bool f'] 40 #[.string X', .bool f'] x st #[.string ⟨#[]⟩, .bool false]) := hTY
  have hTa := HTY.out.drew
  have hTb := (HTY.out.store hn5 hn6 (by omega) hn4 (.string X') (.bool f')).drew
  have hKa := hKY.drew
  have hKb := (((hKY.setOwn ⟨W.heap.size + 2, 0, none⟩ (by simp) (.string X')).setOwn ⟨W.heap.size + 2, 1, none⟩ (by simp) (.bool f'))).drew
  have HAB : Hid _ := And.intro hTa (And.intro hTb (And.intro hKa hKb))
  obtain ⟨r0, r1⟩ := HTY.out.rowcells
  obtain ⟨z0, z1, z2, z3⟩ := HTY.out.rescells
  have m1 := HTY.out.itemcells
  clear hTa hTb hKa hKb hTY hKY
  go_region_with (go_at_call 18; first | ((with_reducible refine (hrd _ HAB.out.1.rd).mono ?_); rintro e w2 ⟨rfl, h2, hk2⟩; have HT2 : Hid (TF w2 w1.heap.size w1.heap.size (W.heap.size + 1) (W.heap.size + 2) g #[.string X', .bool f'] 40 #[.string X', .bool f'] x st' #[.string ⟨#[]⟩, .bool false]) := HAB.out.1.call (by decide) hk2 h2 hn1 hn2 hn3 hn4; have HK : Hid (Keeps W.heap.size (some g) W w2) := HAB.out.2.2.1.trans (hk2.mono HAB.out.2.2.1.size); obtain ⟨r0, r1⟩ := HT2.out.rowcells; obtain ⟨z0, z1, z2, z3⟩ := HT2.out.rescells; have m1 := HT2.out.itemcells; clear h2 hk2) | ((with_reducible refine (hrd _ HAB.out.2.1.rd).mono ?_); rintro e w2 ⟨rfl, h2, hk2⟩; have HT2 : Hid (TF w2 w1.heap.size w1.heap.size (W.heap.size + 1) (W.heap.size + 2) g #[.string X', .bool f'] 40 #[.string X', .bool f'] x st' #[.string X', .bool f']) := HAB.out.2.1.call (by decide) hk2 h2 hn1 hn2 hn3 hn4; have HK : Hid (Keeps W.heap.size (some g) W w2) := HAB.out.2.2.2.trans (hk2.mono HAB.out.2.2.2.size); obtain ⟨r0, r1⟩ := HT2.out.rowcells; obtain ⟨z0, z1, z2, z3⟩ := HT2.out.rescells; have m1 := HT2.out.itemcells; clear h2 hk2))
  all_goals
    go_wp2
    first
      | exact bodyPost_ret (v := .tuple #[.agg #[.string X', .bool f'], .bool true]) (results_row_tmp rfl _ _ (W.heap.size + 2) 40 #[.string X', .bool f'] (0, 0) _ _ rfl rfl HT2.out.res Try.underlying40 rfl (by kernel_rfl)) rfl ⟨rfl, HT2.out.rd, HK.out⟩
      | exact bodyPost_ret (v := .tuple #[.agg #[.string X', .bool f'], .bool true]) (results_row_tmp rfl _ _ (W.heap.size + 2) 40 #[.string X', .bool f'] (0, 0) _ _ rfl rfl (set2_heap HT2.out.res _ _) Try.underlying40 rfl (by kernel_rfl)) rfl ⟨rfl, RAt.setOwn (RAt.setOwn HT2.out.rd (by simpa using hn4) _) (by simpa using hn4) _, (HK.out.setOwn _ (by simp <;> omega) _).setOwn _ (by simp <;> omega) _⟩

set_option maxHeartbeats 2000000 in
set_option maxRecDepth 100000 in
theorem take_1 (W : World) (g : Nat) (x : Thing) (st st' : St) (X X' : ByteArray) (f f' : Bool) (s : ByteArray) (z : Int) (y : Nat) (hy : y = x.most % 5000) (hz : z = (y : Int) - 10) (hk : x.kind % 4 = 1) (hr : RAt W (some g) st)
    (href : ∀ W, Calls Try.prog 35 #[.agg #[.string X, .bool f], .int .i64 z] W fun e w' => e = .returned (.tuple #[.string s, .agg #[.string X', .bool f']]) ∧ Below W.heap.size W w')
    (hrd : ∀ w, RAt w (some g) st → Calls Try.prog 19 #[.pointer (some ⟨g, 0, none⟩), .int .i64 z] w fun e w' => e = .returned (.string s) ∧ RAt w' (some g) st' ∧ Keeps w.heap.size (some g) w w') :
    Calls Try.prog 14 #[.pointer (some ⟨g, 0, none⟩), .agg #[.string X, .bool f], .agg x.cells] W fun e w' => e = .returned (.tuple #[.agg #[.string X', .bool f'], .bool true]) ∧ RAt w' (some g) st' ∧ Keeps W.heap.size (some g) W w' := by
  have hmm : (x.most : Int).tmod 5000 = (y : Int) := by rw [Int.tmod_eq_emod_of_nonneg (by omega), hy]; rfl
  have hw1 : IntKind.u64.wrap (y : Int) = y := by rw [wrap_u64]; omega
  have hw2 : IntKind.i64.wrap (y : Int) = y := by simp [IntKind.wrap, IntKind.bits, IntKind.signed]; omega
  have hw3 : wrap64 z = z := by unfold wrap64; omega
  have hw4 : (y : Int) - 10 = z := hz.symm
  have hw5 : IntKind.i64.wrap z = z := by simp [IntKind.wrap, IntKind.bits, IntKind.signed]; omega
  have HYZ : Hid _ := And.intro hy hz
  clear hy hz
  have hkm : (x.kind : Int).tmod 4 = 1 := by rw [Int.tmod_eq_emod_of_nonneg (by omega)]; omega
  have hgl : g < W.heap.size := lt_of_some (show W.heap[g]? = some (Obj.cells (rcells st) 65 (0, 0)) from hr)
  have h0 := first_three W (.cells #[.string X, .bool f] 40) (.cells x.cells 35) (.cells #[.string ⟨#[]⟩, .bool false] 40)
  have h5 := mid_three W (.cells #[.string X, .bool f] 40) (.cells x.cells 35) (.cells #[.string ⟨#[]⟩, .bool false] 40)
  have h6 := last_three W (.cells #[.string X, .bool f] 40) (.cells x.cells 35) (.cells #[.string ⟨#[]⟩, .bool false] 40)
  have hb3 := below_three W (.cells #[.string X, .bool f] 40) (.cells x.cells 35) (.cells #[.string ⟨#[]⟩, .bool false] 40)
  have c0 := (cell_of_heap (j := 0) h0).trans rfl
  have c1 := (cell_of_heap (j := 1) h0).trans rfl
  have i0 : (((W.alloc (.cells #[.string X, .bool f] 40)).alloc (.cells x.cells 35)).alloc (.cells #[.string ⟨#[]⟩, .bool false] 40)).cell? ⟨W.heap.size + 1, 0, none⟩ = some (.int .u8 (x.kind : Int)) := (cell_of_heap h5).trans rfl
  have i13 : (((W.alloc (.cells #[.string X, .bool f] 40)).alloc (.cells x.cells 35)).alloc (.cells #[.string ⟨#[]⟩, .bool false] 40)).cell? ⟨W.heap.size + 1, 13, none⟩ = some (.int .u64 (x.most : Int)) := (cell_of_heap h5).trans rfl
  have HB : Hid _ := And.intro h5 (And.intro h6 (And.intro hb3 hr))
  clear h0 h5 h6 hb3 hr
  go_enter Try.func14, Try.ntmps14
  go_wp2_with (go_at_call 35; refine (href _).mono ?_; rintro e w1 ⟨rfl, hb1⟩; clear href; obtain ⟨h5, h6, hb3, hr⟩ := HB.out; have j5 := kept_block h5 hb1; have j6 := kept_block h6 hb1; have hB1 := below_next hb3 hb1; have hR1 : RAt w1 (some g) st := RAt.keep hr hB1; have HB1 : Hid _ := And.intro j5 (And.intro j6 (And.intro hB1 hR1)); clear h5 h6 hb3 hr j5 j6 hB1 hR1)
  obtain ⟨j5, j6, hB1, hR1⟩ := HB1.out
  have hs1 := lt_of_some j6
  have hby : Below w1.heap.size w1 (w1.alloc (.cells #[.string X', .bool f'] 40)) := (Below.refl _ w1).alloc (Nat.le_refl _) _
  have hTY : TF (w1.alloc (.cells #[.string X', .bool f'] 40)) w1.heap.size w1.heap.size (W.heap.size + 1) (W.heap.size + 2) g #[.string X', .bool f'] 40 #[.string X', .bool f'] x st #[.string ⟨#[]⟩, .bool false] := ⟨(heap_alloc_last _ _), (heap_alloc_last _ _), (kept_alloc j5 _), (kept_alloc j6 _), RAt.keep hR1 hby⟩
  have hKY : Keeps W.heap.size (some g) W (w1.alloc (.cells #[.string X', .bool f'] 40)) := (below_next hB1 hby).keeps (some g) _ (Nat.le_refl _)
  have hn1 : w1.heap.size ≠ g := by omega
  have hn2 : w1.heap.size ≠ g := by omega
  have hn3 : W.heap.size + 1 ≠ g := by omega
  have hn4 : W.heap.size + 2 ≠ g := by omega
  have hn5 : w1.heap.size ≠ W.heap.size + 2 := by omega
  have hn6 : w1.heap.size ≠ W.heap.size + 2 := by omega
  clear HB HB1 j5 j6 hB1 hR1 hby
  generalize w1.alloc (.cells #[.string X', .bool f'] 40) = Y at *
  have HTY : Hid (TF Y w1.heap.size w1.heap.size (W.heap.size + 1) (W.heap.size + 2) g #[.string X', .bool f'] 40 #[.string X', .bool f'] x st #[.string ⟨#[]⟩, .bool false]) := hTY
  have hTa := HTY.out.drew
  have hTb := (HTY.out.store hn5 hn6 (by omega) hn4 (.string X') (.bool f')).drew
  have hKa := hKY.drew
  have hKb := (((hKY.setOwn ⟨W.heap.size + 2, 0, none⟩ (by simp) (.string X')).setOwn ⟨W.heap.size + 2, 1, none⟩ (by simp) (.bool f'))).drew
  have HAB : Hid _ := And.intro hTa (And.intro hTb (And.intro hKa hKb))
  obtain ⟨r0, r1⟩ := HTY.out.rowcells
  obtain ⟨z0, z1, z2, z3⟩ := HTY.out.rescells
  have m1 := HTY.out.itemcells
  clear hTa hTb hKa hKb hTY hKY
  go_region_with (go_at_call 19; first | ((with_reducible refine (hrd _ HAB.out.1.rd).mono ?_); rintro e w2 ⟨rfl, h2, hk2⟩; have HT2 : Hid (TF w2 w1.heap.size w1.heap.size (W.heap.size + 1) (W.heap.size + 2) g #[.string X', .bool f'] 40 #[.string X', .bool f'] x st' #[.string ⟨#[]⟩, .bool false]) := HAB.out.1.call (by decide) hk2 h2 hn1 hn2 hn3 hn4; have HK : Hid (Keeps W.heap.size (some g) W w2) := HAB.out.2.2.1.trans (hk2.mono HAB.out.2.2.1.size); obtain ⟨r0, r1⟩ := HT2.out.rowcells; obtain ⟨z0, z1, z2, z3⟩ := HT2.out.rescells; have m1 := HT2.out.itemcells; clear h2 hk2) | ((with_reducible refine (hrd _ HAB.out.2.1.rd).mono ?_); rintro e w2 ⟨rfl, h2, hk2⟩; have HT2 : Hid (TF w2 w1.heap.size w1.heap.size (W.heap.size + 1) (W.heap.size + 2) g #[.string X', .bool f'] 40 #[.string X', .bool f'] x st' #[.string X', .bool f']) := HAB.out.2.1.call (by decide) hk2 h2 hn1 hn2 hn3 hn4; have HK : Hid (Keeps W.heap.size (some g) W w2) := HAB.out.2.2.2.trans (hk2.mono HAB.out.2.2.2.size); obtain ⟨r0, r1⟩ := HT2.out.rowcells; obtain ⟨z0, z1, z2, z3⟩ := HT2.out.rescells; have m1 := HT2.out.itemcells; clear h2 hk2))
  all_goals
    go_wp2
    first
      | exact bodyPost_ret (v := .tuple #[.agg #[.string X', .bool f'], .bool true]) (results_row_tmp rfl _ _ (W.heap.size + 2) 40 #[.string X', .bool f'] (0, 0) _ _ rfl rfl HT2.out.res Try.underlying40 rfl (by kernel_rfl)) rfl ⟨rfl, HT2.out.rd, HK.out⟩
      | exact bodyPost_ret (v := .tuple #[.agg #[.string X', .bool f'], .bool true]) (results_row_tmp rfl _ _ (W.heap.size + 2) 40 #[.string X', .bool f'] (0, 0) _ _ rfl rfl (set2_heap HT2.out.res _ _) Try.underlying40 rfl (by kernel_rfl)) rfl ⟨rfl, RAt.setOwn (RAt.setOwn HT2.out.rd (by simpa using hn4) _) (by simpa using hn4) _, (HK.out.setOwn _ (by simp <;> omega) _).setOwn _ (by simp <;> omega) _⟩

set_option maxHeartbeats 2000000 in
set_option maxRecDepth 100000 in
theorem take_2 (W : World) (g : Nat) (x : Thing) (st st' : St) (X X' : ByteArray) (f f' : Bool) (a b : Nat) (hk : x.kind % 4 = 2) (hr : RAt W (some g) st)
    (href : ∀ W, Calls Try.prog 36 #[.agg #[.string X, .bool f]] W fun e w' => e = .returned (.tuple #[.agg #[.int .u8 (a : Int), .int .u32 (b : Int)], .agg #[.string X', .bool f']]) ∧ Below W.heap.size W w')
    (hrd : ∀ w, RAt w (some g) st → Calls Try.prog 20 #[.pointer (some ⟨g, 0, none⟩)] w fun e w' => e = .returned (.agg #[.int .u8 (a : Int), .int .u32 (b : Int)]) ∧ RAt w' (some g) st' ∧ Keeps w.heap.size (some g) w w') :
    Calls Try.prog 14 #[.pointer (some ⟨g, 0, none⟩), .agg #[.string X, .bool f], .agg x.cells] W fun e w' => e = .returned (.tuple #[.agg #[.string X', .bool f'], .bool true]) ∧ RAt w' (some g) st' ∧ Keeps W.heap.size (some g) W w' := by
  have hkm : (x.kind : Int).tmod 4 = 2 := by rw [Int.tmod_eq_emod_of_nonneg (by omega)]; omega
  have hgl : g < W.heap.size := lt_of_some (show W.heap[g]? = some (Obj.cells (rcells st) 65 (0, 0)) from hr)
  have h0 := first_three W (.cells #[.string X, .bool f] 40) (.cells x.cells 35) (.cells #[.string ⟨#[]⟩, .bool false] 40)
  have h5 := mid_three W (.cells #[.string X, .bool f] 40) (.cells x.cells 35) (.cells #[.string ⟨#[]⟩, .bool false] 40)
  have h6 := last_three W (.cells #[.string X, .bool f] 40) (.cells x.cells 35) (.cells #[.string ⟨#[]⟩, .bool false] 40)
  have hb3 := below_three W (.cells #[.string X, .bool f] 40) (.cells x.cells 35) (.cells #[.string ⟨#[]⟩, .bool false] 40)
  have c0 := (cell_of_heap (j := 0) h0).trans rfl
  have c1 := (cell_of_heap (j := 1) h0).trans rfl
  have i0 : (((W.alloc (.cells #[.string X, .bool f] 40)).alloc (.cells x.cells 35)).alloc (.cells #[.string ⟨#[]⟩, .bool false] 40)).cell? ⟨W.heap.size + 1, 0, none⟩ = some (.int .u8 (x.kind : Int)) := (cell_of_heap h5).trans rfl
  have i13 : (((W.alloc (.cells #[.string X, .bool f] 40)).alloc (.cells x.cells 35)).alloc (.cells #[.string ⟨#[]⟩, .bool false] 40)).cell? ⟨W.heap.size + 1, 13, none⟩ = some (.int .u64 (x.most : Int)) := (cell_of_heap h5).trans rfl
  have HB : Hid _ := And.intro h5 (And.intro h6 (And.intro hb3 hr))
  clear h0 h5 h6 hb3 hr
  go_enter Try.func14, Try.ntmps14
  go_wp2_with (go_at_call 36; refine (href _).mono ?_; rintro e w1 ⟨rfl, hb1⟩; clear href; obtain ⟨h5, h6, hb3, hr⟩ := HB.out; have j5 := kept_block h5 hb1; have j6 := kept_block h6 hb1; have hB1 := below_next hb3 hb1; have hR1 : RAt w1 (some g) st := RAt.keep hr hB1; have HB1 : Hid _ := And.intro j5 (And.intro j6 (And.intro hB1 hR1)); clear h5 h6 hb3 hr j5 j6 hB1 hR1)
  obtain ⟨j5, j6, hB1, hR1⟩ := HB1.out
  have hs1 := lt_of_some j6
  have hby : Below w1.heap.size w1 ((w1.alloc (.cells #[.int .u8 (a : Int), .int .u32 (b : Int)] 31)).alloc (.cells #[.string X', .bool f'] 40)) := ((Below.refl _ w1).alloc (Nat.le_refl _) _).alloc (by simp) _
  have hTY : TF ((w1.alloc (.cells #[.int .u8 (a : Int), .int .u32 (b : Int)] 31)).alloc (.cells #[.string X', .bool f'] 40)) (w1.heap.size + 1) w1.heap.size (W.heap.size + 1) (W.heap.size + 2) g #[.string X', .bool f'] 31 #[.int .u8 (a : Int), .int .u32 (b : Int)] x st #[.string ⟨#[]⟩, .bool false] := ⟨(by have := heap_alloc_last (w1.alloc (.cells #[.int .u8 (a : Int), .int .u32 (b : Int)] 31)) (.cells #[.string X', .bool f'] 40); rw [World.size_alloc] at this; exact this), (kept_alloc (heap_alloc_last w1 _) _), (kept_alloc (kept_alloc j5 _) _), (kept_alloc (kept_alloc j6 _) _), RAt.keep hR1 hby⟩
  have hKY : Keeps W.heap.size (some g) W ((w1.alloc (.cells #[.int .u8 (a : Int), .int .u32 (b : Int)] 31)).alloc (.cells #[.string X', .bool f'] 40)) := (below_next hB1 hby).keeps (some g) _ (Nat.le_refl _)
  have hn1 : (w1.heap.size + 1) ≠ g := by omega
  have hn2 : w1.heap.size ≠ g := by omega
  have hn3 : W.heap.size + 1 ≠ g := by omega
  have hn4 : W.heap.size + 2 ≠ g := by omega
  have hn5 : (w1.heap.size + 1) ≠ W.heap.size + 2 := by omega
  have hn6 : w1.heap.size ≠ W.heap.size + 2 := by omega
  clear HB HB1 j5 j6 hB1 hR1 hby
  generalize (w1.alloc (.cells #[.int .u8 (a : Int), .int .u32 (b : Int)] 31)).alloc (.cells #[.string X', .bool f'] 40) = Y at *
  have HTY : Hid (TF Y (w1.heap.size + 1) w1.heap.size (W.heap.size + 1) (W.heap.size + 2) g #[.string X', .bool f'] 31 #[.int .u8 (a : Int), .int .u32 (b : Int)] x st #[.string ⟨#[]⟩, .bool false]) := hTY
  have hTa := HTY.out.drew
  have hTb := (HTY.out.store hn5 hn6 (by omega) hn4 (.string X') (.bool f')).drew
  have hKa := hKY.drew
  have hKb := (((hKY.setOwn ⟨W.heap.size + 2, 0, none⟩ (by simp) (.string X')).setOwn ⟨W.heap.size + 2, 1, none⟩ (by simp) (.bool f'))).drew
  have HAB : Hid _ := And.intro hTa (And.intro hTb (And.intro hKa hKb))
  obtain ⟨r0, r1⟩ := HTY.out.rowcells
  obtain ⟨z0, z1, z2, z3⟩ := HTY.out.rescells
  have m1 := HTY.out.itemcells
  obtain ⟨q0, q1⟩ : Y.cell? ⟨w1.heap.size, 0, none⟩ = some (.int .u8 (a : Int)) ∧ Y.cell? ⟨w1.heap.size, 1, none⟩ = some (.int .u32 (b : Int)) := ⟨(cell_of_heap HTY.out.ans).trans rfl, (cell_of_heap HTY.out.ans).trans rfl⟩
  clear hTa hTb hKa hKb hTY hKY
  go_region_with (go_at_call 20; first | ((with_reducible refine (hrd _ HAB.out.1.rd).mono ?_); rintro e w2 ⟨rfl, h2, hk2⟩; have HT2 : Hid (TF w2 (w1.heap.size + 1) w1.heap.size (W.heap.size + 1) (W.heap.size + 2) g #[.string X', .bool f'] 31 #[.int .u8 (a : Int), .int .u32 (b : Int)] x st' #[.string ⟨#[]⟩, .bool false]) := HAB.out.1.call (by decide) hk2 h2 hn1 hn2 hn3 hn4; have HK : Hid (Keeps W.heap.size (some g) W w2) := HAB.out.2.2.1.trans (hk2.mono HAB.out.2.2.1.size); obtain ⟨r0, r1⟩ := HT2.out.rowcells; obtain ⟨z0, z1, z2, z3⟩ := HT2.out.rescells; have m1 := HT2.out.itemcells; obtain ⟨q0, q1⟩ : w2.cell? ⟨w1.heap.size, 0, none⟩ = some (.int .u8 (a : Int)) ∧ w2.cell? ⟨w1.heap.size, 1, none⟩ = some (.int .u32 (b : Int)) := ⟨(cell_of_heap HT2.out.ans).trans rfl, (cell_of_heap HT2.out.ans).trans rfl⟩; clear h2 hk2) | ((with_reducible refine (hrd _ HAB.out.2.1.rd).mono ?_); rintro e w2 ⟨rfl, h2, hk2⟩; have HT2 : Hid (TF w2 (w1.heap.size + 1) w1.heap.size (W.heap.size + 1) (W.heap.size + 2) g #[.string X', .bool f'] 31 #[.int .u8 (a : Int), .int .u32 (b : Int)] x st' #[.string X', .bool f']) := HAB.out.2.1.call (by decide) hk2 h2 hn1 hn2 hn3 hn4; have HK : Hid (Keeps W.heap.size (some g) W w2) := HAB.out.2.2.2.trans (hk2.mono HAB.out.2.2.2.size); obtain ⟨r0, r1⟩ := HT2.out.rowcells; obtain ⟨z0, z1, z2, z3⟩ := HT2.out.rescells; have m1 := HT2.out.itemcells; obtain ⟨q0, q1⟩ : w2.cell? ⟨w1.heap.size, 0, none⟩ = some (.int .u8 (a : Int)) ∧ w2.cell? ⟨w1.heap.size, 1, none⟩ = some (.int .u32 (b : Int)) := ⟨(cell_of_heap HT2.out.ans).trans rfl, (cell_of_heap HT2.out.ans).trans rfl⟩; clear h2 hk2))
  all_goals
    go_wp2
    first
      | exact bodyPost_ret (v := .tuple #[.agg #[.string X', .bool f'], .bool true]) (results_row_tmp rfl _ _ (W.heap.size + 2) 40 #[.string X', .bool f'] (0, 0) _ _ rfl rfl HT2.out.res Try.underlying40 rfl (by kernel_rfl)) rfl ⟨rfl, HT2.out.rd, HK.out⟩
      | exact bodyPost_ret (v := .tuple #[.agg #[.string X', .bool f'], .bool true]) (results_row_tmp rfl _ _ (W.heap.size + 2) 40 #[.string X', .bool f'] (0, 0) _ _ rfl rfl (set2_heap HT2.out.res _ _) Try.underlying40 rfl (by kernel_rfl)) rfl ⟨rfl, RAt.setOwn (RAt.setOwn HT2.out.rd (by simpa using hn4) _) (by simpa using hn4) _, (HK.out.setOwn _ (by simp <;> omega) _).setOwn _ (by simp <;> omega) _⟩

set_option maxHeartbeats 2000000 in
set_option maxRecDepth 100000 in
theorem take_3 (W : World) (g : Nat) (x : Thing) (st st' : St) (X X' : ByteArray) (f f' : Bool) (b0 : Nat) (b1 : Nat) (b2 : Nat) (b3 : Nat) (b4 : Nat) (b5 : Nat) (b6 : Nat) (b7 : Nat) (hk : x.kind % 4 = 3) (hr : RAt W (some g) st)
    (href : ∀ W, Calls Try.prog 37 #[.agg #[.string X, .bool f]] W fun e w' => e = .returned (.tuple #[.agg #[.int .u32 (b0 : Int), .int .u32 (b1 : Int), .int .u32 (b2 : Int), .int .u32 (b3 : Int), .int .u32 (b4 : Int), .int .u32 (b5 : Int), .int .u32 (b6 : Int), .int .u32 (b7 : Int)], .agg #[.string X', .bool f']]) ∧ Below W.heap.size W w')
    (hrd : ∀ w, RAt w (some g) st → Calls Try.prog 21 #[.pointer (some ⟨g, 0, none⟩)] w fun e w' => e = .returned (.agg #[.int .u32 (b0 : Int), .int .u32 (b1 : Int), .int .u32 (b2 : Int), .int .u32 (b3 : Int), .int .u32 (b4 : Int), .int .u32 (b5 : Int), .int .u32 (b6 : Int), .int .u32 (b7 : Int)]) ∧ RAt w' (some g) st' ∧ Keeps w.heap.size (some g) w w') :
    Calls Try.prog 14 #[.pointer (some ⟨g, 0, none⟩), .agg #[.string X, .bool f], .agg x.cells] W fun e w' => e = .returned (.tuple #[.agg #[.string X', .bool f'], .bool true]) ∧ RAt w' (some g) st' ∧ Keeps W.heap.size (some g) W w' := by
  have heqv : ∀ w, (Op.equalIn 10000 33 (.agg #[.int .u32 (b0 : Int), .int .u32 (b1 : Int), .int .u32 (b2 : Int), .int .u32 (b3 : Int), .int .u32 (b4 : Int), .int .u32 (b5 : Int), .int .u32 (b6 : Int), .int .u32 (b7 : Int)]) (.agg #[.int .u32 (b0 : Int), .int .u32 (b1 : Int), .int .u32 (b2 : Int), .int .u32 (b3 : Int), .int .u32 (b4 : Int), .int .u32 (b5 : Int), .int .u32 (b6 : Int), .int .u32 (b7 : Int)])).run Try.prog w = .ok true w := fun w => (eq_vec8 _ _ _ _ _ _ _ _ _ _ _ _ _ _ _ _ w).trans (by simp)
  have hkm : (x.kind : Int).tmod 4 = 3 := by rw [Int.tmod_eq_emod_of_nonneg (by omega)]; omega
  have hgl : g < W.heap.size := lt_of_some (show W.heap[g]? = some (Obj.cells (rcells st) 65 (0, 0)) from hr)
  have h0 := first_three W (.cells #[.string X, .bool f] 40) (.cells x.cells 35) (.cells #[.string ⟨#[]⟩, .bool false] 40)
  have h5 := mid_three W (.cells #[.string X, .bool f] 40) (.cells x.cells 35) (.cells #[.string ⟨#[]⟩, .bool false] 40)
  have h6 := last_three W (.cells #[.string X, .bool f] 40) (.cells x.cells 35) (.cells #[.string ⟨#[]⟩, .bool false] 40)
  have hb3 := below_three W (.cells #[.string X, .bool f] 40) (.cells x.cells 35) (.cells #[.string ⟨#[]⟩, .bool false] 40)
  have c0 := (cell_of_heap (j := 0) h0).trans rfl
  have c1 := (cell_of_heap (j := 1) h0).trans rfl
  have i0 : (((W.alloc (.cells #[.string X, .bool f] 40)).alloc (.cells x.cells 35)).alloc (.cells #[.string ⟨#[]⟩, .bool false] 40)).cell? ⟨W.heap.size + 1, 0, none⟩ = some (.int .u8 (x.kind : Int)) := (cell_of_heap h5).trans rfl
  have i13 : (((W.alloc (.cells #[.string X, .bool f] 40)).alloc (.cells x.cells 35)).alloc (.cells #[.string ⟨#[]⟩, .bool false] 40)).cell? ⟨W.heap.size + 1, 13, none⟩ = some (.int .u64 (x.most : Int)) := (cell_of_heap h5).trans rfl
  have HB : Hid _ := And.intro h5 (And.intro h6 (And.intro hb3 hr))
  clear h0 h5 h6 hb3 hr
  go_enter Try.func14, Try.ntmps14
  go_wp2_with (go_at_call 37; refine (href _).mono ?_; rintro e w1 ⟨rfl, hb1⟩; clear href; obtain ⟨h5, h6, hb3, hr⟩ := HB.out; have j5 := kept_block h5 hb1; have j6 := kept_block h6 hb1; have hB1 := below_next hb3 hb1; have hR1 : RAt w1 (some g) st := RAt.keep hr hB1; have HB1 : Hid _ := And.intro j5 (And.intro j6 (And.intro hB1 hR1)); clear h5 h6 hb3 hr j5 j6 hB1 hR1)
  obtain ⟨j5, j6, hB1, hR1⟩ := HB1.out
  have hs1 := lt_of_some j6
  have hby : Below w1.heap.size w1 ((w1.alloc (.cells #[.int .u32 (b0 : Int), .int .u32 (b1 : Int), .int .u32 (b2 : Int), .int .u32 (b3 : Int), .int .u32 (b4 : Int), .int .u32 (b5 : Int), .int .u32 (b6 : Int), .int .u32 (b7 : Int)] 33)).alloc (.cells #[.string X', .bool f'] 40)) := ((Below.refl _ w1).alloc (Nat.le_refl _) _).alloc (by simp) _
  have hTY : TF ((w1.alloc (.cells #[.int .u32 (b0 : Int), .int .u32 (b1 : Int), .int .u32 (b2 : Int), .int .u32 (b3 : Int), .int .u32 (b4 : Int), .int .u32 (b5 : Int), .int .u32 (b6 : Int), .int .u32 (b7 : Int)] 33)).alloc (.cells #[.string X', .bool f'] 40)) (w1.heap.size + 1) w1.heap.size (W.heap.size + 1) (W.heap.size + 2) g #[.string X', .bool f'] 33 #[.int .u32 (b0 : Int), .int .u32 (b1 : Int), .int .u32 (b2 : Int), .int .u32 (b3 : Int), .int .u32 (b4 : Int), .int .u32 (b5 : Int), .int .u32 (b6 : Int), .int .u32 (b7 : Int)] x st #[.string ⟨#[]⟩, .bool false] := ⟨(by have := heap_alloc_last (w1.alloc (.cells #[.int .u32 (b0 : Int), .int .u32 (b1 : Int), .int .u32 (b2 : Int), .int .u32 (b3 : Int), .int .u32 (b4 : Int), .int .u32 (b5 : Int), .int .u32 (b6 : Int), .int .u32 (b7 : Int)] 33)) (.cells #[.string X', .bool f'] 40); rw [World.size_alloc] at this; exact this), (kept_alloc (heap_alloc_last w1 _) _), (kept_alloc (kept_alloc j5 _) _), (kept_alloc (kept_alloc j6 _) _), RAt.keep hR1 hby⟩
  have hKY : Keeps W.heap.size (some g) W ((w1.alloc (.cells #[.int .u32 (b0 : Int), .int .u32 (b1 : Int), .int .u32 (b2 : Int), .int .u32 (b3 : Int), .int .u32 (b4 : Int), .int .u32 (b5 : Int), .int .u32 (b6 : Int), .int .u32 (b7 : Int)] 33)).alloc (.cells #[.string X', .bool f'] 40)) := (below_next hB1 hby).keeps (some g) _ (Nat.le_refl _)
  have hn1 : (w1.heap.size + 1) ≠ g := by omega
  have hn2 : w1.heap.size ≠ g := by omega
  have hn3 : W.heap.size + 1 ≠ g := by omega
  have hn4 : W.heap.size + 2 ≠ g := by omega
  have hn5 : (w1.heap.size + 1) ≠ W.heap.size + 2 := by omega
  have hn6 : w1.heap.size ≠ W.heap.size + 2 := by omega
  clear HB HB1 j5 j6 hB1 hR1 hby
  generalize (w1.alloc (.cells #[.int .u32 (b0 : Int), .int .u32 (b1 : Int), .int .u32 (b2 : Int), .int .u32 (b3 : Int), .int .u32 (b4 : Int), .int .u32 (b5 : Int), .int .u32 (b6 : Int), .int .u32 (b7 : Int)] 33)).alloc (.cells #[.string X', .bool f'] 40) = Y at *
  have HTY : Hid (TF Y (w1.heap.size + 1) w1.heap.size (W.heap.size + 1) (W.heap.size + 2) g #[.string X', .bool f'] 33 #[.int .u32 (b0 : Int), .int .u32 (b1 : Int), .int .u32 (b2 : Int), .int .u32 (b3 : Int), .int .u32 (b4 : Int), .int .u32 (b5 : Int), .int .u32 (b6 : Int), .int .u32 (b7 : Int)] x st #[.string ⟨#[]⟩, .bool false]) := hTY
  have hTa := HTY.out.drew
  have hTb := (HTY.out.store hn5 hn6 (by omega) hn4 (.string X') (.bool f')).drew
  have hKa := hKY.drew
  have hKb := (((hKY.setOwn ⟨W.heap.size + 2, 0, none⟩ (by simp) (.string X')).setOwn ⟨W.heap.size + 2, 1, none⟩ (by simp) (.bool f'))).drew
  have HAB : Hid _ := And.intro hTa (And.intro hTb (And.intro hKa hKb))
  obtain ⟨r0, r1⟩ := HTY.out.rowcells
  obtain ⟨z0, z1, z2, z3⟩ := HTY.out.rescells
  have m1 := HTY.out.itemcells
  obtain ⟨q0, q1, q2, q3, q4, q5, q6, q7⟩ := cells8 HTY.out.ans _ _ _ _ _ _ _ _ rfl
  clear hTa hTb hKa hKb hTY hKY
  go_region_with (go_at_call 21; first | ((with_reducible refine (hrd _ HAB.out.1.rd).mono ?_); rintro e w2 ⟨rfl, h2, hk2⟩; have HT2 : Hid (TF w2 (w1.heap.size + 1) w1.heap.size (W.heap.size + 1) (W.heap.size + 2) g #[.string X', .bool f'] 33 #[.int .u32 (b0 : Int), .int .u32 (b1 : Int), .int .u32 (b2 : Int), .int .u32 (b3 : Int), .int .u32 (b4 : Int), .int .u32 (b5 : Int), .int .u32 (b6 : Int), .int .u32 (b7 : Int)] x st' #[.string ⟨#[]⟩, .bool false]) := HAB.out.1.call (by decide) hk2 h2 hn1 hn2 hn3 hn4; have HK : Hid (Keeps W.heap.size (some g) W w2) := HAB.out.2.2.1.trans (hk2.mono HAB.out.2.2.1.size); obtain ⟨r0, r1⟩ := HT2.out.rowcells; obtain ⟨z0, z1, z2, z3⟩ := HT2.out.rescells; have m1 := HT2.out.itemcells; obtain ⟨q0, q1, q2, q3, q4, q5, q6, q7⟩ := cells8 HT2.out.ans _ _ _ _ _ _ _ _ rfl; clear h2 hk2) | ((with_reducible refine (hrd _ HAB.out.2.1.rd).mono ?_); rintro e w2 ⟨rfl, h2, hk2⟩; have HT2 : Hid (TF w2 (w1.heap.size + 1) w1.heap.size (W.heap.size + 1) (W.heap.size + 2) g #[.string X', .bool f'] 33 #[.int .u32 (b0 : Int), .int .u32 (b1 : Int), .int .u32 (b2 : Int), .int .u32 (b3 : Int), .int .u32 (b4 : Int), .int .u32 (b5 : Int), .int .u32 (b6 : Int), .int .u32 (b7 : Int)] x st' #[.string X', .bool f']) := HAB.out.2.1.call (by decide) hk2 h2 hn1 hn2 hn3 hn4; have HK : Hid (Keeps W.heap.size (some g) W w2) := HAB.out.2.2.2.trans (hk2.mono HAB.out.2.2.2.size); obtain ⟨r0, r1⟩ := HT2.out.rowcells; obtain ⟨z0, z1, z2, z3⟩ := HT2.out.rescells; have m1 := HT2.out.itemcells; obtain ⟨q0, q1, q2, q3, q4, q5, q6, q7⟩ := cells8 HT2.out.ans _ _ _ _ _ _ _ _ rfl; clear h2 hk2))
  all_goals
    go_wp2
    first
      | exact bodyPost_ret (v := .tuple #[.agg #[.string X', .bool f'], .bool true]) (results_row_tmp rfl _ _ (W.heap.size + 2) 40 #[.string X', .bool f'] (0, 0) _ _ rfl rfl HT2.out.res Try.underlying40 rfl (by kernel_rfl)) rfl ⟨rfl, HT2.out.rd, HK.out⟩
      | exact bodyPost_ret (v := .tuple #[.agg #[.string X', .bool f'], .bool true]) (results_row_tmp rfl _ _ (W.heap.size + 2) 40 #[.string X', .bool f'] (0, 0) _ _ rfl rfl (set2_heap HT2.out.res _ _) Try.underlying40 rfl (by kernel_rfl)) rfl ⟨rfl, RAt.setOwn (RAt.setOwn HT2.out.rd (by simpa using hn4) _) (by simpa using hn4) _, (HK.out.setOwn _ (by simp <;> omega) _).setOwn _ (by simp <;> omega) _⟩

end Go.Proofs.Ytimemfkhmfhffaa
