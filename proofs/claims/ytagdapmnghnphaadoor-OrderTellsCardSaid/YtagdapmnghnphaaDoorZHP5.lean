/-
  Rows that the document speaks of: the walk.
-/
import Derived.Test.YtagdapmnghnphaaDoorML
namespace Go.Proofs.YtagdapmnghnphaaDoor.V
set_option linter.unusedVariables false
set_option linter.unusedSimpArgs false
set_option maxRecDepth 100000
open Go Go.RowKit Go.Maps Wire

theorem law_genA (W : World) : Calls Tryd.prog 27 #[.int .u8 0, .int .u32 1, .agg #[.int .u32 0, .int .u32 0, .int .u32 0, .int .u32 0, .int .u32 0, .int .u32 0, .int .u32 0, .int .u32 0], .int .u64 1] W fun e w' => e = .returned (.agg (oc hA.1)) ∧ Below W.heap.size W w' := law_genesis 0 1 z8 1 W
theorem law_genB (W : World) : Calls Tryd.prog 27 #[.int .u8 1, .int .u32 1, .agg #[.int .u32 0, .int .u32 0, .int .u32 0, .int .u32 0, .int .u32 0, .int .u32 0, .int .u32 0, .int .u32 0], .int .u64 1] W fun e w' => e = .returned (.agg (oc hB.1)) ∧ Below W.heap.size W w' := law_genesis 1 1 z8 1 W
theorem law_genC (W : World) : Calls Tryd.prog 27 #[.int .u8 0, .int .u32 2, .agg #[.int .u32 1, .int .u32 1, .int .u32 0, .int .u32 0, .int .u32 0, .int .u32 0, .int .u32 0, .int .u32 0], .int .u64 2] W fun e w' => e = .returned (.agg (oc hC.1)) ∧ Below W.heap.size W w' := law_genesis 0 2 oneone 2 W
/-- The three boxes. -/
structure Box3 (W0 : World) (x y z : OpM) (b c d : Nat) (W : World) : Prop where
  a : OpAt W b x
  b : OpAt W c y
  c : OpAt W d z
  below : Below W0.heap.size W0 W
theorem Box3.keep {W0 W W' : World} {x y z : OpM} {b c d : Nat} (h : Box3 W0 x y z b c d W) (hB : Below W.heap.size W W') : Box3 W0 x y z b c d W' := ⟨h.a.keep hB, h.b.keep hB, h.c.keep hB, below_next h.below hB⟩
theorem box_new (w : World) (x : Obj) : Below w.heap.size w (w.alloc x) := below_al _ _
theorem box3_stored {W0 w : World} (hB : Below W0.heap.size W0 w) (x y z : OpM) :
    Box3 W0 x y z w.heap.size (w.heap.size + 1) (w.heap.size + 2) (((((w.alloc (.cells (oc zeroO) 34)).alloc (.cells (oc zeroO) 34)).alloc (.cells (oc zeroO) 34)).setRow w.heap.size (oc x)).setRow (w.heap.size + 1) (oc y) |>.setRow (w.heap.size + 2) (oc z)) := by
  have h1 : (((w.alloc (.cells (oc zeroO) 34)).alloc (.cells (oc zeroO) 34)).alloc (.cells (oc zeroO) 34)).heap[w.heap.size]? = some (.cells (oc zeroO) 34 (0, 0)) := heap_al (heap_al (heap_alloc_last' _ _) _) _
  have h2 : (((w.alloc (.cells (oc zeroO) 34)).alloc (.cells (oc zeroO) 34)).alloc (.cells (oc zeroO) 34)).heap[w.heap.size + 1]? = some (.cells (oc zeroO) 34 (0, 0)) := by
    have := heap_alloc_last' (w.alloc (.cells (oc zeroO) 34)) (.cells (oc zeroO) 34)
    rw [World.size_alloc] at this
    exact heap_al this _
  have h3 : (((w.alloc (.cells (oc zeroO) 34)).alloc (.cells (oc zeroO) 34)).alloc (.cells (oc zeroO) 34)).heap[w.heap.size + 2]? = some (.cells (oc zeroO) 34 (0, 0)) := by
    have := heap_alloc_last' ((w.alloc (.cells (oc zeroO) 34)).alloc (.cells (oc zeroO) 34)) (.cells (oc zeroO) 34)
    rw [World.size_alloc, World.size_alloc] at this
    exact this
  have hle : W0.heap.size ≤ w.heap.size := hB.size
  refine ⟨?_, ?_, ?_, ?_⟩
  · exact row_ne (row_ne (heap_row h1) (by omega)) (by omega)
  · exact row_ne (heap_row (row_ne h2 (by omega))) (by omega)
  · exact heap_row (row_ne (row_ne h3 (by omega)) (by omega))
  · refine Below.setRow (Below.setRow (Below.setRow (hB.trans ?_) hle _) (by omega) _) (by omega) _
    exact ((((Below.refl _ w).alloc (Nat.le_refl _) _).alloc (by simp) _).alloc (by simp; omega) _).mono hle
theorem row3 {W : World} (x y z : OC) (hx : okO x.1 ∧ x.1.lv = .slice none 0 0 ∧ x.2 = []) (hy : okO y.1 ∧ y.1.lv = .slice none 0 0 ∧ y.2 = []) (hz : okO z.1 ∧ z.1.lv = .slice none 0 0 ∧ z.2 = []) :
    OpsV (W.alloc (.cells (oc x.1 ++ oc y.1 ++ oc z.1) 34)) (.slice (some ⟨W.heap.size, 0, none⟩) 3 3) [x, y, z] := by
  refine row_opsV (l := [x, y, z]) (heap_alloc_last' _ _) (by simp [flatO]) (by simp) (fun q hq => ?_)
  simp only [List.mem_cons, List.not_mem_nil, or_false] at hq
  rcases hq with rfl | rfl | rfl
  · exact ⟨hx.1, by rw [hx.2.1, hx.2.2]; exact ClaimsB.nil _ _⟩
  · exact ⟨hy.1, by rw [hy.2.1, hy.2.2]; exact ClaimsB.nil _ _⟩
  · exact ⟨hz.1, by rw [hz.2.1, hz.2.2]; exact ClaimsB.nil _ _⟩
theorem row2 {W : World} (x y : OC) (hx : okO x.1 ∧ x.1.lv = .slice none 0 0 ∧ x.2 = []) (hy : okO y.1 ∧ y.1.lv = .slice none 0 0 ∧ y.2 = []) :
    OpsV (W.alloc (.cells (oc x.1 ++ oc y.1) 34)) (.slice (some ⟨W.heap.size, 0, none⟩) 2 2) [x, y] := by
  refine row_opsV (l := [x, y]) (heap_alloc_last' _ _) (by simp [flatO]) (by simp) (fun q hq => ?_)
  simp only [List.mem_cons, List.not_mem_nil, or_false] at hq
  rcases hq with rfl | rfl
  · exact ⟨hx.1, by rw [hx.2.1, hx.2.2]; exact ClaimsB.nil _ _⟩
  · exact ⟨hy.1, by rw [hy.2.1, hy.2.2]; exact ClaimsB.nil _ _⟩
theorem fA : okO hA.1 ∧ hA.1.lv = .slice none 0 0 ∧ hA.2 = [] := ⟨h_okA, rfl, rfl⟩
theorem fB : okO hB.1 ∧ hB.1.lv = .slice none 0 0 ∧ hB.2 = [] := ⟨h_okB, rfl, rfl⟩
theorem fC : okO hC.1 ∧ hC.1.lv = .slice none 0 0 ∧ hC.2 = [] := ⟨h_okC, rfl, rfl⟩


theorem c_cmp (W : World) : Calls Tryd.prog 10 #[.agg (oc hA.1), .agg (oc hB.1)] W fun e w' => e = .returned (.int .i64 (-1)) ∧ Below W.heap.size W w' := h_cmp ▸ order_Compare hA hB W
theorem c_bef (W : World) : Calls Tryd.prog 12 #[.agg (oc hA.1), .agg (oc hC.1)] W fun e w' => e = .returned (.bool true) ∧ Below W.heap.size W w' := h_bef ▸ order_Before hA hC W
theorem c_bes (W : World) : Calls Tryd.prog 14 #[.agg (oc hA.1), .agg (oc hB.1)] W fun e w' => e = .returned (.bool true) ∧ Below W.heap.size W w' := h_bes ▸ order_Beside hA hB W
theorem c_besA (W : World) : Calls Tryd.prog 14 #[.agg (oc hA.1), .agg (oc hA.1)] W fun e w' => e = .returned (.bool false) ∧ Below W.heap.size W w' := h_besA ▸ order_Beside hA hA W
theorem c_sort (v : Value) (W : World) (hv : OpsV W v [hC, hB, hA]) : Calls Tryd.prog 19 #[v] W fun e w' => ∃ u s', e = .returned u ∧ OpsV w' u s' ∧ s'.map core = [hA, hB, hC].map core ∧ Below W.heap.size W w' :=
  (order_Sort v [hC, hB, hA] W hv (by simp) (fun x hx => by
    simp only [List.mem_cons, List.not_mem_nil, or_false] at hx
    rcases hx with rfl | rfl | rfl <;> exact Nat.zero_le _)).mono fun e w' ⟨u, s, s', he, ho, hs, hc, hb⟩ => ⟨u, s', he, ho.opsV, by rw [hc, hs.uniq h_sort], hb⟩
theorem c_known (v : Value) (W : World) (hv : OpsV W v [hA, hC]) : Calls Tryd.prog 23 #[v] W fun e w' => e = .returned (.agg #[.int .u32 2, .int .u32 0, .int .u32 0, .int .u32 0, .int .u32 0, .int .u32 0, .int .u32 0, .int .u32 0]) ∧ Below W.heap.size W w' := by
  have h := order_Known v [hA, hC] W hv
  rw [h_known] at h
  exact h
theorem c_h1 (v : Value) (W : World) (hv : OpsV W v [hA, hB, hC]) (hT : Tab W) : Calls Tryd.prog 25 #[v, .int .i64 2] W fun e w' => e = .returned (.int .i64 0) ∧ Below W.heap.size W w' := h_hist ▸ order_History v [hA, hB, hC] 2 W hv hT (by simp)
theorem c_h2 (v : Value) (W : World) (hv : OpsV W v [hC, hB]) (hT : Tab W) : Calls Tryd.prog 25 #[v, .int .i64 2] W fun e w' => e = .returned (.int .i64 9) ∧ Below W.heap.size W w' := h_histCB ▸ order_History v [hC, hB] 2 W hv hT (by simp)
theorem c_h3 (v : Value) (W : World) (hv : OpsV W v [hA, hC]) (hT : Tab W) : Calls Tryd.prog 25 #[v, .int .i64 2] W fun e w' => e = .returned (.int .i64 9) ∧ Below W.heap.size W w' := h_histAC ▸ order_History v [hA, hC] 2 W hv hT (by simp)
theorem c_h4 (v : Value) (W : World) (hv : OpsV W v [hA, hB, hC]) (hT : Tab W) : Calls Tryd.prog 25 #[v, .int .i64 1] W fun e w' => e = .returned (.int .i64 5) ∧ Below W.heap.size W w' := h_hist1 ▸ order_History v [hA, hB, hC] 1 W hv hT (by simp)
abbrev zO : Obj := .cells (oc zeroO) 34 (0, 0)
theorem box3_h1 (w : World) : (((w.alloc zO).alloc zO).alloc zO).heap[w.heap.size]? = some (.cells (oc zeroO) 34 (0, 0)) := heap_al (heap_al (heap_alloc_last' _ _) _) _
theorem box3_h2 (w : World) (x : OpM) : ((((w.alloc zO).alloc zO).alloc zO).setRow w.heap.size (oc x)).heap[w.heap.size + 1]? = some (.cells (oc zeroO) 34 (0, 0)) := by
  refine row_ne ?_ (by omega)
  have := heap_alloc_last' (w.alloc zO) zO
  rw [World.size_alloc] at this
  exact heap_al this _
theorem box3_h3 (w : World) (x y : OpM) : (((((w.alloc zO).alloc zO).alloc zO).setRow w.heap.size (oc x)).setRow (w.heap.size + 1) (oc y)).heap[w.heap.size + 1 + 1]? = some (.cells (oc zeroO) 34 (0, 0)) := by
  refine row_ne (row_ne ?_ (by omega)) (by omega)
  have := heap_alloc_last' ((w.alloc zO).alloc zO) zO
  rw [World.size_alloc, World.size_alloc] at this
  exact this

/-- What the sorted row is. -/
def SrtP (v : Value) (w : World) : Prop := ∃ s' : List OC, OpsV w v s' ∧ s'.map core = [hA, hB, hC].map core
theorem srtP_keep {v : Value} {w w' : World} (h : SrtP v w) (hB : Below w.heap.size w w') : SrtP v w' := by obtain ⟨s', h1, h2⟩ := h; exact ⟨s', h1.keep hB, h2⟩
theorem c_sortP (v : Value) (W : World) (hv : OpsV W v [hC, hB, hA]) : Calls Tryd.prog 19 #[v] W fun e w' => ∃ c, e = .returned c ∧ SrtP c w' ∧ Below W.heap.size W w' :=
  (c_sort v W hv).mono fun e w' ⟨u, s', he, ho, hc, hb⟩ => ⟨u, he, ⟨s', ho, hc⟩, hb⟩
theorem c_sameP (v u : Value) (W : World) (hv : SrtP v W) (hu : OpsV W u [hA, hB, hC]) : Calls Tryd.prog 18 #[v, u] W fun e w' => e = .returned (.bool true) ∧ Below W.heap.size W w' := by
  obtain ⟨s', h1, h2⟩ := hv
  exact law_same v u s' _ W h1 hu h2
theorem ld_at {w : World} {g : Nat} {o : OpM} (h : OpAt w g o) : (Instr.loadAt 34 (.pointer (some ⟨g, 0, none⟩))).run Tryd.prog w = .ok (.agg (oc o)) w := ldp_op (OpAt.in h)

theorem oneA : hA.1.lv.oneCell' = true := rfl
theorem oneB : hB.1.lv.oneCell' = true := rfl
theorem oneC : hC.1.lv.oneCell' = true := rfl
attribute [local irreducible] hA hB hC
set_option maxHeartbeats 4000000 in
theorem law_head (W0 : World) (hT : Tab W0) :
    Calls Tryd.prog 9 #[] W0 fun e w' => e = .returned (.bool true) ∧ Below W0.heap.size W0 w' := by
  have hgA := law_genA W0
  have HT := hid hT
  clear hT
  go_enter Tryd.func9, Tryd.ntmps9
  go_upto_region 2 with (first
    | (go_at_call 27; first
  | (refine hgA.mono ?_; rintro e w1 ⟨rfl, hb⟩; have hgB := law_genB w1; have HB := hid hb; clear hgA hb)
  | (refine hgB.mono ?_; rintro e w2 ⟨rfl, hb⟩; have hgC := law_genC w2; have HB2 := hid (below_next HB.out hb); clear hgB hb)
  | (refine hgC.mono ?_; rintro e w3 ⟨rfl, hb⟩; have HB3 := hid (below_next HB2.out hb); clear hgC hb))
    | (refine wpList_store_row rfl 34 (.tmp 1) (.tmp 5) rfl w3.heap.size (oc hA.1) rfl rfl 34 (oc zeroO) (box3_h1 w3) (opSize _) ((oc_size _).trans (oc_size _).symm) (oneO _ oneA) ?_)
    | (refine wpList_store_row rfl 34 (.tmp 2) (.tmp 7) rfl (w3.heap.size + 1) (oc hB.1) rfl rfl 34 (oc zeroO) (box3_h2 w3 hA.1) (opSize _) ((oc_size _).trans (oc_size _).symm) (oneO _ oneB) ?_)
    | (refine wpList_store_row rfl 34 (.tmp 3) (.tmp 9) rfl (w3.heap.size + 1 + 1) (oc hC.1) rfl rfl 34 (oc zeroO) (box3_h3 w3 hA.1 hB.1) (opSize _) ((oc_size _).trans (oc_size _).symm) (oneO _ oneC) ?_; refine gen_list (fun W => Box3 W0 hA.1 hB.1 hC.1 w3.heap.size (w3.heap.size + 1) (w3.heap.size + 1 + 1) W) (box3_stored HB3.out _ _ _) ?_; intro w4 hb4; have HBX := hid hb4; clear hb4))
  generalize w3.heap.size + 1 + 1 = r at HBX ⊢
  generalize w3.heap.size + 1 = q at HBX ⊢
  generalize w3.heap.size = p at HBX ⊢
  simp only [Act.put, List.setIfInBounds_toArray, List.set_cons_zero, List.set_cons_succ]
  have HTab := hid (HT.out.keep HBX.out.below)
  simp only [List.append_eq, List.cons_append, List.nil_append]
  refine wp_flow (fun _ => none) (Fa.eq (.agg (oc hA.1)) :: Fa.eq (.agg (oc hB.1)) :: Fa.eq (.int .i64 (-1)) :: Fa.eq (.bool (true)) :: Fa.eq (.bool (true)) :: Fa.eq (.agg (oc hA.1)) :: Fa.eq (.agg (oc hC.1)) :: Fa.eq (.bool (true)) :: Fa.eq (.bool (true)) :: Fa.eq (.bool (true)) :: Fa.eq (.agg (oc hA.1)) :: Fa.eq (.agg (oc hB.1)) :: Fa.eq (.bool (true)) :: Fa.eq (.bool (true)) :: Fa.eq (.bool (true)) :: Fa.eq (.agg (oc hA.1)) :: Fa.eq (.agg (oc hA.1)) :: Fa.eq (.bool (false)) :: Fa.eq (.bool (true)) :: Fa.eq (.bool (true)) :: Fa.eq (.bool (true)) :: Fa.eq (.agg (oc hC.1)) :: Fa.eq (.agg (oc hB.1)) :: Fa.eq (.agg (oc hA.1)) :: Fa.dep (fun v w => OpsV w v [hC, hB, hA]) :: Fa.dep SrtP :: Fa.eq (.agg (oc hA.1)) :: Fa.eq (.agg (oc hB.1)) :: Fa.eq (.agg (oc hC.1)) :: Fa.dep (fun v w => OpsV w v [hA, hB, hC]) :: Fa.eq (.bool (true)) :: Fa.eq (.bool (true)) :: Fa.eq (.bool (true)) :: Fa.eq (.agg (oc hA.1)) :: Fa.eq (.agg (oc hC.1)) :: Fa.dep (fun v w => OpsV w v [hA, hC]) :: Fa.eq (v2lit) :: Fa.eq (v2lit) :: Fa.eq (.bool (true)) :: Fa.eq (.bool (true)) :: Fa.eq (.bool (true)) :: Fa.eq (.agg (oc hA.1)) :: Fa.eq (.agg (oc hB.1)) :: Fa.eq (.agg (oc hC.1)) :: Fa.dep (fun v w => OpsV w v [hA, hB, hC]) :: Fa.eq (.int .i64 (0)) :: Fa.eq (.bool (true)) :: Fa.eq (.bool (true)) :: Fa.eq (.bool (true)) :: Fa.eq (.agg (oc hC.1)) :: Fa.eq (.agg (oc hB.1)) :: Fa.dep (fun v w => OpsV w v [hC, hB]) :: Fa.eq (.int .i64 (9)) :: Fa.eq (.bool (true)) :: Fa.eq (.bool (true)) :: Fa.eq (.bool (true)) :: Fa.eq (.agg (oc hA.1)) :: Fa.eq (.agg (oc hC.1)) :: Fa.dep (fun v w => OpsV w v [hA, hC]) :: Fa.eq (.int .i64 (9)) :: Fa.eq (.bool (true)) :: Fa.eq (.bool (true)) :: Fa.eq (.bool (true)) :: Fa.eq (.agg (oc hA.1)) :: Fa.eq (.agg (oc hB.1)) :: Fa.eq (.agg (oc hC.1)) :: Fa.dep (fun v w => OpsV w v [hA, hB, hC]) :: Fa.eq (.int .i64 (5)) :: Fa.eq (.bool (true)) :: Fa.eq (.bool (true)) :: Fa.eq (.bool (true)) :: []) 80 (by kernel_rfl) (by kernel_rfl) (by kernel_rfl) rfl (by kernel_rfl) ?_ ?_ ?_
  · exact ⟨trivial, trivial, trivial, trivial, trivial, trivial, trivial, trivial, trivial, trivial, trivial, trivial, trivial, trivial, trivial, trivial, trivial, trivial, trivial, trivial, trivial, trivial, trivial, trivial, ⟨fun _ => rfl, fun _ _ _ hb h => OpsV.keep h hb⟩, ⟨fun _ => rfl, fun _ _ _ hb h => srtP_keep h hb⟩, trivial, trivial, trivial, ⟨fun _ => rfl, fun _ _ _ hb h => OpsV.keep h hb⟩, trivial, trivial, trivial, trivial, trivial, ⟨fun _ => rfl, fun _ _ _ hb h => OpsV.keep h hb⟩, trivial, trivial, trivial, trivial, trivial, trivial, trivial, trivial, ⟨fun _ => rfl, fun _ _ _ hb h => OpsV.keep h hb⟩, trivial, trivial, trivial, trivial, trivial, trivial, ⟨fun _ => rfl, fun _ _ _ hb h => OpsV.keep h hb⟩, trivial, trivial, trivial, trivial, trivial, trivial, ⟨fun _ => rfl, fun _ _ _ hb h => OpsV.keep h hb⟩, trivial, trivial, trivial, trivial, trivial, trivial, trivial, ⟨fun _ => rfl, fun _ _ _ hb h => OpsV.keep h hb⟩, trivial, trivial, trivial, trivial, trivial⟩
  · refine ⟨?_, ?_, ?_, ?_, ?_, ?_, ?_, ?_, ?_, ?_, ?_, ?_, ?_, ?_, ?_, ?_, ?_, ?_, ?_, ?_, ?_, ?_, ?_, ?_, ?_, ?_, ?_, ?_, ?_, ?_, ?_, ?_, ?_, ?_, ?_, ?_, ?_, ?_, ?_, ?_, ?_, ?_, ?_, ?_, ?_, ?_, ?_, ?_, ?_, ?_, ?_, ?_, ?_, ?_, ?_, ?_, ?_, ?_, ?_, ?_, ?_, ?_, ?_, ?_, ?_, ?_, ?_, ?_, ?_, ?_, ?_, trivial⟩
    · exact v_load (u := .pointer (some ⟨p, 0, none⟩)) (c := .agg (oc hA.1)) rfl (fun w hB => ld_at (OpAt.keep HBX.out.a (below_next (below_dr _) hB))) rfl (by kernel_rfl) True.intro (Ev.out (by kernel_rfl) rfl)
    · exact v_load (u := .pointer (some ⟨q, 0, none⟩)) (c := .agg (oc hB.1)) rfl (fun w hB => ld_at (OpAt.keep HBX.out.b (below_next (below_dr _) hB))) rfl (by kernel_rfl) True.intro (Ev.out (by kernel_rfl) rfl)
    · exact v_call (vs := #[.agg (oc hA.1), .agg (oc hB.1)]) (c := .int .i64 (-1)) rfl (fun args w => rfl) (fun w hB => c_cmp w) rfl (by kernel_rfl) True.intro (ev2 (Ev.at (i := 0) (by kernel_rfl) (by kernel_rfl) rfl) (Ev.at (i := 1) (by kernel_rfl) (by kernel_rfl) rfl))
    · exact v_bin (u := .int .i64 (-1)) (v := .int .i64 (-1)) (c := .bool true) rfl (fun w => (by go_simp)) rfl (by kernel_rfl) True.intro (Ev.at (i := 2) (by kernel_rfl) (by kernel_rfl) rfl) Ev.const
    · exact v_move (.inl rfl) rfl (by kernel_rfl) True.intro (Ev.at (i := 3) (by kernel_rfl) (by kernel_rfl) rfl)
    · exact v_load (u := .pointer (some ⟨p, 0, none⟩)) (c := .agg (oc hA.1)) rfl (fun w hB => ld_at (OpAt.keep HBX.out.a (below_next (below_dr _) hB))) rfl (by kernel_rfl) ⟨rfl, (by kernel_rfl), (by kernel_rfl)⟩ (Ev.out (by kernel_rfl) rfl)
    · exact v_load (u := .pointer (some ⟨r, 0, none⟩)) (c := .agg (oc hC.1)) rfl (fun w hB => ld_at (OpAt.keep HBX.out.c (below_next (below_dr _) hB))) rfl (by kernel_rfl) ⟨rfl, (by kernel_rfl), (by kernel_rfl)⟩ (Ev.out (by kernel_rfl) rfl)
    · exact v_call (vs := #[.agg (oc hA.1), .agg (oc hC.1)]) (c := .bool (true)) rfl (fun args w => rfl) (fun w hB => c_bef w) rfl (by kernel_rfl) ⟨rfl, (by kernel_rfl), (by kernel_rfl)⟩ (ev2 (Ev.at (i := 5) (by kernel_rfl) (by kernel_rfl) rfl) (Ev.at (i := 6) (by kernel_rfl) (by kernel_rfl) rfl))
    · exact v_and (p := true) (q := true) rfl rfl (by kernel_rfl) True.intro (Ev.at (i := 4) (by kernel_rfl) (by kernel_rfl) rfl) (fun hp => (Ev.at (i := 7) (by kernel_rfl) (by kernel_rfl) rfl))
    · exact v_move (.inl rfl) rfl (by kernel_rfl) True.intro (Ev.at (i := 8) (by kernel_rfl) (by kernel_rfl) rfl)
    · exact v_load (u := .pointer (some ⟨p, 0, none⟩)) (c := .agg (oc hA.1)) rfl (fun w hB => ld_at (OpAt.keep HBX.out.a (below_next (below_dr _) hB))) rfl (by kernel_rfl) ⟨rfl, (by kernel_rfl), (by kernel_rfl)⟩ (Ev.out (by kernel_rfl) rfl)
    · exact v_load (u := .pointer (some ⟨q, 0, none⟩)) (c := .agg (oc hB.1)) rfl (fun w hB => ld_at (OpAt.keep HBX.out.b (below_next (below_dr _) hB))) rfl (by kernel_rfl) ⟨rfl, (by kernel_rfl), (by kernel_rfl)⟩ (Ev.out (by kernel_rfl) rfl)
    · exact v_call (vs := #[.agg (oc hA.1), .agg (oc hB.1)]) (c := .bool (true)) rfl (fun args w => rfl) (fun w hB => c_bes w) rfl (by kernel_rfl) ⟨rfl, (by kernel_rfl), (by kernel_rfl)⟩ (ev2 (Ev.at (i := 10) (by kernel_rfl) (by kernel_rfl) rfl) (Ev.at (i := 11) (by kernel_rfl) (by kernel_rfl) rfl))
    · exact v_and (p := true) (q := true) rfl rfl (by kernel_rfl) True.intro (Ev.at (i := 9) (by kernel_rfl) (by kernel_rfl) rfl) (fun hp => (Ev.at (i := 12) (by kernel_rfl) (by kernel_rfl) rfl))
    · exact v_move (.inl rfl) rfl (by kernel_rfl) True.intro (Ev.at (i := 13) (by kernel_rfl) (by kernel_rfl) rfl)
    · exact v_load (u := .pointer (some ⟨p, 0, none⟩)) (c := .agg (oc hA.1)) rfl (fun w hB => ld_at (OpAt.keep HBX.out.a (below_next (below_dr _) hB))) rfl (by kernel_rfl) ⟨rfl, (by kernel_rfl), (by kernel_rfl)⟩ (Ev.out (by kernel_rfl) rfl)
    · exact v_load (u := .pointer (some ⟨p, 0, none⟩)) (c := .agg (oc hA.1)) rfl (fun w hB => ld_at (OpAt.keep HBX.out.a (below_next (below_dr _) hB))) rfl (by kernel_rfl) ⟨rfl, (by kernel_rfl), (by kernel_rfl)⟩ (Ev.out (by kernel_rfl) rfl)
    · exact v_call (vs := #[.agg (oc hA.1), .agg (oc hA.1)]) (c := .bool (false)) rfl (fun args w => rfl) (fun w hB => c_besA w) rfl (by kernel_rfl) ⟨rfl, (by kernel_rfl), (by kernel_rfl)⟩ (ev2 (Ev.at (i := 15) (by kernel_rfl) (by kernel_rfl) rfl) (Ev.at (i := 16) (by kernel_rfl) (by kernel_rfl) rfl))
    · exact v_not (b := false) rfl rfl (by kernel_rfl) ⟨rfl, (by kernel_rfl), (by kernel_rfl)⟩ (Ev.at (i := 17) (by kernel_rfl) (by kernel_rfl) rfl)
    · exact v_and (p := true) (q := true) rfl rfl (by kernel_rfl) True.intro (Ev.at (i := 14) (by kernel_rfl) (by kernel_rfl) rfl) (fun hp => (Ev.at (i := 18) (by kernel_rfl) (by kernel_rfl) rfl))
    · exact v_move (.inl rfl) rfl (by kernel_rfl) True.intro (Ev.at (i := 19) (by kernel_rfl) (by kernel_rfl) rfl)
    · exact v_load (u := .pointer (some ⟨r, 0, none⟩)) (c := .agg (oc hC.1)) rfl (fun w hB => ld_at (OpAt.keep HBX.out.c (below_next (below_dr _) hB))) rfl (by kernel_rfl) ⟨rfl, (by kernel_rfl), (by kernel_rfl)⟩ (Ev.out (by kernel_rfl) rfl)
    · exact v_load (u := .pointer (some ⟨q, 0, none⟩)) (c := .agg (oc hB.1)) rfl (fun w hB => ld_at (OpAt.keep HBX.out.b (below_next (below_dr _) hB))) rfl (by kernel_rfl) ⟨rfl, (by kernel_rfl), (by kernel_rfl)⟩ (Ev.out (by kernel_rfl) rfl)
    · exact v_load (u := .pointer (some ⟨p, 0, none⟩)) (c := .agg (oc hA.1)) rfl (fun w hB => ld_at (OpAt.keep HBX.out.a (below_next (below_dr _) hB))) rfl (by kernel_rfl) ⟨rfl, (by kernel_rfl), (by kernel_rfl)⟩ (Ev.out (by kernel_rfl) rfl)
    · exact v_row3 rfl fC fB fA rfl (by kernel_rfl) ⟨rfl, (by kernel_rfl), (by kernel_rfl)⟩ (Ev.at (i := 21) (by kernel_rfl) (by kernel_rfl) rfl) (Ev.at (i := 22) (by kernel_rfl) (by kernel_rfl) rfl) (Ev.at (i := 23) (by kernel_rfl) (by kernel_rfl) rfl)
    · exact v_calld1 (p := fun v w => OpsV w v [hC, hB, hA]) (r := SrtP) rfl (fun args w => rfl) (fun v w hB hp => c_sortP v w hp) rfl (by kernel_rfl) ⟨rfl, (by kernel_rfl), (by kernel_rfl)⟩ (EvD.at (i := 24) (by kernel_rfl) (by kernel_rfl) rfl)
    · exact v_load (u := .pointer (some ⟨p, 0, none⟩)) (c := .agg (oc hA.1)) rfl (fun w hB => ld_at (OpAt.keep HBX.out.a (below_next (below_dr _) hB))) rfl (by kernel_rfl) ⟨rfl, (by kernel_rfl), (by kernel_rfl)⟩ (Ev.out (by kernel_rfl) rfl)
    · exact v_load (u := .pointer (some ⟨q, 0, none⟩)) (c := .agg (oc hB.1)) rfl (fun w hB => ld_at (OpAt.keep HBX.out.b (below_next (below_dr _) hB))) rfl (by kernel_rfl) ⟨rfl, (by kernel_rfl), (by kernel_rfl)⟩ (Ev.out (by kernel_rfl) rfl)
    · exact v_load (u := .pointer (some ⟨r, 0, none⟩)) (c := .agg (oc hC.1)) rfl (fun w hB => ld_at (OpAt.keep HBX.out.c (below_next (below_dr _) hB))) rfl (by kernel_rfl) ⟨rfl, (by kernel_rfl), (by kernel_rfl)⟩ (Ev.out (by kernel_rfl) rfl)
    · exact v_row3 rfl fA fB fC rfl (by kernel_rfl) ⟨rfl, (by kernel_rfl), (by kernel_rfl)⟩ (Ev.at (i := 26) (by kernel_rfl) (by kernel_rfl) rfl) (Ev.at (i := 27) (by kernel_rfl) (by kernel_rfl) rfl) (Ev.at (i := 28) (by kernel_rfl) (by kernel_rfl) rfl)
    · exact v_calle2 (p := SrtP) (q := fun v w => OpsV w v [hA, hB, hC]) (c := .bool true) rfl (fun args w => rfl) (fun v u w hB hp hq => c_sameP v u w hp hq) rfl (by kernel_rfl) ⟨rfl, (by kernel_rfl), (by kernel_rfl)⟩ (EvD.at (i := 25) (by kernel_rfl) (by kernel_rfl) rfl) (EvD.at (i := 29) (by kernel_rfl) (by kernel_rfl) rfl)
    · exact v_and (p := true) (q := true) rfl rfl (by kernel_rfl) True.intro (Ev.at (i := 20) (by kernel_rfl) (by kernel_rfl) rfl) (fun hp => (Ev.at (i := 30) (by kernel_rfl) (by kernel_rfl) rfl))
    · exact v_move (.inl rfl) rfl (by kernel_rfl) True.intro (Ev.at (i := 31) (by kernel_rfl) (by kernel_rfl) rfl)
    · exact v_load (u := .pointer (some ⟨p, 0, none⟩)) (c := .agg (oc hA.1)) rfl (fun w hB => ld_at (OpAt.keep HBX.out.a (below_next (below_dr _) hB))) rfl (by kernel_rfl) ⟨rfl, (by kernel_rfl), (by kernel_rfl)⟩ (Ev.out (by kernel_rfl) rfl)
    · exact v_load (u := .pointer (some ⟨r, 0, none⟩)) (c := .agg (oc hC.1)) rfl (fun w hB => ld_at (OpAt.keep HBX.out.c (below_next (below_dr _) hB))) rfl (by kernel_rfl) ⟨rfl, (by kernel_rfl), (by kernel_rfl)⟩ (Ev.out (by kernel_rfl) rfl)
    · exact v_row2 rfl fA fC rfl (by kernel_rfl) ⟨rfl, (by kernel_rfl), (by kernel_rfl)⟩ (Ev.at (i := 33) (by kernel_rfl) (by kernel_rfl) rfl) (Ev.at (i := 34) (by kernel_rfl) (by kernel_rfl) rfl)
    · exact v_calle1 (p := fun v w => OpsV w v [hA, hC]) (c := v2lit) rfl (fun args w => rfl) (fun v w hB hp => c_known v w hp) rfl (by kernel_rfl) ⟨rfl, (by kernel_rfl), (by kernel_rfl)⟩ (EvD.at (i := 35) (by kernel_rfl) (by kernel_rfl) rfl)
    · exact v_build2 rfl rfl (by kernel_rfl) ⟨rfl, (by kernel_rfl), (by kernel_rfl)⟩
    · exact v_bin (u := v2lit) (v := v2lit) (c := .bool true) rfl (fun w => (eq_2lit w)) rfl (by kernel_rfl) ⟨rfl, (by kernel_rfl), (by kernel_rfl)⟩ (Ev.at (i := 36) (by kernel_rfl) (by kernel_rfl) rfl) (Ev.at (i := 37) (by kernel_rfl) (by kernel_rfl) rfl)
    · exact v_and (p := true) (q := true) rfl rfl (by kernel_rfl) True.intro (Ev.at (i := 32) (by kernel_rfl) (by kernel_rfl) rfl) (fun hp => (Ev.at (i := 38) (by kernel_rfl) (by kernel_rfl) rfl))
    · exact v_move (.inl rfl) rfl (by kernel_rfl) True.intro (Ev.at (i := 39) (by kernel_rfl) (by kernel_rfl) rfl)
    · exact v_load (u := .pointer (some ⟨p, 0, none⟩)) (c := .agg (oc hA.1)) rfl (fun w hB => ld_at (OpAt.keep HBX.out.a (below_next (below_dr _) hB))) rfl (by kernel_rfl) ⟨rfl, (by kernel_rfl), (by kernel_rfl)⟩ (Ev.out (by kernel_rfl) rfl)
    · exact v_load (u := .pointer (some ⟨q, 0, none⟩)) (c := .agg (oc hB.1)) rfl (fun w hB => ld_at (OpAt.keep HBX.out.b (below_next (below_dr _) hB))) rfl (by kernel_rfl) ⟨rfl, (by kernel_rfl), (by kernel_rfl)⟩ (Ev.out (by kernel_rfl) rfl)
    · exact v_load (u := .pointer (some ⟨r, 0, none⟩)) (c := .agg (oc hC.1)) rfl (fun w hB => ld_at (OpAt.keep HBX.out.c (below_next (below_dr _) hB))) rfl (by kernel_rfl) ⟨rfl, (by kernel_rfl), (by kernel_rfl)⟩ (Ev.out (by kernel_rfl) rfl)
    · exact v_row3 rfl fA fB fC rfl (by kernel_rfl) ⟨rfl, (by kernel_rfl), (by kernel_rfl)⟩ (Ev.at (i := 41) (by kernel_rfl) (by kernel_rfl) rfl) (Ev.at (i := 42) (by kernel_rfl) (by kernel_rfl) rfl) (Ev.at (i := 43) (by kernel_rfl) (by kernel_rfl) rfl)
    · exact v_calle1c (p := fun v w => OpsV w v [hA, hB, hC]) (u := .int .i64 2) (c := .int .i64 0) rfl (fun args w => rfl) (fun v w hB hp => c_h1 v w hp (HTab.out.keep (below_next (below_dr _) hB))) rfl (by kernel_rfl) ⟨rfl, (by kernel_rfl), (by kernel_rfl)⟩ (EvD.at (i := 44) (by kernel_rfl) (by kernel_rfl) rfl) Ev.const
    · exact v_bin (u := .int .i64 (0)) (v := .int .i64 (0)) (c := .bool true) rfl (fun w => (by go_simp)) rfl (by kernel_rfl) ⟨rfl, (by kernel_rfl), (by kernel_rfl)⟩ (Ev.at (i := 45) (by kernel_rfl) (by kernel_rfl) rfl) Ev.const
    · exact v_and (p := true) (q := true) rfl rfl (by kernel_rfl) True.intro (Ev.at (i := 40) (by kernel_rfl) (by kernel_rfl) rfl) (fun hp => (Ev.at (i := 46) (by kernel_rfl) (by kernel_rfl) rfl))
    · exact v_move (.inl rfl) rfl (by kernel_rfl) True.intro (Ev.at (i := 47) (by kernel_rfl) (by kernel_rfl) rfl)
    · exact v_load (u := .pointer (some ⟨r, 0, none⟩)) (c := .agg (oc hC.1)) rfl (fun w hB => ld_at (OpAt.keep HBX.out.c (below_next (below_dr _) hB))) rfl (by kernel_rfl) ⟨rfl, (by kernel_rfl), (by kernel_rfl)⟩ (Ev.out (by kernel_rfl) rfl)
    · exact v_load (u := .pointer (some ⟨q, 0, none⟩)) (c := .agg (oc hB.1)) rfl (fun w hB => ld_at (OpAt.keep HBX.out.b (below_next (below_dr _) hB))) rfl (by kernel_rfl) ⟨rfl, (by kernel_rfl), (by kernel_rfl)⟩ (Ev.out (by kernel_rfl) rfl)
    · exact v_row2 rfl fC fB rfl (by kernel_rfl) ⟨rfl, (by kernel_rfl), (by kernel_rfl)⟩ (Ev.at (i := 49) (by kernel_rfl) (by kernel_rfl) rfl) (Ev.at (i := 50) (by kernel_rfl) (by kernel_rfl) rfl)
    · exact v_calle1c (p := fun v w => OpsV w v [hC, hB]) (u := .int .i64 2) (c := .int .i64 9) rfl (fun args w => rfl) (fun v w hB hp => c_h2 v w hp (HTab.out.keep (below_next (below_dr _) hB))) rfl (by kernel_rfl) ⟨rfl, (by kernel_rfl), (by kernel_rfl)⟩ (EvD.at (i := 51) (by kernel_rfl) (by kernel_rfl) rfl) Ev.const
    · exact v_bin (u := .int .i64 (9)) (v := .int .i64 (9)) (c := .bool true) rfl (fun w => (by go_simp)) rfl (by kernel_rfl) ⟨rfl, (by kernel_rfl), (by kernel_rfl)⟩ (Ev.at (i := 52) (by kernel_rfl) (by kernel_rfl) rfl) Ev.const
    · exact v_and (p := true) (q := true) rfl rfl (by kernel_rfl) True.intro (Ev.at (i := 48) (by kernel_rfl) (by kernel_rfl) rfl) (fun hp => (Ev.at (i := 53) (by kernel_rfl) (by kernel_rfl) rfl))
    · exact v_move (.inl rfl) rfl (by kernel_rfl) True.intro (Ev.at (i := 54) (by kernel_rfl) (by kernel_rfl) rfl)
    · exact v_load (u := .pointer (some ⟨p, 0, none⟩)) (c := .agg (oc hA.1)) rfl (fun w hB => ld_at (OpAt.keep HBX.out.a (below_next (below_dr _) hB))) rfl (by kernel_rfl) ⟨rfl, (by kernel_rfl), (by kernel_rfl)⟩ (Ev.out (by kernel_rfl) rfl)
    · exact v_load (u := .pointer (some ⟨r, 0, none⟩)) (c := .agg (oc hC.1)) rfl (fun w hB => ld_at (OpAt.keep HBX.out.c (below_next (below_dr _) hB))) rfl (by kernel_rfl) ⟨rfl, (by kernel_rfl), (by kernel_rfl)⟩ (Ev.out (by kernel_rfl) rfl)
    · exact v_row2 rfl fA fC rfl (by kernel_rfl) ⟨rfl, (by kernel_rfl), (by kernel_rfl)⟩ (Ev.at (i := 56) (by kernel_rfl) (by kernel_rfl) rfl) (Ev.at (i := 57) (by kernel_rfl) (by kernel_rfl) rfl)
    · exact v_calle1c (p := fun v w => OpsV w v [hA, hC]) (u := .int .i64 2) (c := .int .i64 9) rfl (fun args w => rfl) (fun v w hB hp => c_h3 v w hp (HTab.out.keep (below_next (below_dr _) hB))) rfl (by kernel_rfl) ⟨rfl, (by kernel_rfl), (by kernel_rfl)⟩ (EvD.at (i := 58) (by kernel_rfl) (by kernel_rfl) rfl) Ev.const
    · exact v_bin (u := .int .i64 (9)) (v := .int .i64 (9)) (c := .bool true) rfl (fun w => (by go_simp)) rfl (by kernel_rfl) ⟨rfl, (by kernel_rfl), (by kernel_rfl)⟩ (Ev.at (i := 59) (by kernel_rfl) (by kernel_rfl) rfl) Ev.const
    · exact v_and (p := true) (q := true) rfl rfl (by kernel_rfl) True.intro (Ev.at (i := 55) (by kernel_rfl) (by kernel_rfl) rfl) (fun hp => (Ev.at (i := 60) (by kernel_rfl) (by kernel_rfl) rfl))
    · exact v_move (.inl rfl) rfl (by kernel_rfl) True.intro (Ev.at (i := 61) (by kernel_rfl) (by kernel_rfl) rfl)
    · exact v_load (u := .pointer (some ⟨p, 0, none⟩)) (c := .agg (oc hA.1)) rfl (fun w hB => ld_at (OpAt.keep HBX.out.a (below_next (below_dr _) hB))) rfl (by kernel_rfl) ⟨rfl, (by kernel_rfl), (by kernel_rfl)⟩ (Ev.out (by kernel_rfl) rfl)
    · exact v_load (u := .pointer (some ⟨q, 0, none⟩)) (c := .agg (oc hB.1)) rfl (fun w hB => ld_at (OpAt.keep HBX.out.b (below_next (below_dr _) hB))) rfl (by kernel_rfl) ⟨rfl, (by kernel_rfl), (by kernel_rfl)⟩ (Ev.out (by kernel_rfl) rfl)
    · exact v_load (u := .pointer (some ⟨r, 0, none⟩)) (c := .agg (oc hC.1)) rfl (fun w hB => ld_at (OpAt.keep HBX.out.c (below_next (below_dr _) hB))) rfl (by kernel_rfl) ⟨rfl, (by kernel_rfl), (by kernel_rfl)⟩ (Ev.out (by kernel_rfl) rfl)
    · exact v_row3 rfl fA fB fC rfl (by kernel_rfl) ⟨rfl, (by kernel_rfl), (by kernel_rfl)⟩ (Ev.at (i := 63) (by kernel_rfl) (by kernel_rfl) rfl) (Ev.at (i := 64) (by kernel_rfl) (by kernel_rfl) rfl) (Ev.at (i := 65) (by kernel_rfl) (by kernel_rfl) rfl)
    · exact v_calle1c (p := fun v w => OpsV w v [hA, hB, hC]) (u := .int .i64 1) (c := .int .i64 5) rfl (fun args w => rfl) (fun v w hB hp => c_h4 v w hp (HTab.out.keep (below_next (below_dr _) hB))) rfl (by kernel_rfl) ⟨rfl, (by kernel_rfl), (by kernel_rfl)⟩ (EvD.at (i := 66) (by kernel_rfl) (by kernel_rfl) rfl) Ev.const
    · exact v_bin (u := .int .i64 (5)) (v := .int .i64 (5)) (c := .bool true) rfl (fun w => (by go_simp)) rfl (by kernel_rfl) ⟨rfl, (by kernel_rfl), (by kernel_rfl)⟩ (Ev.at (i := 67) (by kernel_rfl) (by kernel_rfl) rfl) Ev.const
    · exact v_and (p := true) (q := true) rfl rfl (by kernel_rfl) True.intro (Ev.at (i := 62) (by kernel_rfl) (by kernel_rfl) rfl) (fun hp => (Ev.at (i := 68) (by kernel_rfl) (by kernel_rfl) rfl))
    · exact v_move (.inr rfl) rfl (by kernel_rfl) True.intro (Ev.at (i := 69) (by kernel_rfl) (by kernel_rfl) rfl)
  intro _ vs W2 hB2 hf
  have e70 : vs 70 = .bool (true) := hf 70 (by decide)
  simp only [fill, List.setIfInBounds_toArray, List.set_cons_zero, List.set_cons_succ, e70]
  have HE := hid (below_next HBX.out.below hB2)
  clear hB2 hf
  go_wp2
  go_ret
  exact ⟨rfl, HE.out⟩
end Go.Proofs.YtagdapmnghnphaaDoor.V
