/-
  Contracts of the document's answer for package wire: what is read.
-/
import Derived.Test.YtdhdfngaldfdjaaDoorWireG
namespace Go.Proofs.YtdhdfngaldfdjaaDoor
open Go Go.RowKit Wire

set_option maxRecDepth 100000
set_option linter.unusedVariables false
set_option linter.unusedSimpArgs false
theorem results_tmp_row {P : Program} {fn : Func} {u p : Tmp} {ty : TypeId} (h : fn.results = #[.tmp u, .cell p ty]) (tmps : Array Value) (w : World) (g : Nat) (t : TypeId) (cs : Array Value) (fr : Nat × Nat) (d : TypeDesc) (v : Value)
    (hv : tmps.getD u undef = v) (hp : tmps.getD p undef = .pointer (some ⟨g, 0, none⟩)) (hg : w.heap[g]? = some (.cells cs t fr))
    (hu : P.underlying ty = some d) (hd : (match d with | .struct _ | .array _ _ => true | _ => false) = true) (hi : (P.info? ty).map (·.size) = some cs.size) :
    (results fn tmps).run P w = .ok (.tuple #[v, .agg cs]) w := by
  have hp' : tmps[p]?.getD undef = .pointer (some ⟨g, 0, none⟩) := by simpa using hp
  have hv' : tmps[u]?.getD undef = v := by simpa using hv
  simp [results, h, hp', hv', asAddr, run_loadVar_row w g t ty cs fr d hg hu hd hi]
theorem results_row_tmp {P : Program} {fn : Func} {u p : Tmp} {ty : TypeId} (h : fn.results = #[.cell p ty, .tmp u]) (tmps : Array Value) (w : World) (g : Nat) (t : TypeId) (cs : Array Value) (fr : Nat × Nat) (d : TypeDesc) (v : Value)
    (hv : tmps.getD u undef = v) (hp : tmps.getD p undef = .pointer (some ⟨g, 0, none⟩)) (hg : w.heap[g]? = some (.cells cs t fr))
    (hu : P.underlying ty = some d) (hd : (match d with | .struct _ | .array _ _ => true | _ => false) = true) (hi : (P.info? ty).map (·.size) = some cs.size) :
    (results fn tmps).run P w = .ok (.tuple #[.agg cs, v]) w := by
  have hp' : tmps[p]?.getD undef = .pointer (some ⟨g, 0, none⟩) := by simpa using hp
  have hv' : tmps[u]?.getD undef = v := by simpa using hv
  simp [results, h, hp', hv', asAddr, run_loadVar_row w g t ty cs fr d hg hu hd hi]
theorem results_two_rows {P : Program} {fn : Func} {p q : Tmp} {ty ty' : TypeId} (h : fn.results = #[.cell p ty, .cell q ty']) (tmps : Array Value) (w : World) (g g' : Nat) (t t' : TypeId) (cs cs' : Array Value) (fr fr' : Nat × Nat) (d d' : TypeDesc)
    (hp : tmps.getD p undef = .pointer (some ⟨g, 0, none⟩)) (hg : w.heap[g]? = some (.cells cs t fr))
    (hu : P.underlying ty = some d) (hd : (match d with | .struct _ | .array _ _ => true | _ => false) = true) (hi : (P.info? ty).map (·.size) = some cs.size)
    (hp2 : tmps.getD q undef = .pointer (some ⟨g', 0, none⟩)) (hg2 : w.heap[g']? = some (.cells cs' t' fr'))
    (hu2 : P.underlying ty' = some d') (hd2 : (match d' with | .struct _ | .array _ _ => true | _ => false) = true) (hi2 : (P.info? ty').map (·.size) = some cs'.size) :
    (results fn tmps).run P w = .ok (.tuple #[.agg cs, .agg cs']) w := by
  have hp' : tmps[p]?.getD undef = .pointer (some ⟨g, 0, none⟩) := by simpa using hp
  have hq' : tmps[q]?.getD undef = .pointer (some ⟨g', 0, none⟩) := by simpa using hp2
  simp [results, h, hp', hq', asAddr, run_loadVar_row w g t ty cs fr d hg hu hd hi, run_loadVar_row w g' t' ty' cs' fr' d' hg2 hu2 hd2 hi2]

theorem first_two (W : World) (a b : Obj) : ((W.alloc a).alloc b).heap[W.heap.size]? = some a := (Below.heap_alloc _ _ _ (by simp)).trans (heap_alloc_last W a)
theorem set2_heap {w : World} {g : Nat} {z0 z1 : Value} {t : TypeId} (h : w.heap[g]? = some (.cells #[z0, z1] t (0, 0))) (a0 a1 : Value) :
    ((w.setCell ⟨g, 0, none⟩ a0).setCell ⟨g, 1, none⟩ a1).heap[g]? = some (.cells #[a0, a1] t (0, 0)) := by
  have h0 : (w.setCell ⟨g, 0, none⟩ a0).heap[g]? = some (.cells #[a0, z1] t (0, 0)) := by rw [heap_setCell_same w g 0 _ _ a0 h]; simp
  rw [heap_setCell_same _ g 1 _ _ a1 h0]; simp

theorem ref_failed (W : World) :
    Calls Tryd.prog 69 #[] W fun e w' => e = .returned (.agg #[.string ⟨#[]⟩, .bool false]) ∧ Below W.heap.size W w' := by
  go_enter Tryd.func69, Tryd.ntmps69
  go_wp2
  exact bodyPost_ret (v := .agg #[.string ⟨#[]⟩, .bool false]) (results_cell_row rfl _ _ W.heap.size 85 #[.string ⟨#[]⟩, .bool false] (0, 0) _ rfl (heap_alloc_last _ _) Tryd.underlying85 rfl (by kernel_rfl)) rfl ⟨rfl, (Below.refl _ W).alloc (Nat.le_refl _) _⟩

set_option maxHeartbeats 1000000 in
set_option maxRecDepth 100000 in
theorem takeNum_A (st : St) (he : st.getD [] = []) (most : Nat) (W : World) :
    Calls Tryd.prog 66 #[.agg (rcells st), .int .u64 most] W fun e w' => e = .returned (.tuple #[.int .u64 0, .agg #[.string ⟨#[]⟩, .bool false]]) ∧ Below W.heap.size W w' := by
  have hx := first_two W (.cells (rcells st) 85) (.cells #[.string ⟨#[]⟩, .bool false] 85)
  have hy := last_two W (.cells (rcells st) 85) (.cells #[.string ⟨#[]⟩, .bool false] 85)
  have hb := below_two W (.cells (rcells st) 85) (.cells #[.string ⟨#[]⟩, .bool false] 85)
  have hrc : rcells st = #[.string ⟨#[]⟩, .bool st.isSome] := by
    cases st with
    | none => rfl
    | some l => obtain rfl : l = [] := he
                rfl
  rw [hrc] at hx hy hb ⊢
  generalize st.isSome = f at hx hy hb ⊢
  have hx0 := (cell_of_heap (j := 0) hx).trans rfl
  have hx1 := (cell_of_heap (j := 1) hx).trans rfl
  have HY : Hid _ := hy
  clear hx hy hrc
  cases f
  all_goals
    go_enter Tryd.func66, Tryd.ntmps66
    go_wp2_with (go_at_call 69; refine (ref_failed _).mono ?_; rintro e w5 ⟨rfl, hb5⟩; have HY5 : Hid (w5.heap[W.heap.size + 1]? = some (.cells #[.string ⟨#[]⟩, .bool false] 85 (0, 0))) := (hb5.block _ (lt_of_some HY.out)).trans HY.out; have hc0 := (cell_of_heap (j := 0) HY5.out).trans rfl; have hc1 := (cell_of_heap (j := 1) HY5.out).trans rfl; have hfr := fun j => free_of_heap (j := j) HY5.out)
    exact bodyPost_ret (v := .tuple #[.int .u64 0, .agg #[.string ⟨#[]⟩, .bool false]]) (results_tmp_row rfl _ _ (W.heap.size + 1) 85 #[.string ⟨#[]⟩, .bool false] (0, 0) _ _ rfl rfl (set2_heap HY5.out _ _) Tryd.underlying85 rfl (by kernel_rfl)) rfl ⟨rfl, ((below_next hb hb5).setCell (by simp) _).setCell (by simp) _⟩

set_option maxHeartbeats 4000000 in
set_option maxRecDepth 100000 in
theorem takeNum_B (S P R : ByteArray) (n most : Nat) (hS : S.size ≤ 1000000) (hpos : 0 < S.size) (hat : S[0].toNat = n) (hn : n < 128) (hP : S.extract 0 1 = P) (hR : S.extract 1 S.size = R) (hnum : ∀ W, Calls Tryd.prog 37 #[.int .u64 n] W fun e w' => e = .returned (.string P) ∧ Below W.heap.size W w') (W : World) :
    Calls Tryd.prog 66 #[.agg #[.string S, .bool true], .int .u64 most] W fun e w' => e = .returned (.tuple (if n ≤ most then #[.int .u64 n, .agg #[.string R, .bool true]] else #[.int .u64 0, .agg #[.string ⟨#[]⟩, .bool false]])) ∧ Below W.heap.size W w' := by
  have hx := first_two W (.cells #[.string S, .bool true] 85) (.cells #[.string ⟨#[]⟩, .bool false] 85)
  have hy := last_two W (.cells #[.string S, .bool true] 85) (.cells #[.string ⟨#[]⟩, .bool false] 85)
  have hb := below_two W (.cells #[.string S, .bool true] 85) (.cells #[.string ⟨#[]⟩, .bool false] 85)
  have hx0 := (cell_of_heap (j := 0) hx).trans rfl
  have hx1 := (cell_of_heap (j := 1) hx).trans rfl
  have hpx : ∀ p : Later (W.heap.size + 2) ((W.alloc (.cells #[.string S, .bool true] 85)).alloc (.cells #[.string ⟨#[]⟩, .bool false] 85)), p.val.cell? ⟨W.heap.size, 0, none⟩ = some (.string S) := fun p => (cell_of_heap ((p.ok.block _ (by omega)).trans hx)).trans rfl
  have hpy : ∀ p : Later (W.heap.size + 2) ((W.alloc (.cells #[.string S, .bool true] 85)).alloc (.cells #[.string ⟨#[]⟩, .bool false] 85)), p.val.heap[W.heap.size + 1]? = some (.cells #[.string ⟨#[]⟩, .bool false] 85 (0, 0)) := fun p => (p.ok.block _ (by omega)).trans hy
  have hp0 : ∀ p : Later (W.heap.size + 2) ((W.alloc (.cells #[.string S, .bool true] 85)).alloc (.cells #[.string ⟨#[]⟩, .bool false] 85)), p.val.cell? ⟨W.heap.size + 1, 0, none⟩ = some (.string ⟨#[]⟩) := fun p => (cell_of_heap (hpy p)).trans rfl
  have hp1 : ∀ p : Later (W.heap.size + 2) ((W.alloc (.cells #[.string S, .bool true] 85)).alloc (.cells #[.string ⟨#[]⟩, .bool false] 85)), p.val.cell? ⟨W.heap.size + 1, 1, none⟩ = some (.bool false) := fun p => (cell_of_heap (hpy p)).trans rfl
  have hpf : ∀ (p : Later (W.heap.size + 2) ((W.alloc (.cells #[.string S, .bool true] 85)).alloc (.cells #[.string ⟨#[]⟩, .bool false] 85))) (j : Nat), p.val.frozen? ⟨W.heap.size + 1, j, none⟩ = false := fun p j => free_of_heap (hpy p)
  have hsz2 : W.heap.size + 2 ≤ ((W.alloc (.cells #[.string S, .bool true] 85)).alloc (.cells #[.string ⟨#[]⟩, .bool false] 85)).heap.size := by simp
  have HY : Hid _ := hy
  have HPY : Hid _ := hpy
  clear hx hy hpy
  have hcv : IntKind.u64.wrap (n : Int) = n := by rw [wrap_u64]; omega
  have heq : (P.toList == P.toList) = true := by simp
  have hs1 : (1 : Int) ≤ S.size := by omega
  by_cases hle : n ≤ most
  · rw [if_pos hle]
    go_enter Tryd.func66, Tryd.ntmps66
    go_wp2_with fail
    refine wp_region_later (W.heap.size + 2) (by kernel_rfl) (by kernel_rfl) ?_
    repeat (go_big_quiet_step (first | (go_at_call 37; exact Calls.later_of hsz2 (hnum _))))
    refine wpQuiet_nil ?_
    rintro _ ⟨p, rfl⟩
    go_wp2
    have hpp0 := hp0 p
    have hpp1 := hp1 p
    have hppf := hpf p
    have hppx := hpx p
    clear hp0 hp1 hpf hpx
    go_region
    all_goals
      go_wp2
      exact bodyPost_ret (v := .tuple #[.int .u64 n, .agg #[.string R, .bool true]]) (results_tmp_row rfl _ _ (W.heap.size + 1) 85 #[.string R, .bool true] (0, 0) _ _ rfl rfl (set2_heap (HPY.out p) _ _) Tryd.underlying85 rfl (by kernel_rfl)) rfl ⟨rfl, (((hb.trans (p.ok.mono (by omega))).drew).setCell (by simp) _).setCell (by simp) _⟩
  · rw [if_neg hle]
    go_enter Tryd.func66, Tryd.ntmps66
    go_wp2_with fail
    refine wp_region_later (W.heap.size + 2) (by kernel_rfl) (by kernel_rfl) ?_
    repeat (go_big_quiet_step (first | (go_at_call 37; exact Calls.later_of hsz2 (hnum _))))
    refine wpQuiet_nil ?_
    rintro _ ⟨p, rfl⟩
    go_wp2_with (go_at_call 69; refine (ref_failed _).mono ?_; rintro e w5 ⟨rfl, hb5⟩; have HY5 : Hid (w5.heap[W.heap.size + 1]? = some (.cells #[.string ⟨#[]⟩, .bool false] 85 (0, 0))) := (hb5.block _ (lt_of_some (HPY.out p))).trans (HPY.out p); have hc0 := (cell_of_heap (j := 0) HY5.out).trans rfl; have hc1 := (cell_of_heap (j := 1) HY5.out).trans rfl; have hfr := fun j => free_of_heap (j := j) HY5.out)
    exact bodyPost_ret (v := .tuple #[.int .u64 0, .agg #[.string ⟨#[]⟩, .bool false]]) (results_tmp_row rfl _ _ (W.heap.size + 1) 85 #[.string ⟨#[]⟩, .bool false] (0, 0) _ _ rfl rfl (set2_heap HY5.out _ _) Tryd.underlying85 rfl (by kernel_rfl)) rfl ⟨rfl, ((below_next (hb.trans (p.ok.mono (by omega))) hb5).setCell (by simp) _).setCell (by simp) _⟩

set_option maxHeartbeats 4000000 in
set_option maxRecDepth 100000 in
theorem takeNum_C1 (S : ByteArray) (c k most : Nat) (hS : S.size ≤ 1000000) (hpos : 0 < S.size) (hat : S[0].toNat = c) (hc : c = 128 + k) (hk : 8 < k ∨ S.size < 1 + k) (hk128 : k < 128) (W : World) :
    Calls Tryd.prog 66 #[.agg #[.string S, .bool true], .int .u64 most] W fun e w' => e = .returned (.tuple #[.int .u64 0, .agg #[.string ⟨#[]⟩, .bool false]]) ∧ Below W.heap.size W w' := by
  have hx := first_two W (.cells #[.string S, .bool true] 85) (.cells #[.string ⟨#[]⟩, .bool false] 85)
  have hy := last_two W (.cells #[.string S, .bool true] 85) (.cells #[.string ⟨#[]⟩, .bool false] 85)
  have hb := below_two W (.cells #[.string S, .bool true] 85) (.cells #[.string ⟨#[]⟩, .bool false] 85)
  have hx0 := (cell_of_heap (j := 0) hx).trans rfl
  have hx1 := (cell_of_heap (j := 1) hx).trans rfl
  have hpx : ∀ p : Later (W.heap.size + 2) ((W.alloc (.cells #[.string S, .bool true] 85)).alloc (.cells #[.string ⟨#[]⟩, .bool false] 85)), p.val.cell? ⟨W.heap.size, 0, none⟩ = some (.string S) := fun p => (cell_of_heap ((p.ok.block _ (by omega)).trans hx)).trans rfl
  have hpy : ∀ p : Later (W.heap.size + 2) ((W.alloc (.cells #[.string S, .bool true] 85)).alloc (.cells #[.string ⟨#[]⟩, .bool false] 85)), p.val.heap[W.heap.size + 1]? = some (.cells #[.string ⟨#[]⟩, .bool false] 85 (0, 0)) := fun p => (p.ok.block _ (by omega)).trans hy
  have hp0 : ∀ p : Later (W.heap.size + 2) ((W.alloc (.cells #[.string S, .bool true] 85)).alloc (.cells #[.string ⟨#[]⟩, .bool false] 85)), p.val.cell? ⟨W.heap.size + 1, 0, none⟩ = some (.string ⟨#[]⟩) := fun p => (cell_of_heap (hpy p)).trans rfl
  have hp1 : ∀ p : Later (W.heap.size + 2) ((W.alloc (.cells #[.string S, .bool true] 85)).alloc (.cells #[.string ⟨#[]⟩, .bool false] 85)), p.val.cell? ⟨W.heap.size + 1, 1, none⟩ = some (.bool false) := fun p => (cell_of_heap (hpy p)).trans rfl
  have hpf : ∀ (p : Later (W.heap.size + 2) ((W.alloc (.cells #[.string S, .bool true] 85)).alloc (.cells #[.string ⟨#[]⟩, .bool false] 85))) (j : Nat), p.val.frozen? ⟨W.heap.size + 1, j, none⟩ = false := fun p j => free_of_heap (hpy p)
  have hsz2 : W.heap.size + 2 ≤ ((W.alloc (.cells #[.string S, .bool true] 85)).alloc (.cells #[.string ⟨#[]⟩, .bool false] 85)).heap.size := by simp
  have HY : Hid _ := hy
  have HPY : Hid _ := hpy
  clear hx hy hpy
  have hge : ¬ c < 128 := by omega
  have hge' : 128 ≤ c := by omega
  have hcv1 : IntKind.i64.wrap (c : Int) = c := by simp [IntKind.wrap, IntKind.bits, IntKind.signed]; omega
  have hcv2 : (c : Int) - 128 = k := by omega
  have hcv3 : IntKind.i64.wrap ((c : Int) - 128) = k := by rw [hcv2]; simp [IntKind.wrap, IntKind.bits, IntKind.signed]; omega
  have hcv4 : IntKind.i64.wrap (1 + (k : Int)) = ((1 + k : Nat) : Int) := by simp [IntKind.wrap, IntKind.bits, IntKind.signed]; omega
  clear hpx hp0 hp1 hpf hsz2 HPY hc
  by_cases hk8 : 8 < k
  · go_enter Tryd.func66, Tryd.ntmps66
    go_wp2_with (go_at_call 69; refine (ref_failed _).mono ?_; rintro e w5 ⟨rfl, hb5⟩; have HY5 : Hid (w5.heap[W.heap.size + 1]? = some (.cells #[.string ⟨#[]⟩, .bool false] 85 (0, 0))) := (hb5.block _ (lt_of_some HY.out)).trans HY.out; have hc0 := (cell_of_heap (j := 0) HY5.out).trans rfl; have hc1 := (cell_of_heap (j := 1) HY5.out).trans rfl; have hfr := fun j => free_of_heap (j := j) HY5.out)
    exact bodyPost_ret (v := .tuple #[.int .u64 0, .agg #[.string ⟨#[]⟩, .bool false]]) (results_tmp_row rfl _ _ (W.heap.size + 1) 85 #[.string ⟨#[]⟩, .bool false] (0, 0) _ _ rfl rfl (set2_heap HY5.out _ _) Tryd.underlying85 rfl (by kernel_rfl)) rfl ⟨rfl, ((below_next hb hb5).setCell (by simp) _).setCell (by simp) _⟩
  · have hlt : S.size < 1 + k := by omega
    clear hk
    go_enter Tryd.func66, Tryd.ntmps66
    go_wp2_with (go_at_call 69; refine (ref_failed _).mono ?_; rintro e w5 ⟨rfl, hb5⟩; have HY5 : Hid (w5.heap[W.heap.size + 1]? = some (.cells #[.string ⟨#[]⟩, .bool false] 85 (0, 0))) := (hb5.block _ (lt_of_some HY.out)).trans HY.out; have hc0 := (cell_of_heap (j := 0) HY5.out).trans rfl; have hc1 := (cell_of_heap (j := 1) HY5.out).trans rfl; have hfr := fun j => free_of_heap (j := j) HY5.out)
    exact bodyPost_ret (v := .tuple #[.int .u64 0, .agg #[.string ⟨#[]⟩, .bool false]]) (results_tmp_row rfl _ _ (W.heap.size + 1) 85 #[.string ⟨#[]⟩, .bool false] (0, 0) _ _ rfl rfl (set2_heap HY5.out _ _) Tryd.underlying85 rfl (by kernel_rfl)) rfl ⟨rfl, ((below_next hb hb5).setCell (by simp) _).setCell (by simp) _⟩

set_option maxHeartbeats 8000000 in
set_option maxRecDepth 100000 in
theorem takeNum_C (S P R N : ByteArray) (c k most m : Nat) (G : Nat → Nat) (eqb : Bool) (res : Array Value) (hres : (eqb = true ∧ m ≤ most → res = #[.int .u64 m, .agg #[.string R, .bool true]]) ∧ (¬ (eqb = true ∧ m ≤ most) → res = #[.int .u64 0, .agg #[.string ⟨#[]⟩, .bool false]])) (hS : S.size ≤ 1000000) (hpos : 0 < S.size) (hat : S[0].toNat = c) (hc : c = 128 + k) (hk8 : k ≤ 8) (hks : 1 + k ≤ S.size)
    (hG0 : G 0 = 0) (hGs : ∀ j, j < k → ∀ h : j + 1 < S.size, G (j + 1) = 256 * G j + S[j + 1].toNat) (hGb : ∀ j, j ≤ k → G j < 18446744073709551616) (hGm : G k = m)
    (hP : S.extract 0 (1 + k) = P) (hR : S.extract (1 + k) S.size = R) (heq : (N.toList == P.toList) = eqb)
    (hnum : ∀ W, Calls Tryd.prog 37 #[.int .u64 m] W fun e w' => e = .returned (.string N) ∧ Below W.heap.size W w') (W : World) :
    Calls Tryd.prog 66 #[.agg #[.string S, .bool true], .int .u64 most] W fun e w' => e = .returned (.tuple res) ∧ Below W.heap.size W w' := by
  have hx := first_two W (.cells #[.string S, .bool true] 85) (.cells #[.string ⟨#[]⟩, .bool false] 85)
  have hy := last_two W (.cells #[.string S, .bool true] 85) (.cells #[.string ⟨#[]⟩, .bool false] 85)
  have hb := below_two W (.cells #[.string S, .bool true] 85) (.cells #[.string ⟨#[]⟩, .bool false] 85)
  have hx0 := (cell_of_heap (j := 0) hx).trans rfl
  have hx1 := (cell_of_heap (j := 1) hx).trans rfl
  have hpx : ∀ p : Later (W.heap.size + 2) ((W.alloc (.cells #[.string S, .bool true] 85)).alloc (.cells #[.string ⟨#[]⟩, .bool false] 85)), p.val.cell? ⟨W.heap.size, 0, none⟩ = some (.string S) := fun p => (cell_of_heap ((p.ok.block _ (by omega)).trans hx)).trans rfl
  have hpy : ∀ p : Later (W.heap.size + 2) ((W.alloc (.cells #[.string S, .bool true] 85)).alloc (.cells #[.string ⟨#[]⟩, .bool false] 85)), p.val.heap[W.heap.size + 1]? = some (.cells #[.string ⟨#[]⟩, .bool false] 85 (0, 0)) := fun p => (p.ok.block _ (by omega)).trans hy
  have hp0 : ∀ p : Later (W.heap.size + 2) ((W.alloc (.cells #[.string S, .bool true] 85)).alloc (.cells #[.string ⟨#[]⟩, .bool false] 85)), p.val.cell? ⟨W.heap.size + 1, 0, none⟩ = some (.string ⟨#[]⟩) := fun p => (cell_of_heap (hpy p)).trans rfl
  have hp1 : ∀ p : Later (W.heap.size + 2) ((W.alloc (.cells #[.string S, .bool true] 85)).alloc (.cells #[.string ⟨#[]⟩, .bool false] 85)), p.val.cell? ⟨W.heap.size + 1, 1, none⟩ = some (.bool false) := fun p => (cell_of_heap (hpy p)).trans rfl
  have hpf : ∀ (p : Later (W.heap.size + 2) ((W.alloc (.cells #[.string S, .bool true] 85)).alloc (.cells #[.string ⟨#[]⟩, .bool false] 85))) (j : Nat), p.val.frozen? ⟨W.heap.size + 1, j, none⟩ = false := fun p j => free_of_heap (hpy p)
  have hsz2 : W.heap.size + 2 ≤ ((W.alloc (.cells #[.string S, .bool true] 85)).alloc (.cells #[.string ⟨#[]⟩, .bool false] 85)).heap.size := by simp
  have HY : Hid _ := hy
  have HPY : Hid _ := hpy
  clear hx hy hpy
  have hge : ¬ c < 128 := by omega
  have hge' : 128 ≤ c := by omega
  have hnk8 : ¬ 8 < k := by omega
  have hcv0 : IntKind.u64.wrap (c : Int) = c := by rw [wrap_u64]; omega
  have hcv1 : IntKind.i64.wrap (c : Int) = c := by simp [IntKind.wrap, IntKind.bits, IntKind.signed]; omega
  have hcv2 : (c : Int) - 128 = k := by omega
  have hcv3 : IntKind.i64.wrap ((c : Int) - 128) = k := by rw [hcv2]; simp [IntKind.wrap, IntKind.bits, IntKind.signed]; omega
  obtain ⟨k1, hk1⟩ : ∃ k1 : Nat, k1 = 1 + k := ⟨_, rfl⟩
  rw [← hk1] at hP hR hks
  have hcv4 : IntKind.i64.wrap (1 + (k : Int)) = (k1 : Int) := by simp [IntKind.wrap, IntKind.bits, IntKind.signed]; omega
  have hcv5 : 1 + (k : Int) = (k1 : Int) := by omega
  have hnk1 : ¬ S.size < k1 := by omega
  have HK : Hid (k1 = 1 + k ∧ c = 128 + k) := ⟨hk1, hc⟩
  have HRES : Hid _ := hres
  clear hres
  have HG : Hid ((∀ j, j < k → ∀ h : j + 1 < S.size, G (j + 1) = 256 * G j + S[j + 1].toNat) ∧ (∀ j, j ≤ k → G j < 18446744073709551616) ∧ G k = m ∧ G 0 = 0) := ⟨hGs, hGb, hGm, hG0⟩
  clear hk1 hc hGs hGb hGm hG0
  have H0 : Hid _ := And.intro hp0 (And.intro hp1 (And.intro hpf hpx))
  clear hp0 hp1 hpf hpx
  go_enter Tryd.func66, Tryd.ntmps66
  go_wp2_with fail
  go_loop [7, 8] (fun x i => ∃ j : Nat, j ≤ k ∧ i = .int .i64 ((j + 1 : Nat) : Int) ∧ x = .int .u64 ((G j : Nat) : Int)) (fun _ i => k + 1 - (intOf i).toNat)
  case atStart => exact ⟨0, by omega, rfl, by rw [HG.out.2.2.2]; rfl⟩
  case round =>
    obtain ⟨j, hj, rfl, rfl⟩ := hrel
    obtain ⟨ii, hii⟩ : ∃ ii : Nat, ii = j + 1 := ⟨_, rfl⟩
    rw [← hii]
    by_cases hlt : j < k
    · have hl1 : ii ≤ k := by omega
      have hl2 : ii < S.size := by have := HK.out; omega
      have hg : G (j + 1) = 256 * G j + S[ii].toNat := by
        have := HG.out.1 j hlt (by rw [← hii]; exact hl2)
        subst hii
        exact this
      have hb1 := HG.out.2.1 (j + 1) (by omega)
      have hb256 := Wire.u8_lt S[ii]
      obtain ⟨x, hx⟩ : ∃ x : Nat, x = G j := ⟨_, rfl⟩
      obtain ⟨z, hz⟩ : ∃ z : Nat, z = 256 * x := ⟨_, rfl⟩
      obtain ⟨t, ht⟩ : ∃ t : Nat, t = z + S[ii].toNat := ⟨_, rfl⟩
      rw [← hx] at hg ⊢
      have htG : t = G (j + 1) := by omega
      have hw1 : IntKind.u64.wrap (256 * (x : Int)) = z := by rw [wrap_u64]; omega
      have hw2 : IntKind.u64.wrap (S[ii].toNat : Int) = S[ii].toNat := by rw [wrap_u64]; omega
      have hw3 : IntKind.u64.wrap ((z : Int) + S[ii].toNat) = t := by rw [wrap_u64]; omega
      have hw4 : IntKind.i64.wrap ((ii : Int) + 1) = ((ii + 1 : Nat) : Int) := by simp [IntKind.wrap, IntKind.bits, IntKind.signed]; omega
      have HT : Hid (t = G (j + 1) ∧ ii = j + 1) := ⟨htG, hii⟩
      clear hg hx hz ht htG hii hb1
      go_wp2_with fail
      go_round
      case rel => exact ⟨j + 1, by omega, by rw [← HT.out.2]; go_num, by rw [← HT.out.1]⟩
      case measure => have := HT.out.2; simp [intOf]; omega
    · have hjk : j = k := by omega
      subst hjk
      have hl1 : ¬ ii ≤ j := by omega
      rw [HG.out.2.2.1]
      obtain ⟨hp0, hp1, hpf, hpx⟩ := H0.out
      clear hii hlt hj
      cases eqb with
      | true =>
        by_cases hle : m ≤ most
        · have hr := HRES.out.1 ⟨rfl, hle⟩
          have HR : Hid _ := hr
          clear hr
          go_wp2_with fail
          refine wp_region_later (W.heap.size + 2) (by kernel_rfl) (by kernel_rfl) ?_
          repeat (go_big_quiet_step (first | (go_at_call 37; exact Calls.later_of hsz2 (hnum _))))
          refine wpQuiet_nil ?_
          rintro _ ⟨p, rfl⟩
          go_wp2
          have hpp0 := hp0 p
          have hpp1 := hp1 p
          have hppf := hpf p
          have hppx := hpx p
          clear hp0 hp1 hpf hpx
          go_region
          all_goals
            go_wp2
            exact bodyPost_ret (v := .tuple #[.int .u64 m, .agg #[.string R, .bool true]]) (results_tmp_row rfl _ _ (W.heap.size + 1) 85 #[.string R, .bool true] (0, 0) _ _ rfl rfl (set2_heap (HPY.out p) _ _) Tryd.underlying85 rfl (by kernel_rfl)) rfl ⟨by rw [HR.out], (((hb.trans (p.ok.mono (by omega))).drew).setCell (by simp) _).setCell (by simp) _⟩
        · have hr := HRES.out.2 (fun x => hle x.2)
          have HR : Hid _ := hr
          clear hr
          go_wp2_with fail
          refine wp_region_later (W.heap.size + 2) (by kernel_rfl) (by kernel_rfl) ?_
          repeat (go_big_quiet_step (first | (go_at_call 37; exact Calls.later_of hsz2 (hnum _))))
          refine wpQuiet_nil ?_
          rintro _ ⟨p, rfl⟩
          go_wp2_with (go_at_call 69; refine (ref_failed _).mono ?_; rintro e w5 ⟨rfl, hb5⟩; have HY5 : Hid (w5.heap[W.heap.size + 1]? = some (.cells #[.string ⟨#[]⟩, .bool false] 85 (0, 0))) := (hb5.block _ (lt_of_some (HPY.out p))).trans (HPY.out p); have hc0 := (cell_of_heap (j := 0) HY5.out).trans rfl; have hc1 := (cell_of_heap (j := 1) HY5.out).trans rfl; have hfr := fun j => free_of_heap (j := j) HY5.out)
          exact bodyPost_ret (v := .tuple #[.int .u64 0, .agg #[.string ⟨#[]⟩, .bool false]]) (results_tmp_row rfl _ _ (W.heap.size + 1) 85 #[.string ⟨#[]⟩, .bool false] (0, 0) _ _ rfl rfl (set2_heap HY5.out _ _) Tryd.underlying85 rfl (by kernel_rfl)) rfl ⟨by rw [HR.out], ((below_next (hb.trans (p.ok.mono (by omega))) hb5).setCell (by simp) _).setCell (by simp) _⟩
      | false =>
        have hr := HRES.out.2 (fun x => by cases x.1)
        have HR : Hid _ := hr
        clear hr
        go_wp2_with fail
        refine wp_region_later (W.heap.size + 2) (by kernel_rfl) (by kernel_rfl) ?_
        repeat (go_big_quiet_step (first | (go_at_call 37; exact Calls.later_of hsz2 (hnum _))))
        refine wpQuiet_nil ?_
        rintro _ ⟨p, rfl⟩
        go_wp2_with (go_at_call 69; refine (ref_failed _).mono ?_; rintro e w5 ⟨rfl, hb5⟩; have HY5 : Hid (w5.heap[W.heap.size + 1]? = some (.cells #[.string ⟨#[]⟩, .bool false] 85 (0, 0))) := (hb5.block _ (lt_of_some (HPY.out p))).trans (HPY.out p); have hc0 := (cell_of_heap (j := 0) HY5.out).trans rfl; have hc1 := (cell_of_heap (j := 1) HY5.out).trans rfl; have hfr := fun j => free_of_heap (j := j) HY5.out)
        exact bodyPost_ret (v := .tuple #[.int .u64 0, .agg #[.string ⟨#[]⟩, .bool false]]) (results_tmp_row rfl _ _ (W.heap.size + 1) 85 #[.string ⟨#[]⟩, .bool false] (0, 0) _ _ rfl rfl (set2_heap HY5.out _ _) Tryd.underlying85 rfl (by kernel_rfl)) rfl ⟨by rw [HR.out], ((below_next (hb.trans (p.ok.mono (by omega))) hb5).setCell (by simp) _).setCell (by simp) _⟩

end Go.Proofs.YtdhdfngaldfdjaaDoor
