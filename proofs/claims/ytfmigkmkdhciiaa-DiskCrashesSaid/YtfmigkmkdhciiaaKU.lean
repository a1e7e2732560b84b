/-
  Disks: copies.
-/
import Derived.Test.YtfmigkmkdhciiaaKZ
import Derived.Test.YtfmigkmkdhciiaaKC2
namespace Go.Proofs.Ytfmigkmkdhciiaa.K
set_option linter.unusedVariables false
set_option linter.unusedSimpArgs false
set_option maxRecDepth 100000
open Go Go.RowKit Go.Maps Go.MapKept Go.ChangeMaps

theorem base_eval {ops : Array Oper} {a0 a : Go.Act} (hb : R.BaseA ops a0 a) {t : Nat} {v : Value} (hs : R.writes ops t = false) (h0 : a0.tmps.getD t undef = v) : a.eval (.tmp t) = v := by
  show a.tmps.getD t undef = _
  rw [← h0, Array.getD_eq_getD_getElem?, Array.getD_eq_getD_getElem?, hb.rest t (R.writes_ne hs)]
/-- While a copy is made. -/
def C0 (W V : World) : Prop := V = W.drew
def C1 (A : Gh) (W : World) (c : Nat) (fs : Fs) (x : Value) (V : World) : Prop := ∃ B m f, Ext none_ noX A W B V ∧ x = .map (some m) ∧ B m = .fixed ∧ Clip f ∧ Files (2 * c) B V m fs f
def C2 (A : Gh) (W : World) (c : Nat) (fs fv : Fs) (x y : Value) (V : World) : Prop := ∃ B m f m' f', Ext none_ noX A W B V ∧ x = .map (some m) ∧ B m = .fixed ∧ Clip f ∧ Files (2 * c) B V m fs f ∧ y = .map (some m') ∧ B m' = .own (2 * c) 0 ∧ Files (2 * c) B V m' fv f'
def C3 (A : Gh) (W : World) (c : Nat) (fs fv : Fs) (ss : List (List U)) (x y z : Value) (V : World) : Prop := ∃ B k, Ext none_ noX A W B V ∧ x = .map (some k.ms) ∧ y = .map (some k.mv) ∧ z = k.vs ∧ Parts B V c fs fv ss k
theorem none_keep {A B : Gh} {w w' : World} (h : Ext none_ noX A w B w') {b : Nat} (hb : b < w.heap.size) : w'.heap[b]? = w.heap[b]? ∧ B b = A b := ⟨h.keep b hb (fun h => h) (fun _ _ _ h => h), h.gh b hb (fun _ _ _ h => h)⟩
theorem c1_of {A : Gh} {W : World} {c p : Nat} {fs fv : Fs} {ss : List (List U)} {k : Dk} (hP : Parts A W p fs fv ss k) (hwt : wt fs ≤ 1099511627776) : Calls Try.prog 29 #[.map (some k.ms)] W.drew fun e V => ∃ v, e = .returned v ∧ C1 A W c fs v V := by
  have hE : Ext none_ noX A W A W.drew := Ext.of_below ((Below.refl _ W).drew)
  have hF := hP.synced.extC hP.clip hE hP.ms
  refine (disk_copied hF.map (by have := len_le_wt fs; unfold maxLen; omega) (files_form hF)).mono ?_
  rintro e V ⟨rfl, hma, hB⟩
  obtain ⟨hE2, hF2⟩ := files_copied (t' := 2 * c) hF hB hma .fixed (fun t g e => by cases e)
  exact ⟨_, rfl, _, _, _, hE.trans hE2, rfl, setG_same .., clipF_clip _, hF2⟩
theorem c2_of {A : Gh} {W V : World} {c p : Nat} {fs fv : Fs} {ss : List (List U)} {k : Dk} {x : Value} (hp : p < W.heap.size) (hc : c < W.heap.size) (hP : Parts A W p fs fv ss k) (hwt : wt fv ≤ 1099511627776) (h : C1 A W c fs x V) :
    Calls Try.prog 29 #[.map (some k.mv)] V fun e V' => ∃ v, e = .returned v ∧ C2 A W c fs fv x v V' := by
  obtain ⟨B, m, f, hE, hx, hm, hcl, hF⟩ := h
  have hPV := hP.ext hE hp (fun h => h) (fun h => h)
  have hFv := hPV.seen
  refine (disk_copied hFv.map (by have := len_le_wt fv; unfold maxLen; omega) (files_form hFv)).mono ?_
  rintro e V' ⟨rfl, hma, hB⟩
  have hsz := hE.size
  have hsz2 := hB.size
  obtain ⟨hE2, hF2⟩ := files_copied (t' := 2 * c) hFv hB hma (.own (2 * c) 0) (fun t g e => by cases e; omega)
  exact ⟨_, rfl, _, m, f, V.heap.size, _, hE.trans hE2, hx, (none_keep hE2 hF.map.lt).2.trans hm, hcl, hF.extC hcl hE2 hm, rfl, setG_same .., hF2⟩
theorem c3_of {A : Gh} {W V : World} {c p : Nat} {fs fv : Fs} {ss : List (List U)} {k : Dk} {x y : Value} (hp : p < W.heap.size) (hc : c < W.heap.size) (hA : A c = .own (2 * c + 1) 0) (hP : Parts A W p fs fv ss k) (hlen : ss.length ≤ 1099511627776) (h : C2 A W c fs fv x y V) :
    Calls Try.prog 33 #[k.vs] V fun e V' => ∃ v, e = .returned v ∧ C3 A W c fs fv ss x y v V' := by
  obtain ⟨B, m, f, m', f', hE, hx, hm, hcl, hF, hy, hm', hF'⟩ := h
  have hPV := hP.ext hE hp (fun h => h) (fun h => h)
  have hsz := hE.size
  refine (clone_steps (t' := 2 * c + 1) hPV.row (by rw [hPV.len]; exact hlen) (by omega)).mono ?_
  rintro e V' ⟨v, A', rfl, hE2, hR⟩
  exact ⟨v, rfl, A', ⟨m, m', v, k.xs, f, f'⟩, hE.trans hE2, hx, hy, rfl, (none_keep (hE.trans hE2) hc).2.trans hA, (none_keep hE2 hF.map.lt).2.trans hm, ⟨0, (none_keep hE2 hF'.map.lt).2.trans hm'⟩, hcl, hF.extC hcl hE2 hm,
    hF'.ext hE2 (fun _ h => h.elim) (fun h => h) (by rw [hm']; simp) (fun _ _ _ h => h), hR, hPV.len, fun i z us hz hus => (hPV.steps i z us hz hus).ext hE2⟩
theorem c1_keep {A : Gh} {W V : World} {c p i : Nat} {fs : Fs} {x v : Value} (h : C1 A W c fs x V) (hv : W.cell? ⟨p, i, none⟩ = some v) : V.cell? ⟨p, i, none⟩ = some v := by
  obtain ⟨B, m, f, hE, _⟩ := h
  exact (World.cell?_of_block (a := ⟨p, i, none⟩) (none_keep hE (World.block_lt_of_cell? W _ hv)).1).trans hv
theorem c2_keep {A : Gh} {W V : World} {c p i : Nat} {fs fv : Fs} {x y v : Value} (h : C2 A W c fs fv x y V) (hv : W.cell? ⟨p, i, none⟩ = some v) : V.cell? ⟨p, i, none⟩ = some v := by
  obtain ⟨B, m, f, m', f', hE, _⟩ := h
  exact (World.cell?_of_block (a := ⟨p, i, none⟩) (none_keep hE (World.block_lt_of_cell? W _ hv)).1).trans hv

def CP (A : Gh) (W : World) (c : Nat) (fs fv : Fs) (ss : List (List U)) (q : Nat) (u : Nat → Value) (V : World) : Prop :=
  match q with
  | 0 => V = W.drew
  | 1 => C1 A W c fs (u 0) V
  | 2 => C2 A W c fs fv (u 0) (u 1) V
  | 3 => C3 A W c fs fv ss (u 0) (u 1) (u 2) V
  | 4 => ∃ V3, C3 A W c fs fv ss (u 0) (u 1) (u 2) V3 ∧ V = V3.setCell ⟨c, 1, none⟩ (u 0)
  | 5 => ∃ V3, C3 A W c fs fv ss (u 0) (u 1) (u 2) V3 ∧ V = (V3.setCell ⟨c, 1, none⟩ (u 0)).setCell ⟨c, 2, none⟩ (u 1)
  | _ => ∃ V3, C3 A W c fs fv ss (u 0) (u 1) (u 2) V3 ∧ V = ((V3.setCell ⟨c, 1, none⟩ (u 0)).setCell ⟨c, 2, none⟩ (u 1)).setCell ⟨c, 3, none⟩ (u 2)

set_option maxHeartbeats 2000000 in
theorem disk_Copy {A : Gh} {w : World} {p : Nat} {s : St} (hd : DiskAt A w p s) (hdom : Dom A w) (hlim : s.lim ≤ 549755813888) (hst : s.steps.length ≤ 549755813888) :
    Calls Try.prog 10 #[.pointer (some ⟨p, 0, none⟩)] w fun e w' => ∃ q, e = .returned (.pointer (some ⟨q, 0, none⟩)) ∧ w.heap.size ≤ q ∧ ∃ A', Ext none_ noX A w A' w' ∧ DiskAt A' w' q s := by
  obtain ⟨k, hd⟩ := hd
  have h0 : w.cell? ⟨p, 0, none⟩ = some (.int .i64 (s.room : Int)) := cell_row hd.cells 0
  have h1 : w.cell? ⟨p, 1, none⟩ = some (.map (some k.ms)) := cell_row hd.cells 1
  have h2 : w.cell? ⟨p, 2, none⟩ = some (.map (some k.mv)) := cell_row hd.cells 2
  have h3 : w.cell? ⟨p, 3, none⟩ = some k.vs := cell_row hd.cells 3
  have h4 : w.cell? ⟨p, 4, none⟩ = some (.int .i64 (s.units : Int)) := cell_row hd.cells 4
  have h5 : w.cell? ⟨p, 5, none⟩ = some (.int .i64 (s.left : Int)) := cell_row hd.cells 5
  have h6 : w.cell? ⟨p, 6, none⟩ = some (.bool s.down) := cell_row hd.cells 6
  obtain ⟨va, vn, vc, hvs⟩ := hd.parts.row.isSlice
  rw [hvs] at h3
  have HV := Lib.hid hvs
  have HD := Lib.hid hd
  clear hd hvs
  go_enter Try.func10, Try.ntmps10
  go_wp2_with (go_at_call 28; refine (none_some p _ _ h1).mono ?_; rintro e w' ⟨rfl, rfl⟩)
  generalize hW : w.alloc (.cells #[.int .i64 (s.room : Int), .map (some k.ms), .map (some k.mv), .slice va vn vc, .int .i64 (s.units : Int), .int .i64 (s.left : Int), .bool s.down] 46) = W
  have hB : Below w.heap.size w W := by rw [← hW]; exact (Below.refl _ w).alloc (Nat.le_refl _) _
  have hsz : W.heap.size = w.heap.size + 1 := by rw [← hW]; simp
  have hcW : W.heap[w.heap.size]? = some (.cells (dcells s.room (.map (some k.ms)) (.map (some k.mv)) (.slice va vn vc) s.units s.left s.down) 46 (0, 0)) := by rw [← hW]; exact heap_last w _
  obtain ⟨A1, hA1⟩ : ∃ A1, setG A w.heap.size (.own (2 * w.heap.size + 1) 0) = A1 := ⟨_, rfl⟩
  have hE1 : Ext none_ noX A w A1 W := by rw [← hA1]; exact Ext.newG hB (Nat.le_refl _) (by omega) _ (fun t g e => by cases e; omega)
  have hA1c : A1 w.heap.size = .own (2 * w.heap.size + 1) 0 := by rw [← hA1]; exact setG_same ..
  have hdW := HD.out.ext hE1 (fun h => h) (fun h => h)
  have hpw := (Array.getElem?_eq_some_iff.1 HD.out.cells).1
  have hpW : p < W.heap.size := by omega
  have hcl : w.heap.size < W.heap.size := by omega
  have g1 : W.cell? ⟨p, 1, none⟩ = some (.map (some k.ms)) := cell_row hdW.cells 1
  have g2 : W.cell? ⟨p, 2, none⟩ = some (.map (some k.mv)) := cell_row hdW.cells 2
  have g3 : W.cell? ⟨p, 3, none⟩ = some k.vs := cell_row hdW.cells 3
  have hwt1 : wt s.synced ≤ 1099511627776 := by unfold St.lim at hlim; omega
  have hwt2 : wt s.seen ≤ 1099511627776 := by have := HD.out.ok.wtSeen; omega
  have hfin : ∀ (x y z : Value) (V : World), C3 A1 W w.heap.size s.synced s.seen s.steps x y z V → V.heap[w.heap.size]? = some (.cells (dcells s.room (.map (some k.ms)) (.map (some k.mv)) (.slice va vn vc) s.units s.left s.down) 46 (0, 0)) ∧ (∃ m, x = .map (some m)) ∧ (∃ m, y = .map (some m)) ∧ (∃ ad n c, z = .slice ad n c) ∧
      ∃ A', Ext none_ noX A w A' (((V.setCell ⟨w.heap.size, 1, none⟩ x).setCell ⟨w.heap.size, 2, none⟩ y).setCell ⟨w.heap.size, 3, none⟩ z) ∧ DiskAt A' (((V.setCell ⟨w.heap.size, 1, none⟩ x).setCell ⟨w.heap.size, 2, none⟩ y).setCell ⟨w.heap.size, 3, none⟩ z) w.heap.size s := by
    rintro x y z V ⟨B, k', hE, rfl, rfl, rfl, hP⟩
    have hcV := (none_keep hE hcl).1.trans hcW
    refine ⟨hcV, ⟨_, rfl⟩, ⟨_, rfl⟩, hP.row.isSlice, ?_⟩
    obtain ⟨w4, hw4⟩ : ∃ w4, ((V.setCell ⟨w.heap.size, 1, none⟩ (.map (some k'.ms))).setCell ⟨w.heap.size, 2, none⟩ (.map (some k'.mv))).setCell ⟨w.heap.size, 3, none⟩ k'.vs = w4 := ⟨_, rfl⟩
    rw [hw4]
    have hb4 : ∀ b, b ≠ w.heap.size → w4.heap[b]? = V.heap[b]? := fun b hb => by rw [← hw4, Below.heap_setCell _ _ _ _ (by simpa using hb), Below.heap_setCell _ _ _ _ (by simpa using hb), Below.heap_setCell _ _ _ _ (by simpa using hb)]
    obtain ⟨hE4, hP4⟩ := hP.set (w' := w4) hcV (by rw [← hw4]; rfl) (by rw [← hw4]; rfl) (by rw [← hw4]; rfl) (by rw [← hw4, set_size, set_size, set_size]) hb4
    have hE04 : Ext (· = 2 * w.heap.size + 1) noX A w B w4 := ((hE1.trans hE).mono0 (fun t h => h.elim)).trans hE4
    refine ⟨B, hE04.drop (fun b t g hb hAb ht => ?_) (fun t h => h.elim), k', ?_, hP4, HD.out.ok, HD.out.left, HD.out.room, HD.out.units⟩
    · have := hdom.2 b t g hAb
      omega
    · rw [← hw4, set_row (set_row (set_row hcV _) _) _]
      rfl
  have HF := Lib.hid hfin
  have HP := Lib.hid hdW.parts
  have hv : k.vs = .slice va vn vc := HV.out
  clear hfin hE1 hdW hcW hB hsz hA1 h0 h1 h2 h3 h4 h5 h6 hW
  refine R.wp_chain [4, 9, 14, 16, 18, 20] (CP A1 W w.heap.size s.synced s.seen s.steps)
    (fun i u => [.pointer (some ⟨p, 0, none⟩), .pointer (some ⟨p, 0, none⟩), .pointer (some ⟨p, 1, none⟩), .map (some k.ms), u 0, .pointer (some ⟨p, 0, none⟩), .pointer (some ⟨p, 0, none⟩), .pointer (some ⟨p, 2, none⟩), .map (some k.mv), u 1, .pointer (some ⟨p, 0, none⟩), .pointer (some ⟨p, 0, none⟩), .pointer (some ⟨p, 3, none⟩), k.vs, u 2,
      .pointer (some ⟨w.heap.size, 1, none⟩), undef, .pointer (some ⟨w.heap.size, 2, none⟩), undef, .pointer (some ⟨w.heap.size, 3, none⟩), undef].getD i undef) (fun _ => undef) 27 (by kernel_rfl) (by kernel_rfl) rfl (by kernel_rfl) (by kernel_rfl) ?_ ?_ rfl ?_
  · simp only [R.HVs, R.HV]
    repeat' (first | trivial | refine And.intro ?_ ?_ | exact fun _ _ _ => rfl | (refine fun h => absurd (h.symm.trans (b := _) (c := false) ?_) (by decide); kernel_rfl))
  · refine ⟨?_, ?_, ?_, ?_, ?_, ?_, ?_, ?_, ?_, ?_, ?_, ?_, ?_, ?_, ?_, ?_, ?_, ?_, ?_, ?_, ?_, trivial⟩
    · exact R.l_move _ (.inl rfl) (by kernel_rfl) rfl rfl (R.ev_base (by kernel_rfl) rfl)
    · refine R.l_read (by kernel_rfl) rfl rfl (fun q u a V _ _ hb hv hP => ?_)
      have e1 : a.eval (.tmp 9) = .pointer (some ⟨p, 0, none⟩) := (R.eval_at (i := 0) rfl).trans (hv 0 (by kernel_rfl))
      unfold execOp
      simp only [e1]
      first | rfl | simp [go_sem]
    · refine R.l_read (by kernel_rfl) rfl rfl (fun q u a V _ _ hb hv hP => ?_)
      have e1 : a.eval (.tmp 10) = .pointer (some ⟨p, 0, none⟩) := (R.eval_at (i := 1) rfl).trans (hv 1 (by kernel_rfl))
      unfold execOp
      simp only [e1]
      first | rfl | simp [go_sem]
    · refine R.l_load _ _ (fun _ => ⟨p, 1, none⟩) rfl (by kernel_rfl) rfl rfl Try.underlying43 rfl (R.ev_at (i := 2) rfl (by kernel_rfl)) (fun q u V _ hhi hP => ?_)
      have hh : q ≤ 0 := hhi
      match q, hh, hP with
      | 0, _, hP => obtain rfl : V = W.drew := hP; exact g1
    · refine R.l_call (p := 0) (by kernel_rfl) rfl (fun u a V hb hv hP => ?_)
      have e1 : a.eval (.tmp 12) = .map (some k.ms) := (R.eval_at (i := 3) rfl).trans (hv 3 (by kernel_rfl))
      refine ⟨_, _, by unfold execOp; simp only [resolve, invoke, Sem.run_bind, Sem.run_pure, Result.andThen_ok, List.map_toArray, List.map_cons, List.map_nil, e1]; rfl, ?_⟩
      refine (by obtain rfl : V = W.drew := hP; exact c1_of (c := w.heap.size) HP.out hwt1 : Calls Try.prog 29 #[.map (some k.ms)] V fun e V' => ∃ v, e = .returned v ∧ C1 A1 W w.heap.size s.synced v V').mono ?_
      rintro e w' ⟨v, rfl, hC⟩
      exact ⟨v, rfl, hC, rfl⟩
    · exact R.l_move _ (.inl rfl) (by kernel_rfl) rfl rfl (R.ev_base (by kernel_rfl) rfl)
    · refine R.l_read (by kernel_rfl) rfl rfl (fun q u a V _ _ hb hv hP => ?_)
      have e1 : a.eval (.tmp 14) = .pointer (some ⟨p, 0, none⟩) := (R.eval_at (i := 5) rfl).trans (hv 5 (by kernel_rfl))
      unfold execOp
      simp only [e1]
      first | rfl | simp [go_sem]
    · refine R.l_read (by kernel_rfl) rfl rfl (fun q u a V _ _ hb hv hP => ?_)
      have e1 : a.eval (.tmp 15) = .pointer (some ⟨p, 0, none⟩) := (R.eval_at (i := 6) rfl).trans (hv 6 (by kernel_rfl))
      unfold execOp
      simp only [e1]
      first | rfl | simp [go_sem]
    · refine R.l_load _ _ (fun _ => ⟨p, 2, none⟩) rfl (by kernel_rfl) rfl rfl Try.underlying43 rfl (R.ev_at (i := 7) rfl (by kernel_rfl)) (fun q u V _ hhi hP => ?_)
      have hh : q ≤ 1 := hhi
      match q, hh, hP with
      | 0, _, hP => obtain rfl : V = W.drew := hP; exact g2
      | 1, _, hP => exact c1_keep hP g2
    · refine R.l_call (p := 1) (by kernel_rfl) rfl (fun u a V hb hv hP => ?_)
      have e1 : a.eval (.tmp 17) = .map (some k.mv) := (R.eval_at (i := 8) rfl).trans (hv 8 (by kernel_rfl))
      refine ⟨_, _, by unfold execOp; simp only [resolve, invoke, Sem.run_bind, Sem.run_pure, Result.andThen_ok, List.map_toArray, List.map_cons, List.map_nil, e1]; rfl, ?_⟩
      refine (c2_of hpW hcl HP.out hwt2 hP).mono ?_
      rintro e w' ⟨v, rfl, hC⟩
      exact ⟨v, rfl, hC, rfl⟩
    · exact R.l_move _ (.inl rfl) (by kernel_rfl) rfl rfl (R.ev_base (by kernel_rfl) rfl)
    · refine R.l_read (by kernel_rfl) rfl rfl (fun q u a V _ _ hb hv hP => ?_)
      have e1 : a.eval (.tmp 19) = .pointer (some ⟨p, 0, none⟩) := (R.eval_at (i := 10) rfl).trans (hv 10 (by kernel_rfl))
      unfold execOp
      simp only [e1]
      first | rfl | simp [go_sem]
    · refine R.l_read (by kernel_rfl) rfl rfl (fun q u a V _ _ hb hv hP => ?_)
      have e1 : a.eval (.tmp 20) = .pointer (some ⟨p, 0, none⟩) := (R.eval_at (i := 11) rfl).trans (hv 11 (by kernel_rfl))
      unfold execOp
      simp only [e1]
      first | rfl | simp [go_sem]
    · refine R.l_load _ _ (fun _ => ⟨p, 3, none⟩) rfl (by kernel_rfl) rfl rfl Try.underlying44 rfl (R.ev_at (i := 12) rfl (by kernel_rfl)) (fun q u V _ hhi hP => ?_)
      have hh : q ≤ 2 := hhi
      match q, hh, hP with
      | 0, _, hP => obtain rfl : V = W.drew := hP; exact g3
      | 1, _, hP => exact c1_keep hP g3
      | 2, _, hP => exact c2_keep hP g3
    · refine R.l_call (p := 2) (by kernel_rfl) rfl (fun u a V hb hv hP => ?_)
      have e1 : a.eval (.tmp 22) = k.vs := (R.eval_at (i := 13) rfl).trans (hv 13 (by kernel_rfl))
      refine ⟨_, _, by unfold execOp; simp only [resolve, invoke, Sem.run_bind, Sem.run_pure, Result.andThen_ok, List.map_toArray, List.map_cons, List.map_nil, e1]; rfl, ?_⟩
      refine (c3_of hpW hcl hA1c HP.out (by omega) hP).mono ?_
      rintro e w' ⟨v, rfl, hC⟩
      exact ⟨v, rfl, hC, rfl⟩
    · refine R.l_read (by kernel_rfl) rfl rfl (fun q u a V _ _ hb hv hP => ?_)
      have e1 : a.eval (.tmp 3) = .pointer (some ⟨w.heap.size, 0, none⟩) := base_eval hb (by kernel_rfl) rfl
      unfold execOp
      simp only [e1]
      first | rfl | simp [go_sem]
    · refine R.l_skip (p := 3) (by kernel_rfl) rfl (fun u a V hb hv hP => ?_)
      have e1 : a.eval (.tmp 24) = .pointer (some ⟨w.heap.size, 1, none⟩) := (R.eval_at (i := 15) rfl).trans (hv 15 (by kernel_rfl))
      have e2 : a.eval (.tmp 13) = u 0 := (R.eval_at (i := 4) rfl).trans (hv 4 (by kernel_rfl))
      have hC : C3 A1 W w.heap.size s.synced s.seen s.steps (u 0) (u 1) (u 2) V := hP
      obtain ⟨hcV, ⟨m1, h1⟩, _, _, _⟩ := HF.out _ _ _ _ hC
      refine ⟨V.setCell ⟨w.heap.size, 1, none⟩ (u 0), ?_, ⟨V, hC, rfl⟩, rfl⟩
      have hc : V.cell? ⟨w.heap.size, 1, none⟩ = some (.map (some k.ms)) := cell_row hcV 1
      have hf : V.frozen? ⟨w.heap.size, 1, none⟩ = false := by simp [World.frozen?, hcV]
      unfold execOp
      simp only [e1, e2, h1]
      simp [go_sem, hc, hf]
    · refine R.l_read (by kernel_rfl) rfl rfl (fun q u a V _ _ hb hv hP => ?_)
      have e1 : a.eval (.tmp 3) = .pointer (some ⟨w.heap.size, 0, none⟩) := base_eval hb (by kernel_rfl) rfl
      unfold execOp
      simp only [e1]
      first | rfl | simp [go_sem]
    · refine R.l_skip (p := 4) (by kernel_rfl) rfl (fun u a V hb hv hP => ?_)
      have e1 : a.eval (.tmp 25) = .pointer (some ⟨w.heap.size, 2, none⟩) := (R.eval_at (i := 17) rfl).trans (hv 17 (by kernel_rfl))
      have e2 : a.eval (.tmp 18) = u 1 := (R.eval_at (i := 9) rfl).trans (hv 9 (by kernel_rfl))
      obtain ⟨V3, hC, rfl⟩ : ∃ V3, C3 A1 W w.heap.size s.synced s.seen s.steps (u 0) (u 1) (u 2) V3 ∧ V = V3.setCell ⟨w.heap.size, 1, none⟩ (u 0) := hP
      obtain ⟨hcV, _, ⟨m1, h1⟩, _, _⟩ := HF.out _ _ _ _ hC
      refine ⟨(V3.setCell ⟨w.heap.size, 1, none⟩ (u 0)).setCell ⟨w.heap.size, 2, none⟩ (u 1), ?_, ⟨V3, hC, rfl⟩, rfl⟩
      have hc : (V3.setCell ⟨w.heap.size, 1, none⟩ (u 0)).cell? ⟨w.heap.size, 2, none⟩ = some (.map (some k.mv)) := cell_row (set_row hcV _) 2
      have hf : (V3.setCell ⟨w.heap.size, 1, none⟩ (u 0)).frozen? ⟨w.heap.size, 2, none⟩ = false := by simp [World.frozen?, set_row hcV _]
      unfold execOp
      simp only [e1, e2, h1]
      generalize V3.setCell ⟨w.heap.size, 1, none⟩ (u 0) = VV at hc hf ⊢
      simp [go_sem, hc, hf]
    · refine R.l_read (by kernel_rfl) rfl rfl (fun q u a V _ _ hb hv hP => ?_)
      have e1 : a.eval (.tmp 3) = .pointer (some ⟨w.heap.size, 0, none⟩) := base_eval hb (by kernel_rfl) rfl
      unfold execOp
      simp only [e1]
      first | rfl | simp [go_sem]
    · refine R.l_skip (p := 5) (by kernel_rfl) rfl (fun u a V hb hv hP => ?_)
      have e1 : a.eval (.tmp 26) = .pointer (some ⟨w.heap.size, 3, none⟩) := (R.eval_at (i := 19) rfl).trans (hv 19 (by kernel_rfl))
      have e2 : a.eval (.tmp 23) = u 2 := (R.eval_at (i := 14) rfl).trans (hv 14 (by kernel_rfl))
      obtain ⟨V3, hC, rfl⟩ : ∃ V3, C3 A1 W w.heap.size s.synced s.seen s.steps (u 0) (u 1) (u 2) V3 ∧ V = (V3.setCell ⟨w.heap.size, 1, none⟩ (u 0)).setCell ⟨w.heap.size, 2, none⟩ (u 1) := hP
      obtain ⟨hcV, _, _, ⟨ad, n1, c1, h1⟩, _⟩ := HF.out _ _ _ _ hC
      refine ⟨((V3.setCell ⟨w.heap.size, 1, none⟩ (u 0)).setCell ⟨w.heap.size, 2, none⟩ (u 1)).setCell ⟨w.heap.size, 3, none⟩ (u 2), ?_, ⟨V3, hC, rfl⟩, rfl⟩
      have hc : ((V3.setCell ⟨w.heap.size, 1, none⟩ (u 0)).setCell ⟨w.heap.size, 2, none⟩ (u 1)).cell? ⟨w.heap.size, 3, none⟩ = some (.slice va vn vc) := cell_row (set_row (set_row hcV _) _) 3
      have hf : ((V3.setCell ⟨w.heap.size, 1, none⟩ (u 0)).setCell ⟨w.heap.size, 2, none⟩ (u 1)).frozen? ⟨w.heap.size, 3, none⟩ = false := by simp [World.frozen?, set_row (set_row hcV _) _]
      unfold execOp
      simp only [e1, e2, h1]
      generalize (V3.setCell ⟨w.heap.size, 1, none⟩ (u 0)).setCell ⟨w.heap.size, 2, none⟩ (u 1) = VV at hc hf ⊢
      simp [go_sem, hc, hf]
  · rintro u W4 hP4
    obtain ⟨V3, hC, rfl⟩ : ∃ V3, C3 A1 W w.heap.size s.synced s.seen s.steps (u 0) (u 1) (u 2) V3 ∧ W4 = ((V3.setCell ⟨w.heap.size, 1, none⟩ (u 0)).setCell ⟨w.heap.size, 2, none⟩ (u 1)).setCell ⟨w.heap.size, 3, none⟩ (u 2) := hP4
    obtain ⟨_, _, _, _, hdone⟩ := HF.out _ _ _ _ hC
    generalize ((V3.setCell ⟨w.heap.size, 1, none⟩ (u 0)).setCell ⟨w.heap.size, 2, none⟩ (u 1)).setCell ⟨w.heap.size, 3, none⟩ (u 2) = W4 at hdone ⊢
    clear hC
    simp only [R.fill, List.getD_cons_zero, List.getD_cons_succ, List.setIfInBounds_toArray, List.set_cons_zero, List.set_cons_succ]
    simp only [Exit.then]
    go_at_K
    go_wp2
    go_ret
    exact ⟨w.heap.size, by rfl, Nat.le_refl _, hdone⟩
end Go.Proofs.Ytfmigkmkdhciiaa.K
