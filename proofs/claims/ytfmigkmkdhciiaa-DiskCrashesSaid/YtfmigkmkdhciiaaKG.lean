/-
  Disks: a step is done.
-/
import Derived.Test.YtfmigkmkdhciiaaKF
import Derived.Test.YtfmigkmkdhciiaaKQ
namespace Go.Proofs.Ytfmigkmkdhciiaa.K
set_option linter.unusedVariables false
set_option linter.unusedSimpArgs false
set_option maxRecDepth 100000
open Go Go.RowKit Go.Maps Go.MapKept Go.ChangeMaps

theorem infoSeq : (Try.prog.info? 64).map (fun i => (i.zero, i.size, i.bytes)) = some (some Value.nilFunc, 1, 8) := by kernel_rfl
theorem seq_new (A : Gh) (w : World) (t cap : Nat) (xs : List Value) (rest : Array Value) (h0 : 0 < xs.length) (hcap : xs.length ≤ cap) (hm : cap ≤ maxLen) (hsz : xs.length + rest.size = cap) :
    RowAt t (setG A w.heap.size (.own t 0)) (w.alloc (.cells (xs.toArray ++ rest) 64)) (.slice (some ⟨w.heap.size, 0, none⟩) xs.length cap) xs := by
  refine .inr ⟨w.heap.size, cap, _, rfl, heap_last w _, by simpa using hsz, hm, ⟨h0, hcap⟩, setG_same .., fun i x hx => ?_⟩
  have hi := (List.getElem?_eq_some_iff.1 hx).1
  rw [Array.getElem?_append_left (by simpa using hi)]
  simpa using hx

theorem append_step {A : Gh} {w : World} {t : Nat} {vs : Value} {xs : List Value} (hR : RowAt t A w vs xs) (hlen : xs.length ≤ 1099511627776) (ht : t < 2 * w.heap.size) (x : Value) (h1 : x.oneCell' = true) (g0 : Nat) (hx : w.cell? ⟨g0, 0, none⟩ = some x) :
    ∃ v' w' A', (Builtin.append_ #[44, 44] 44 #[vs, .slice (some ⟨g0, 0, none⟩) 1 1]).run Try.prog w = .ok v' w' ∧ Ext (· = t) noX A w A' w' ∧ RowAt t A' w' v' (xs ++ [x]) ∧
      (∀ b : Nat, b < w.heap.size → A' b = A b) ∧ ∀ (b : Nat) (cs : Array Value) (ty : TypeId) (fr : Nat × Nat), w.heap[b]? = some (.cells cs ty fr) → ty ≠ 64 → w'.heap[b]? = some (.cells cs ty fr) := by
  obtain ⟨i0, hi, hz0, hz1, hz2⟩ := info_parts infoSeq
  have hnews : ∀ (j : Nat) (u : Value), [x][j]? = some u → w.cell? ((⟨g0, 0, none⟩ : Addr).add j) = some u := by
    intro j u hu
    cases j with
    | zero => rw [add0]; simp at hu; subst hu; exact hx
    | succ j => simp at hu
  have zc : ∀ k, (Builtin.zeroCells (Value.nilFunc).cells k).size = k := fun k => by rw [size_zeroCells]; simp [Value.cells, Value.nilFunc]
  rcases hR with ⟨rfl, rfl⟩ | ⟨g, cap, cur, rfl, hcur, hcs, hm, hcap, hA, hcells⟩
  · have hr := run_append_nil (P := Try.prog) w 44 44 64 i0 _ Try.underlying44 hi hz0 ⟨g0, 0, none⟩ 1 1 [x] (by rw [hz1]; rfl) hnews (by omega) (by omega) (by rw [hz2]; omega)
    have hge := grownCap_ge w 1 0 64
    have b1 := seq_new A w.drew t (grownCap w 1 0 64) [x] (Builtin.zeroCells (Value.nilFunc).cells (grownCap w 1 0 64 - 1)) (by simp) hge (grownCap_le_maxLen w 1 0 _ (by unfold maxLen; omega)) (by rw [zc]; simp; omega)
    exact ⟨_, _, _, hr, Ext.newG ((Below.refl _ w).drew.alloc (Nat.le_refl _) _) (Nat.le_refl _) (by simp) _ (fun t' g' e => by cases e; simp; omega), b1, fun b hb => setG_other A _ (by simp; omega), fun b cs ty fr hb _ => (Below.heap_alloc w.drew _ b (Array.getElem?_eq_some_iff.1 hb).1).trans hb⟩
  · have hg := (Array.getElem?_eq_some_iff.1 hcur).1
    have holds : ∀ (j : Nat) (u : Value), xs[j]? = some u → w.cell? ((⟨g, 0, none⟩ : Addr).add j) = some u := by
      intro j u hu
      rw [add0, cell_row hcur]
      exact hcells j u hu
    by_cases hroom : xs.length < cap
    · have hr := run_append_room (P := Try.prog) w 44 44 64 i0 Try.underlying44 hi g xs.length cap cur hcur ⟨g0, 0, none⟩ 1 1 [x] (by rw [hz1]; rfl) hnews (fun u hu => by rw [List.mem_singleton] at hu; subst hu; exact h1) (by omega) (by rw [hz1]; simp; omega)
      rw [hz1, Nat.mul_one] at hr
      have hrow := setRow_heap w g cur (cur.toList.take xs.length ++ [x] ++ cur.toList.drop (xs.length + [x].length)).toArray 64 (0, 0) hcur
      have hE : Ext (· = t) noX A w A (w.setRow g (cur.toList.take xs.length ++ [x] ++ cur.toList.drop (xs.length + [x].length)).toArray) := by
        have := Ext.turn (X := noX) (T := (· = t)) (w := w) (w' := w.setRow g (cur.toList.take xs.length ++ [x] ++ cur.toList.drop (xs.length + [x].length)).toArray) hA rfl (Nat.le_refl 0) rfl rfl rfl (by simp [World.setRow]) hg (fun b hne => setRow_other w g b _ hne) (fun i hi => absurd hi (Nat.not_lt_zero _))
        rwa [setG_eq hA] at this
      refine ⟨_, _, A, hr, hE, .inr ⟨g, cap, _, by simp, hrow, by simp; omega, hm, by simp; omega, hA, fun i y hy => ?_⟩, fun _ _ => rfl, fun b cs ty fr hb hty => ?_⟩
      · by_cases hi : i < xs.length
        · rw [List.getElem?_toArray, List.append_assoc, List.getElem?_append_left (by simp; omega), List.getElem?_take, if_pos hi, Array.getElem?_toList]
          rw [List.getElem?_append_left hi] at hy
          exact hcells i y hy
        · have hil := (List.getElem?_eq_some_iff.1 hy).1
          simp at hil
          obtain rfl : i = xs.length := by omega
          simp at hy
          subst hy
          rw [List.getElem?_toArray, List.append_assoc, List.getElem?_append_right (List.length_take_le _ _)]
          have : (List.take xs.length cur.toList).length = xs.length := by simp; omega
          rw [this]
          simp
      · refine (setRow_other w g b _ (fun e => ?_)).trans hb
        subst e
        rw [hcur] at hb
        have := Option.some.inj hb
        injection this with _ ht _
        exact hty ht.symm
    · have hcl : cap = xs.length := by omega
      have hr := run_append_grow (P := Try.prog) w 44 44 64 i0 _ Try.underlying44 hi hz0 ⟨g, 0, none⟩ xs.length cap xs (by rw [hz1]; simp) holds ⟨g0, 0, none⟩ 1 1 [x] (by rw [hz1]; rfl) hnews (by omega) (by omega)
        (by rw [hz2]; have := nextslicecap_le (need := xs.length + 1) (old := cap) (by omega); omega)
      have hge := grownCap_ge w (xs.length + 1) cap 64
      have he : xs.toArray ++ [x].toArray ++ Builtin.zeroCells (Value.nilFunc).cells (grownCap w (xs.length + 1) cap 64 - (xs.length + 1)) = (xs ++ [x]).toArray ++ Builtin.zeroCells (Value.nilFunc).cells (grownCap w (xs.length + 1) cap 64 - (xs.length + 1)) := by simp
      rw [he] at hr
      have b1 := seq_new A w.drew t (grownCap w (xs.length + 1) cap 64) (xs ++ [x]) (Builtin.zeroCells (Value.nilFunc).cells (grownCap w (xs.length + 1) cap 64 - (xs.length + 1))) (by simp) (by simp; exact hge) (grownCap_le_maxLen w _ _ _ (by unfold maxLen; omega)) (by rw [zc]; simp; omega)
      have el : (xs ++ [x]).length = xs.length + 1 := by simp
      rw [el] at b1
      exact ⟨_, _, _, hr, Ext.newG ((Below.refl _ w).drew.alloc (Nat.le_refl _) _) (Nat.le_refl _) (by simp) _ (fun t' g' e => by cases e; simp; omega), b1, fun b hb => setG_other A _ (by simp; omega), fun b cs ty fr hb _ => (Below.heap_alloc w.drew _ b (Array.getElem?_eq_some_iff.1 hb).1).trans hb⟩

/-- One step more is kept. -/
theorem Parts.push {A B : Gh} {w w' : World} {p : Nat} {fs fv : Fs} {ss : List (List U)} {k : Dk} {x v' : Value} {us : List U} (hd : Parts A w p fs fv ss k) (hp : p < w.heap.size) (hE : Ext (· = 2 * p + 1) noX A w B w') (hx : StepAt A w x us)
    (hR : RowAt (2 * p + 1) B w' v' (k.xs ++ [x])) (hG : ∀ b, b < w.heap.size → B b = A b) : Parts B w' p fs fv (ss ++ [us]) { k with vs := v', xs := k.xs ++ [x] } := by
  have h0 : ¬ (2 * p = 2 * p + 1) := by omega
  obtain ⟨gv, hgv⟩ := hd.mv
  refine ⟨(hG p hp).trans hd.own, fixed_keep hE hd.synced.map.lt hd.ms, ⟨gv, (hG _ hd.seen.map.lt).trans hgv⟩, hd.clip, hd.synced.extC hd.clip hE hd.ms, hd.seen.ext hE (fun _ h => h.elim) h0 (by rw [hgv]; simp) (fun t g e => by rw [hgv] at e; cases e; omega), hR, by simp [hd.len], fun i y vs hy hvs => ?_⟩
  have hlen := hd.len
  by_cases hi : i < k.xs.length
  · rw [List.getElem?_append_left hi] at hy
    rw [List.getElem?_append_left (by omega)] at hvs
    exact (hd.steps i y vs hy hvs).ext hE
  · have hil := (List.getElem?_eq_some_iff.1 hy).1
    simp at hil
    obtain rfl : i = k.xs.length := by omega
    rw [hlen] at hvs
    rw [List.getElem?_append_right (Nat.le_refl _), Nat.sub_self] at hy hvs
    simp at hy hvs
    subst hy hvs
    exact hx.ext hE
end Go.Proofs.Ytfmigkmkdhciiaa.K
