/-
  Logs: plain mathematics of a log's files, and of what is appended to them byte by byte.
-/
import Derived.Test.YtcioomlhdaihkaaGreatDoorWH
namespace Go.Proofs.YtcioomlhdaihkaaGreatDoor.L
set_option linter.unusedVariables false
set_option linter.unusedSimpArgs false
open Wire

/-- A segment: its number, its bytes, what they say. -/
abbrev Sg := Nat × Bs × Option SgT
def fileOf (a : Sg) : Bs × Bs := (nm a.1, a.2.1)
def drF : Option Bs → K.Fs
  | none => []
  | some c => [(draft, c)]
def mkFs (A : List Sg) (dr : Option Bs) : K.Fs := A.map fileOf ++ drF dr
/-- Segments whose numbers rise, to N at most. -/
structure SegsG (N : Nat) (A : List Sg) : Prop where
  inc : A.Pairwise (fun a b => a.1 < b.1)
  num : ∀ a ∈ A, 1 ≤ a.1 ∧ a.1 ≤ N
  seg : ∀ a ∈ A, SegIs a.2.1 a.2.2 ∧ a.2.1.length ≤ 2000
def its (A : List Sg) : List SgT := items (A.map (·.2.2))
def nums (A : List Sg) : List Nat := A.map (·.1)

theorem SegsG.mono {N M : Nat} {A : List Sg} (h : SegsG N A) (hm : N ≤ M) : SegsG M A := ⟨h.inc, fun a ha => ⟨(h.num a ha).1, Nat.le_trans (h.num a ha).2 hm⟩, h.seg⟩
theorem SegsG.sub {N : Nat} {A B : List Sg} (h : SegsG N A) (hs : B.Sublist A) : SegsG N B := ⟨h.inc.sublist hs, fun a ha => h.num a (hs.subset ha), fun a ha => h.seg a (hs.subset ha)⟩
theorem SegsG.snoc {N k : Nat} {A : List Sg} (h : SegsG N A) (hk : ∀ a ∈ A, a.1 < k) (h1 : 1 ≤ k) (h2 : k ≤ N) {c : Bs} {o : Option SgT} (hs : SegIs c o) (hc : c.length ≤ 2000) : SegsG N (A ++ [(k, c, o)]) := by
  refine ⟨List.pairwise_append.2 ⟨h.inc, List.pairwise_singleton _ _, fun a ha b hb => by rw [List.mem_singleton.1 hb]; exact hk a ha⟩, fun a ha => ?_, fun a ha => ?_⟩
  · rcases List.mem_append.1 ha with ha | ha
    · exact h.num a ha
    · rw [List.mem_singleton.1 ha]; exact ⟨h1, h2⟩
  · rcases List.mem_append.1 ha with ha | ha
    · exact h.seg a ha
    · rw [List.mem_singleton.1 ha]; exact ⟨hs, hc⟩
theorem SegsG.init {N : Nat} {A : List Sg} {a : Sg} (h : SegsG N (A ++ [a])) : SegsG N A ∧ (∀ b ∈ A, b.1 < a.1) ∧ 1 ≤ a.1 ∧ a.1 ≤ N := by
  refine ⟨h.sub (List.sublist_append_left _ _), fun b hb => (List.pairwise_append.1 h.inc).2.2 b hb a (List.mem_singleton.2 rfl), h.num a (by simp)⟩
theorem inc_len {A : List Sg} {N : Nat} (h : SegsG N A) : A.length ≤ N := by
  have key : ∀ (A : List Sg) (lo : Nat), A.Pairwise (fun a b => a.1 < b.1) → (∀ a ∈ A, lo < a.1 ∧ a.1 ≤ N) → A.length ≤ N - lo := by
    intro A
    induction A with
    | nil => intro lo _ _; exact Nat.zero_le _
    | cons a r ih =>
      intro lo hp hn
      obtain ⟨h1, h2⟩ := List.pairwise_cons.1 hp
      have ha := hn a (List.mem_cons_self ..)
      have := ih a.1 h2 (fun b hb => ⟨h1 b hb, (hn b (List.mem_cons_of_mem _ hb)).2⟩)
      simp only [List.length_cons]
      omega
  have := key A 0 h.inc (fun a ha => ⟨(h.num a ha).1, (h.num a ha).2⟩)
  omega

/-! ### files -/
theorem nm_lt' {j k : Nat} (hj : j < k) (hk : k < 100) : nm j < nm k := nm_lt ⟨j, by omega⟩ ⟨k, hk⟩ hj
theorem nm_ne_draft {k : Nat} (hk : k < 100) : nm k ≠ draft := fun e => by have := nm_draft ⟨k, hk⟩; simp only at this; rw [e] at this; exact K.lt_irrefl _ this
theorem lt_asymm' {a b : Bs} (h : a < b) : ¬ b < a := fun k => K.lt_irrefl _ (K.lt_trans h k)
theorem get_app {f g : K.Fs} {n : Bs} (h : ∀ x ∈ f, x.1 ≠ n) : K.get (f ++ g) n = K.get g n := by
  induction f with
  | nil => rfl
  | cons p r ih =>
    obtain ⟨m, d⟩ := p
    rw [List.cons_append, K.get, if_neg (h (m, d) (List.mem_cons_self ..))]
    exact ih (fun x hx => h x (List.mem_cons_of_mem _ hx))
theorem put_app {f g : K.Fs} {n c : Bs} (h : ∀ x ∈ f, x.1 < n) : K.put n c (f ++ g) = f ++ K.put n c g := by
  induction f with
  | nil => rfl
  | cons p r ih =>
    obtain ⟨m, d⟩ := p
    have h1 : m < n := h (m, d) (List.mem_cons_self ..)
    rw [List.cons_append, K.put, if_neg (fun e => by rw [e] at h1; exact K.lt_irrefl _ h1), if_neg (lt_asymm' h1), ih (fun x hx => h x (List.mem_cons_of_mem _ hx))]
    rfl
theorem del_app (f g : K.Fs) (n : Bs) : K.del n (f ++ g) = K.del n f ++ K.del n g := List.filter_append ..
theorem del_none {f : K.Fs} {n : Bs} (h : ∀ x ∈ f, x.1 ≠ n) : K.del n f = f := by
  unfold K.del
  exact List.filter_eq_self.2 (fun x hx => by simpa using h x hx)
theorem put_same' {n c : Bs} {f : K.Fs} (hs : K.Sorted f) (h : K.get f n = some c) : K.put n c f = f := by
  induction f with
  | nil => cases h
  | cons p r ih =>
    obtain ⟨m, d⟩ := p
    obtain ⟨h1, h2⟩ := List.pairwise_cons.1 hs
    unfold K.get at h
    by_cases e : m = n
    · rw [if_pos e] at h
      cases h
      subst e
      rw [K.put, if_pos rfl]
    · rw [if_neg e] at h
      have hlt : m < n := h1 (n, c) (K.get_mem h)
      rw [K.put, if_neg (fun h => e h.symm), if_neg (lt_asymm' hlt), ih h2 h]
theorem put_put (n c d : Bs) (f : K.Fs) : K.put n d (K.put n c f) = K.put n d f := by
  induction f with
  | nil => simp [K.put]
  | cons p r ih =>
    obtain ⟨m, x⟩ := p
    by_cases e : n = m
    · subst e
      simp [K.put]
    · by_cases hl : n < m
      · have e1 : K.put n c ((m, x) :: r) = (n, c) :: (m, x) :: r := by rw [K.put, if_neg e, if_pos hl]
        have e2 : K.put n d ((m, x) :: r) = (n, d) :: (m, x) :: r := by rw [K.put, if_neg e, if_pos hl]
        rw [e1, e2, K.put, if_pos rfl]
      · have e1 : ∀ c, K.put n c ((m, x) :: r) = (m, x) :: K.put n c r := fun c => by rw [K.put, if_neg e, if_neg hl]
        rw [e1 c, K.put, if_neg e, if_neg hl, ih]
        exact (e1 d).symm

section
variable {N : Nat} {A : List Sg} {dr : Option Bs}
theorem seg_names (h : SegsG N A) (hN : N < 100) {n : Bs} : (∀ k, k ≤ N → (∀ a ∈ A, a.1 < k) → n = nm k → ∀ x ∈ A.map fileOf, x.1 < n) ∧ (n = draft → ∀ x ∈ A.map fileOf, x.1 < n) := by
  refine ⟨fun k hk hl e x hx => ?_, fun e x hx => ?_⟩
  · obtain ⟨a, ha, rfl⟩ := List.mem_map.1 hx
    rw [e]
    exact nm_lt' (hl a ha) (by omega)
  · obtain ⟨a, ha, rfl⟩ := List.mem_map.1 hx
    rw [e]
    exact nm_draft ⟨a.1, by have := h.num a ha; omega⟩
theorem lt_ne {a b : Bs} (h : a < b) : a ≠ b := fun e => by rw [e] at h; exact K.lt_irrefl _ h
theorem get_draft (h : SegsG N A) (hN : N < 100) : K.get (mkFs A dr) draft = dr := by
  unfold mkFs
  rw [get_app (fun x hx => lt_ne ((seg_names h hN).2 rfl x hx))]
  cases dr with
  | none => rfl
  | some c => simp [drF, K.get]
theorem put_draft (h : SegsG N A) (hN : N < 100) (c : Bs) : K.put draft c (mkFs A dr) = mkFs A (some c) := by
  unfold mkFs
  rw [put_app ((seg_names h hN).2 rfl)]
  cases dr with
  | none => rfl
  | some d => simp [drF, K.put]
theorem del_draft_fs (h : SegsG N A) (hN : N < 100) : K.del draft (mkFs A dr) = mkFs A none := by
  unfold mkFs
  rw [del_app, del_none (fun x hx => lt_ne ((seg_names h hN).2 rfl x hx))]
  cases dr with
  | none => rfl
  | some d => simp [drF, K.del]
theorem drF_ne {k : Nat} (hk : k < 100) : ∀ x ∈ drF dr, x.1 ≠ nm k := by
  intro x hx
  cases dr with
  | none => cases hx
  | some c =>
    have e : x = (draft, c) := List.mem_singleton.1 hx
    rw [e]
    exact (nm_ne_draft hk).symm
theorem get_drF {k : Nat} (hk : k < 100) : K.get (drF dr) (nm k) = none := by
  have := get_app (g := []) (drF_ne (dr := dr) hk)
  rw [List.append_nil] at this
  exact this
theorem get_new (h : SegsG N A) {k : Nat} (hk : k < 100) (hl : ∀ a ∈ A, a.1 < k) : K.get (mkFs A dr) (nm k) = none := by
  unfold mkFs
  rw [get_app (fun x hx => by obtain ⟨a, ha, rfl⟩ := List.mem_map.1 hx; exact lt_ne (nm_lt' (hl a ha) hk))]
  exact get_drF hk
theorem put_drF {k : Nat} (hk : k < 100) (c : Bs) : K.put (nm k) c (drF dr) = (nm k, c) :: drF dr := by
  cases dr with
  | none => rfl
  | some d => rw [drF, K.put, if_neg (nm_ne_draft hk), if_pos (nm_draft ⟨k, hk⟩)]
theorem put_new {k : Nat} (hk : k < 100) (hl : ∀ a ∈ A, a.1 < k) (c : Bs) (o : Option SgT) : K.put (nm k) c (mkFs A dr) = mkFs (A ++ [(k, c, o)]) dr := by
  unfold mkFs
  rw [put_app (fun x hx => by obtain ⟨a, ha, rfl⟩ := List.mem_map.1 hx; exact nm_lt' (hl a ha) hk), put_drF hk, List.map_append, List.append_assoc]
  rfl
theorem get_last {k : Nat} (hk : k < 100) (hl : ∀ a ∈ A, a.1 < k) (c : Bs) (o : Option SgT) : K.get (mkFs (A ++ [(k, c, o)]) dr) (nm k) = some c := by
  rw [← put_new hk hl]
  exact K.get_put_same _ _ _
theorem put_last {k : Nat} (hk : k < 100) (hl : ∀ a ∈ A, a.1 < k) (c d : Bs) (o o' : Option SgT) : K.put (nm k) d (mkFs (A ++ [(k, c, o)]) dr) = mkFs (A ++ [(k, d, o')]) dr := by
  rw [← put_new hk hl, put_put, put_new hk hl]
theorem del_head {a : Sg} (h : SegsG N (a :: A)) (hN : N < 100) : K.del (nm a.1) (mkFs (a :: A) dr) = mkFs A dr := by
  have ha := h.num a (List.mem_cons_self ..)
  have hp := (List.pairwise_cons.1 h.inc).1
  unfold mkFs
  rw [del_app, del_none (drF_ne (by omega)), List.map_cons]
  congr 1
  unfold K.del
  rw [List.filter_cons_of_neg (by simp [fileOf])]
  refine List.filter_eq_self.2 (fun x hx => ?_)
  obtain ⟨b, hb, rfl⟩ := List.mem_map.1 hx
  have hne := (lt_ne (nm_lt' (hp b hb) (by have := h.num b (List.mem_cons_of_mem _ hb); omega))).symm
  simpa [fileOf] using hne
theorem get_head {a : Sg} : K.get (mkFs (a :: A) dr) (nm a.1) = some a.2.1 := by
  simp [mkFs, fileOf, K.get]
theorem mkFs_sorted (h : SegsG N A) (hN : N < 100) : K.Sorted (mkFs A dr) := by
  unfold mkFs K.Sorted
  refine List.pairwise_append.2 ⟨?_, ?_, fun x hx y hy => ?_⟩
  · rw [List.pairwise_map]
    exact h.inc.imp_of_mem (fun {a b} _ hb hab => nm_lt' hab (by have := (h.num b hb).2; omega))
  · cases dr with
    | none => exact List.Pairwise.nil
    | some c => exact List.pairwise_singleton _ _
  · cases dr with
    | none => cases hy
    | some c =>
      have e : y = (draft, c) := List.mem_singleton.1 hy
      rw [e]
      exact (seg_names h hN).2 rfl x hx
theorem mkFs_names (h : SegsG N A) (hN : N < 100) : NamesOk (mkFs A dr) (nums A) dr.isSome := by
  refine ⟨?_, fun k hk => ?_⟩
  · unfold K.names mkFs namesOf nums
    rw [List.map_append, List.map_map, List.map_map]
    congr 1
    cases dr <;> rfl
  · obtain ⟨a, ha, rfl⟩ := List.mem_map.1 hk
    have := h.num a ha
    omega
theorem mkFs_get (h : SegsG N A) (hN : N < 100) {a : Sg} (ha : a ∈ A) : K.get (mkFs A dr) (nm a.1) = some a.2.1 :=
  K.get_of_mem (mkFs_sorted h hN) (List.mem_append_left _ (List.mem_map.2 ⟨a, ha, rfl⟩))
theorem mkFs_segs (h : SegsG N A) (hN : N < 100) : SegsOk (mkFs A dr) (nums A) (A.map (·.2.2)) := by
  refine ⟨by simp [nums], fun i k o hk ho => ?_⟩
  unfold nums at hk
  rw [List.getElem?_map] at hk ho
  cases hx : A[i]? with
  | none => rw [hx] at hk; cases hk
  | some a =>
    rw [hx] at hk ho
    cases hk
    cases ho
    have ha := List.mem_of_getElem? hx
    obtain ⟨h1, h2⟩ := h.seg a ha
    exact ⟨a.2.1, mkFs_get h hN ha, by omega, h1⟩
theorem seg_tot {c : Bs} {u : SgT} (h : SegIs c (some u)) (hc : c.length ≤ 2000) : u.2.2.length ≤ 400 := by
  obtain ⟨l, rest, hs, ⟨_, h0⟩ | ⟨b, n, t, rfl, hn, ho⟩⟩ := h
  · cases h0
  · split at ho
    · cases ho
    · cases ho
      have h1 := Q.row_count (hdB b n :: t)
      have h2 := Q.scan_len hs
      simp only [List.length_cons] at h1 ⊢
      omega
theorem its_tots (h : SegsG N A) (hN : N < 100) : tots (its A) ≤ 40000 := by
  have key : ∀ A : List Sg, (∀ a ∈ A, SegIs a.2.1 a.2.2 ∧ a.2.1.length ≤ 2000) → tots (its A) ≤ 400 * A.length := by
    intro A
    induction A with
    | nil => intro _; simp [its, items, tots]
    | cons a r ih =>
      intro hs
      have := ih (fun b hb => hs b (List.mem_cons_of_mem _ hb))
      obtain ⟨h1, h2⟩ := hs a (List.mem_cons_self ..)
      unfold its items tots at this ⊢
      rw [List.map_cons]
      obtain ⟨k, c, o⟩ := a
      cases o with
      | none => simp only [List.filterMap_cons, id, List.length_cons]; omega
      | some u =>
        have h3 := seg_tot h1 h2
        simp only [List.filterMap_cons, id, List.map_cons, List.sum_cons, List.length_cons]
        omega
  have h1 := key A h.seg
  have h2 := inc_len h
  have : 400 * A.length ≤ 400 * 100 := Nat.mul_le_mul_left _ (by omega)
  omega
theorem mkFs_used (h : SegsG N A) (hN : N < 100) (hd : ∀ c, dr = some c → c.length ≤ 2000) : K.used (mkFs A dr) ≤ 202000 := by
  have key : ∀ A : List Sg, (∀ a ∈ A, SegIs a.2.1 a.2.2 ∧ a.2.1.length ≤ 2000) → K.used (A.map fileOf) ≤ 2000 * A.length := by
    intro A
    induction A with
    | nil => intro _; simp [K.used]
    | cons a r ih =>
      intro hs
      have := ih (fun b hb => hs b (List.mem_cons_of_mem _ hb))
      have h2 := (hs a (List.mem_cons_self ..)).2
      unfold K.used at this ⊢
      simp only [List.map_cons, List.sum_cons, List.length_cons, fileOf] at this ⊢
      omega
  have h1 := key A h.seg
  have h2 := inc_len h
  have h3 : K.used (drF dr) ≤ 2000 := by
    cases dr with
    | none => simp [drF, K.used]
    | some c => have := hd c rfl; simpa [drF, K.used] using this
  have e : K.used (mkFs A dr) = K.used (A.map fileOf) + K.used (drF dr) := by unfold K.used mkFs; rw [List.map_append, List.sum_append]
  rw [e]
  have : 2000 * A.length ≤ 2000 * 100 := Nat.mul_le_mul_left _ (by omega)
  omega
theorem nextNum_nums (h : SegsG N A) : nextNum (nums A) ≤ N + 1 ∧ 1 ≤ nextNum (nums A) ∧ ∀ a ∈ A, a.1 < nextNum (nums A) := by
  rcases List.eq_nil_or_concat A with rfl | ⟨r, a, rfl⟩
  · simp [nums, nextNum]
  · rw [List.concat_eq_append] at h ⊢
    obtain ⟨_, h2, h3, h4⟩ := h.init
    have e : nextNum (nums (r ++ [a])) = a.1 + 1 := by unfold nums; rw [List.map_append]; exact nextNum_snoc _ _
    rw [e]
    refine ⟨by omega, by omega, fun b hb => ?_⟩
    rcases List.mem_append.1 hb with hb | hb
    · have := h2 b hb; omega
    · rw [List.mem_singleton.1 hb]; omega
end

/-! ### bytes one by one -/
theorem runs_cons (u : K.U) (us : List K.U) (f : K.Fs) : K.runs (u :: us) f = K.runs us (u.run f) := rfl
theorem runs_bytes (n : Bs) : ∀ (c c0 : Bs) (f : K.Fs), K.runs (c.map (K.U.byte n)) (K.put n c0 f) = K.put n (c0 ++ c) f
  | [], c0, f => by simp [K.runs]
  | x :: r, c0, f => by
    rw [List.map_cons, runs_cons]
    have e : (K.U.byte n x).run (K.put n c0 f) = K.put n (c0 ++ [x]) f := by
      show K.put n ((K.get (K.put n c0 f) n).getD [] ++ [x]) (K.put n c0 f) = _
      rw [K.get_put_same, put_put]
      rfl
    rw [e, runs_bytes n r, List.append_assoc]
    rfl
theorem runs_new (n c : Bs) (f : K.Fs) (j : Nat) : K.runs ((K.appendUs n c false).take j) f = if j = 0 then f else K.put n (c.take (j - 1)) f := by
  unfold K.appendUs
  rw [if_neg (by simp)]
  cases j with
  | zero => rfl
  | succ j =>
    rw [if_neg (by omega), List.singleton_append, List.take_succ_cons, runs_cons, ← List.map_take]
    show K.runs _ (K.put n [] f) = _
    rw [runs_bytes]
    simp
theorem runs_more {n c0 : Bs} {f : K.Fs} (hs : K.Sorted f) (hg : K.get f n = some c0) (c : Bs) (j : Nat) : K.runs ((K.appendUs n c true).take j) f = K.put n (c0 ++ c.take j) f := by
  unfold K.appendUs
  rw [if_pos rfl, List.nil_append, ← List.map_take]
  conv => lhs; rw [← put_same' hs hg]
  exact runs_bytes _ _ _ _
end Go.Proofs.YtcioomlhdaihkaaGreatDoor.L

namespace Go.Proofs.YtcioomlhdaihkaaGreatDoor.L
set_option linter.unusedVariables false
set_option linter.unusedSimpArgs false
open Wire

/-! ### how long rows are -/
def wgt (S : List Bs) : Nat := (S.map (fun t => t.length + 6)).sum
theorem wgt_nil : wgt [] = 0 := rfl
theorem wgt_cons (t : Bs) (S : List Bs) : wgt (t :: S) = t.length + 6 + wgt S := by simp [wgt]
theorem wgt_app (S T : List Bs) : wgt (S ++ T) = wgt S + wgt T := by simp [wgt]
theorem wgt_mem {S : List Bs} {t : Bs} (h : t ∈ S) : t.length + 6 ≤ wgt S := by
  induction S with
  | nil => cases h
  | cons x r ih =>
    rw [wgt_cons]
    rcases List.mem_cons.1 h with rfl | h
    · omega
    · have := ih h; omega
theorem wgt_len (S : List Bs) : 6 * S.length ≤ wgt S := by
  induction S with
  | nil => simp
  | cons x r ih => rw [wgt_cons, List.length_cons]; omega
theorem wgt_small {S : List Bs} (h : wgt S ≤ 900) : ∀ t ∈ S, t.length ≤ 65536 := fun t ht => by have := wgt_mem ht; omega
theorem rec_len {t : Bs} (h : t.length ≤ 65536) : (Q.record t).length ≤ t.length + 8 := by
  rw [Q.record_length]; have := Q.enc_le4 h; omega
theorem row_len (S : List Bs) (h : ∀ t ∈ S, t.length ≤ 65536) : (Q.rowB S).length ≤ 2 * wgt S := by
  induction S with
  | nil => simp [Q.rowB]
  | cons x r ih =>
    rw [Q.rowB_cons, List.length_append, wgt_cons]
    have h1 := rec_len (h x (List.mem_cons_self ..))
    have h2 := ih (fun t ht => h t (List.mem_cons_of_mem _ ht))
    omega
theorem hd_small {b : Bool} {n : Nat} (hn : n ≤ 1000) : (hdB b n).length ≤ 65536 := by have := hdB_len b n (by omega); omega
theorem seg_small {b : Bool} {n : Nat} {S : List Bs} (hn : n ≤ 1000) (h : wgt S ≤ 900) : ∀ t ∈ hdB b n :: S, t.length ≤ 65536 := fun t ht => by
  rcases List.mem_cons.1 ht with rfl | ht
  · exact hd_small hn
  · exact wgt_small h t ht
theorem seg_len {b : Bool} {n : Nat} {S : List Bs} (hn : n ≤ 1000) (h : wgt S ≤ 900) : (Q.rowB (hdB b n :: S)).length ≤ 2000 := by
  rw [Q.rowB_cons, List.length_append]
  have h1 := rec_len (hd_small (b := b) hn)
  have h2 := hdB_len b n (by omega)
  have h3 := row_len S (wgt_small h)
  omega

/-! ### rows that are cut -/
theorem cut_ex : ∀ (l : List Bs) (k : Nat), k ≤ (Q.rowB l).length → ∃ m, m ≤ l.length ∧ (Q.rowB (l.take m)).length ≤ k ∧ ∀ t, l[m]? = some t → k < (Q.rowB (l.take m)).length + (Q.record t).length
  | [], k, h => ⟨0, Nat.le_refl _, by simp [Q.rowB], fun t ht => by simp at ht⟩
  | x :: r, k, h => by
    by_cases hk : k < (Q.record x).length
    · refine ⟨0, Nat.zero_le _, by simp [Q.rowB], fun t ht => ?_⟩
      simp at ht
      subst ht
      simp [Q.rowB]
      exact hk
    · rw [Q.rowB_cons, List.length_append] at h
      obtain ⟨m, h1, h2, h3⟩ := cut_ex r (k - (Q.record x).length) (by omega)
      refine ⟨m + 1, by simp; omega, by rw [List.take_succ_cons, Q.rowB_cons, List.length_append]; omega, fun t ht => ?_⟩
      have := h3 t (by simpa using ht)
      rw [List.take_succ_cons, Q.rowB_cons, List.length_append]
      omega
theorem row_cut {l : List Bs} (h : ∀ t ∈ l, t.length ≤ 65536) (k : Nat) : ∃ m rest, Q.IsScan ((Q.rowB l).take k) (l.take m) rest := by
  by_cases hk : k ≤ (Q.rowB l).length
  · obtain ⟨m, h1, h2, h3⟩ := cut_ex l k hk
    obtain ⟨rest, hs, _⟩ := Q.scan_cut h h1 h2 h3 hk
    exact ⟨m, rest, hs⟩
  · refine ⟨l.length, [], ?_⟩
    rw [List.take_of_length_le (by omega), List.take_length]
    exact Q.scan_row h
theorem seg_full {b : Bool} {n : Nat} {t : List Bs} (hn : n ≤ 1000) (hb : b = true → n = t.length) (hw : wgt t ≤ 900) : SegIs (Q.rowB (hdB b n :: t)) (some (b, n, t)) :=
  ⟨_, [], Q.scan_row (seg_small hn hw), .inr ⟨b, n, t, rfl, by omega, by rw [if_neg (fun h => h.2 (hb h.1))]⟩⟩
theorem seg_cut {n : Nat} {S : List Bs} (hn : n ≤ 1000) (hw : wgt S ≤ 900) (j : Nat) : ∃ o, SegIs ((Q.rowB (hdB false n :: S)).take j) o ∧ (o = none ∨ ∃ i, o = some (false, n, S.take i)) := by
  obtain ⟨m, rest, hs⟩ := row_cut (seg_small (b := false) hn hw) j
  cases m with
  | zero => exact ⟨none, ⟨_, rest, hs, .inl ⟨rfl, rfl⟩⟩, .inl rfl⟩
  | succ m => exact ⟨some (false, n, S.take m), ⟨_, rest, hs, .inr ⟨false, n, S.take m, by rw [List.take_succ_cons], by omega, by simp⟩⟩, .inr ⟨m, rfl⟩⟩
theorem seg_more {n : Nat} {t S : List Bs} (hn : n ≤ 1000) (hw : wgt t ≤ 900) (hS : wgt S ≤ 900) (j : Nat) : ∃ i, SegIs (Q.rowB (hdB false n :: t) ++ (Q.rowB S).take j) (some (false, n, t ++ S.take i)) := by
  obtain ⟨m, rest, hs⟩ := row_cut (wgt_small hS) j
  exact ⟨m, _, rest, Q.scan_behind (seg_small (b := false) hn hw) hs, .inr ⟨false, n, t ++ S.take m, by rw [List.cons_append], by omega, by simp⟩⟩

/-! ### what segments come to -/
theorem its_none (A : List Sg) (k : Nat) (c : Bs) : its (A ++ [(k, c, none)]) = its A := by simp [its, items]
theorem its_some (A : List Sg) (k : Nat) (c : Bs) (u : SgT) : its (A ++ [(k, c, some u)]) = its A ++ [u] := by simp [its, items]
theorem fold_F {us : List SgT} {T : List Bs} (h : foldT us = (T, true)) (S : List Bs) : foldT (us ++ [(false, T.length, S)]) = (T ++ S, true) := by
  rw [foldT_snoc, h]; simp [stp]
theorem fold_S (us : List SgT) (n : Nat) (T : List Bs) : foldT (us ++ [(true, n, T)]) = (T, true) := by
  rw [foldT_snoc]; simp [stp]
theorem fold_ext {us : List SgT} {n : Nat} {t T : List Bs} (h : foldT (us ++ [(false, n, t)]) = (T, true)) : (∃ T0, T = T0 ++ t) ∧ ∀ S, foldT (us ++ [(false, n, t ++ S)]) = (T ++ S, true) := by
  rw [foldT_snoc] at h
  unfold stp at h
  simp only [Bool.false_eq_true, if_false] at h
  split at h
  · rename_i hc
    injection h with h1 _
    refine ⟨⟨_, h1.symm⟩, fun S => ?_⟩
    rw [foldT_snoc]
    unfold stp
    simp only [Bool.false_eq_true, if_false]
    rw [if_pos hc, ← h1, List.append_assoc]
  · injection h with _ h2
    cases h2

/-! ### what a crash would keep -/
def HistG (G : K.Fs → Prop) (s : K.St) : Prop := ∀ m, m ≤ s.units → G (K.runs (s.pend.take m) s.synced)
/-- Files that a log could have: strings that begin those of P, at least so many. -/
def Good (N lo : Nat) (P : List Bs) (f : K.Fs) : Prop :=
  ∃ A dr T, f = mkFs A dr ∧ SegsG N A ∧ (∀ c, dr = some c → c.length ≤ 2000) ∧ foldT (its A) = (T, true) ∧ lo ≤ T.length ∧ T <+: P
theorem Good.mono {N M lo : Nat} {P R : List Bs} {f : K.Fs} (h : Good N lo P f) (hm : N ≤ M) (hp : P <+: R) : Good M lo R f := by
  obtain ⟨A, dr, T, h1, h2, h3, h4, h5, h6⟩ := h
  exact ⟨A, dr, T, h1, h2.mono hm, h3, h4, h5, h6.trans hp⟩
theorem HistG.mono {G H : K.Fs → Prop} {s : K.St} (h : HistG G s) (hg : ∀ f, G f → H f) : HistG H s := fun m hm => hg _ (h m hm)
/-- What a disk's call costs, at most. -/
structure Tame (c : Nat) (s s' : K.St) : Prop where
  left : s.left ≤ s'.left + c
  room : s'.room = s.room
  lim : s'.lim ≤ s.lim + 2 * c
  steps : s'.steps.length ≤ s.steps.length + c
theorem Tame.refl (s : K.St) : Tame 0 s s := ⟨Nat.le_refl _, rfl, Nat.le_refl _, Nat.le_refl _⟩
theorem Tame.trans {a b : Nat} {s t u : K.St} (h : Tame a s t) (k : Tame b t u) : Tame (a + b) s u :=
  ⟨by have := h.left; have := k.left; omega, k.room.trans h.room, by have := h.lim; have := k.lim; omega, by have := h.steps; have := k.steps; omega⟩
theorem Tame.mono {a b : Nat} {s t : K.St} (h : Tame a s t) (hab : a ≤ b) : Tame b s t :=
  ⟨by have := h.left; omega, h.room, by have := h.lim; omega, by have := h.steps; omega⟩
theorem hist_act {G : K.Fs → Prop} {s : K.St} (h : s.ok) (hd : s.down = false) (hh : HistG G s) {us : List K.U} (hu : ∀ j, j ≤ us.length → G (K.runs (us.take j) s.seen)) : HistG G (s.act us) := by
  unfold K.St.act
  split
  · intro m hm
    have e : ({ s.burn us.length with seen := K.runs (us.take (min us.length s.left)) s.seen, steps := s.steps ++ [us], units := s.units + min us.length s.left } : K.St).pend = s.pend ++ us := by simp [K.St.pend]
    rw [e]
    have hu2 := h.up hd
    have hm2 : m ≤ s.units + min us.length s.left := hm
    show G (K.runs ((s.pend ++ us).take m) s.synced)
    by_cases hle : m ≤ s.units
    · rw [List.take_append_of_le_length (by omega)]
      exact hh m hle
    · have e2 : (s.pend ++ us).take m = s.pend ++ us.take (m - s.pend.length) := by rw [List.take_append, List.take_of_length_le (by omega)]
      have hs := h.seen
      rw [hu2, List.take_length] at hs
      rw [e2, K.runs_append, ← hs]
      exact hu _ (by omega)
  · exact hh
theorem act_tame (s : K.St) (us : List K.U) : Tame us.length s (s.act us) := by
  refine ⟨?_, ?_, K.St.act_lim s us, ?_⟩
  · unfold K.St.act; split <;> (show s.left ≤ s.left - min us.length s.left + us.length; omega)
  · unfold K.St.act; split <;> rfl
  · unfold K.St.act
    split
    · simp; omega
    · exact Nat.le_add_right ..
theorem act_res {s : K.St} (us : List K.U) (hd : s.down = false) :
    (s.actE us = 0 ∧ (s.act us).down = false ∧ (s.act us).seen = K.runs us s.seen) ∨ (s.actE us = 70 ∧ (s.act us).down = true ∧ s.left < us.length) := by
  unfold K.St.actE
  by_cases hl : min us.length s.left < us.length
  · rw [if_pos hl]
    refine .inr ⟨rfl, ?_, by omega⟩
    unfold K.St.act
    split <;> exact decide_eq_true hl
  · rw [if_neg hl]
    refine .inl ⟨rfl, ?_, ?_⟩
    · unfold K.St.act
      split <;> exact decide_eq_false hl
    · unfold K.St.act
      split
      · show K.runs (us.take _) s.seen = _
        rw [List.take_of_length_le (by omega)]
      · have : us = [] := List.eq_nil_of_length_eq_zero (by omega)
        subst this
        rfl
/-- What comes of a disk's call. -/
def Out (G : K.Fs → Prop) (c : Nat) (C : K.St → Prop) (s : K.St) (r : K.St × Nat) : Prop :=
  Tame c s r.1 ∧ r.1.ok ∧ HistG G r.1 ∧ r.1.synced = s.synced ∧ ((r.2 = 0 ∧ r.1.down = false ∧ C r.1) ∨ (r.2 = 70 ∧ r.1.down = true ∧ s.left < c) ∨ (r.2 = 6 ∧ r.1 = s ∧ s.room < 204000))
theorem act_synced (s : K.St) (us : List K.U) : (s.act us).synced = s.synced := by unfold K.St.act; split <;> rfl
theorem out_act {G : K.Fs → Prop} {s : K.St} (h : s.ok) (hd : s.down = false) (hh : HistG G s) (us : List K.U) (hu : ∀ j, j ≤ us.length → G (K.runs (us.take j) s.seen)) {c : Nat} (hc : us.length ≤ c) : Out G c (fun s' => s'.seen = K.runs us s.seen) s (s.act us, s.actE us) := by
  refine ⟨(act_tame s us).mono hc, K.St.act_ok h us hd, hist_act h hd hh hu, act_synced s us, ?_⟩
  rcases act_res us hd with h1 | ⟨h1, h2, h3⟩
  · exact .inl h1
  · exact .inr (.inl ⟨h1, h2, by omega⟩)
theorem refuse_ok {s : K.St} (hd : s.down = false) {ns : List Bs} (h : ns.all K.may = true) : s.refuse ns = 0 := by
  unfold K.St.refuse
  rw [if_pos h, hd]
  rfl
theorem may_draft : K.may draft = true := by decide
end Go.Proofs.YtcioomlhdaihkaaGreatDoor.L

namespace Go.Proofs.YtcioomlhdaihkaaGreatDoor.L
set_option linter.unusedVariables false
set_option linter.unusedSimpArgs false
open Wire

/-- What comes of a disk's call, or of several: all is well; the disk is down; it is full. -/
def Outc (G : K.Fs → Prop) (c : Nat) (C D : K.St → Prop) (F : Prop) (s : K.St) (r : K.St × Nat) : Prop :=
  Tame c s r.1 ∧ r.1.ok ∧ HistG G r.1 ∧ r.1.synced = s.synced ∧ ((r.2 = 0 ∧ r.1.down = false ∧ C r.1) ∨ (r.2 = 70 ∧ r.1.down = true ∧ s.left < c) ∨ (r.2 = 6 ∧ r.1.down = false ∧ D r.1 ∧ F))
theorem outc_act {G : K.Fs → Prop} {s : K.St} (h : s.ok) (hd : s.down = false) (hh : HistG G s) (us : List K.U) (hu : ∀ j, j ≤ us.length → G (K.runs (us.take j) s.seen)) {c : Nat} (hc : us.length ≤ c) {C D : K.St → Prop} {F : Prop} (hC : ∀ s', s'.seen = K.runs us s.seen → C s') : Outc G c C D F s (s.act us, s.actE us) := by
  obtain ⟨h1, h2, h3, h4, h5⟩ := out_act h hd hh us hu hc
  refine ⟨h1, h2, h3, h4, ?_⟩
  rcases h5 with ⟨i1, i2, i3⟩ | h5 | ⟨h5, _⟩
  · exact .inl ⟨i1, i2, hC _ i3⟩
  · exact .inr (.inl h5)
  · simp [K.St.actE] at h5
    split at h5 <;> cases h5

/-- A disk of a log that is up. -/
structure Core (N : Nat) (A : List Sg) (dr : Option Bs) (T : List Bs) (s : K.St) : Prop where
  ok : s.ok
  up : s.down = false
  seen : s.seen = mkFs A dr
  segs : SegsG N A
  drl : ∀ c, dr = some c → c.length ≤ 2000
  fold : foldT (its A) = (T, true)
  wt : wgt T ≤ 900
theorem Core.good {N M lo : Nat} {A : List Sg} {dr : Option Bs} {T P : List Bs} {s : K.St} (h : Core N A dr T s) (hl : lo ≤ T.length) (hp : T <+: P) (hM : N ≤ M) : Good M lo P s.seen :=
  ⟨A, dr, T, h.seen, h.segs.mono hM, h.drl, h.fold, hl, hp⟩
theorem Core.used {N : Nat} {A : List Sg} {dr : Option Bs} {T : List Bs} {s : K.St} (h : Core N A dr T s) (hN : N < 100) : K.used s.seen ≤ 202000 := by rw [h.seen]; exact mkFs_used h.segs hN h.drl
theorem Core.cnt {N : Nat} {A : List Sg} {dr : Option Bs} {T : List Bs} {s : K.St} (h : Core N A dr T s) : T.length ≤ 150 := by have := wgt_len T; have := h.wt; omega
theorem take_pre (T S : List Bs) (i : Nat) : T ++ S.take i <+: T ++ S := ⟨S.drop i, by rw [List.append_assoc, List.take_append_drop]⟩

section
variable {N lo : Nat} {A : List Sg} {dr : Option Bs} {T S : List Bs} {s : K.St}
/-- A new segment. -/
theorem op_new (h : Core N A dr T s) (hN : N + 1 < 100) (hW : wgt (T ++ S) ≤ 900) (hl : lo ≤ T.length) (hh : HistG (Good N lo T) s) :
    Outc (Good (N + 1) lo (T ++ S)) 2001 (fun s' => s'.seen = mkFs (A ++ [(nextNum (nums A), rowOf false T.length S, some (false, T.length, S))]) dr) (fun s' => s' = s) (s.room < K.used s.seen + (rowOf false T.length S).length) s (s.append (nm (nextNum (nums A))) (rowOf false T.length S)) := by
  obtain ⟨k1, k2, k3⟩ := nextNum_nums h.segs
  generalize nextNum (nums A) = k at *
  have hWS : wgt S ≤ 900 := by rw [wgt_app] at hW; omega
  have hn : T.length ≤ 1000 := by have := h.cnt; omega
  have hc : (rowOf false T.length S).length ≤ 2000 := seg_len hn hWS
  have hg : K.get s.seen (nm k) = none := by rw [h.seen]; exact get_new h.segs (by omega) k3
  have hp : T <+: T ++ S := List.prefix_append _ _
  have hh2 : HistG (Good (N + 1) lo (T ++ S)) s := hh.mono (fun f hf => hf.mono (Nat.le_succ _) hp)
  unfold K.St.append
  rw [refuse_ok h.up (by simp [may_nm (show k < 100 by omega)])]
  rw [if_neg (by simp)]
  split
  · rename_i hr
    refine ⟨(Tame.refl s).mono (Nat.zero_le _), h.ok, hh2, rfl, .inr (.inr ⟨rfl, h.up, rfl, hr⟩)⟩
  · rw [hg]
    have hlen : (K.appendUs (nm k) (rowOf false T.length S) false).length = 1 + (rowOf false T.length S).length := by simp [K.appendUs]; omega
    refine outc_act h.ok h.up hh2 _ (fun j hj => ?_) (by show (K.appendUs (nm k) (rowOf false T.length S) false).length ≤ _; omega) (fun s' hs' => ?_)
    · show Good _ _ _ (K.runs ((K.appendUs (nm k) (rowOf false T.length S) false).take j) s.seen)
      rw [runs_new]
      split
      · exact h.good hl hp (Nat.le_succ _)
      · obtain ⟨o, ho, ho2⟩ := seg_cut (n := T.length) hn hWS (j - 1)
        rw [h.seen, put_new (by omega) k3 _ o]
        have hsg := (h.segs.mono (Nat.le_succ N)).snoc k3 k2 k1 ho (by have := List.length_take_le (j - 1) (Q.rowB (hdB false T.length :: S)); have := List.length_take_le' (j - 1) (Q.rowB (hdB false T.length :: S)); unfold rowOf at hc; omega)
        rcases ho2 with rfl | ⟨i, rfl⟩
        · exact ⟨_, dr, T, rfl, hsg, h.drl, by rw [its_none]; exact h.fold, hl, hp⟩
        · exact ⟨_, dr, T ++ S.take i, rfl, hsg, h.drl, by rw [its_some]; exact fold_F h.fold _, by rw [List.length_append]; omega, take_pre T S i⟩
    · have h9 := runs_new (nm k) (rowOf false T.length S) s.seen (K.appendUs (nm k) (rowOf false T.length S) false).length
      rw [List.take_length, if_neg (by omega), hlen, List.take_of_length_le (by omega)] at h9
      rw [hs']
      show K.runs (K.appendUs (nm k) (rowOf false T.length S) false) s.seen = _
      rw [h9, h.seen, put_new (by omega) k3]
/-- The last segment goes on. -/
theorem op_more {A0 : List Sg} {k n : Nat} {t : List Bs} (h : Core N (A0 ++ [(k, Q.rowB (hdB false n :: t), some (false, n, t))]) dr T s) (hN : N + 1 < 100) (hn : n ≤ 1000) (hW : wgt (T ++ S) ≤ 900) (hl : lo ≤ T.length) (hh : HistG (Good N lo T) s) :
    Outc (Good (N + 1) lo (T ++ S)) 2001 (fun s' => s'.seen = mkFs (A0 ++ [(k, Q.rowB (hdB false n :: (t ++ S)), some (false, n, t ++ S))]) dr) (fun s' => s' = s) (s.room < K.used s.seen + (Q.rowB S).length) s (s.append (nm k) (Q.rowB S)) ∧
    SegsG (N + 1) (A0 ++ [(k, Q.rowB (hdB false n :: (t ++ S)), some (false, n, t ++ S))]) ∧ foldT (its (A0 ++ [(k, Q.rowB (hdB false n :: (t ++ S)), some (false, n, t ++ S))])) = (T ++ S, true) := by
  obtain ⟨i0, i1, i2, i3⟩ := h.segs.init
  simp only at i1 i2 i3
  have hWS : wgt S ≤ 900 := by rw [wgt_app] at hW; omega
  have hf := h.fold
  rw [its_some] at hf
  obtain ⟨⟨T0, hT0⟩, hfe⟩ := fold_ext hf
  have hWt : wgt (t ++ S) ≤ 900 := by rw [hT0, wgt_app, wgt_app] at hW; rw [wgt_app]; omega
  have hWt0 : wgt t ≤ 900 := by rw [wgt_app] at hWt; omega
  have hp : T <+: T ++ S := List.prefix_append _ _
  have hh2 : HistG (Good (N + 1) lo (T ++ S)) s := hh.mono (fun f hf => hf.mono (Nat.le_succ _) hp)
  have hg : K.get s.seen (nm k) = some (Q.rowB (hdB false n :: t)) := by rw [h.seen]; exact get_last (by omega) i1 _ _
  have hsum : Q.rowB (hdB false n :: (t ++ S)) = Q.rowB (hdB false n :: t) ++ Q.rowB S := by rw [← Q.rowB_append]; rfl
  have hlen2 := seg_len (b := false) hn hWt
  have hlS : (Q.rowB S).length ≤ 2000 := by rw [hsum, List.length_append] at hlen2; omega
  have hfin : SegsG (N + 1) (A0 ++ [(k, Q.rowB (hdB false n :: (t ++ S)), some (false, n, t ++ S))]) := (i0.mono (Nat.le_succ N)).snoc i1 i2 (by omega) (seg_full hn (by simp) hWt) hlen2
  refine ⟨?_, hfin, by rw [its_some]; exact hfe S⟩
  unfold K.St.append
  rw [refuse_ok h.up (by simp [may_nm (show k < 100 by omega)])]
  rw [if_neg (by simp)]
  split
  · rename_i hr
    refine ⟨(Tame.refl s).mono (Nat.zero_le _), h.ok, hh2, rfl, .inr (.inr ⟨rfl, h.up, rfl, hr⟩)⟩
  · rw [hg]
    have hlen : (K.appendUs (nm k) (Q.rowB S) true).length = (Q.rowB S).length := by simp [K.appendUs]
    have hrun : ∀ j, K.runs ((K.appendUs (nm k) (Q.rowB S) true).take j) s.seen = K.put (nm k) (Q.rowB (hdB false n :: t) ++ (Q.rowB S).take j) s.seen := fun j => runs_more h.ok.sortedSeen hg _ j
    refine outc_act h.ok h.up hh2 _ (fun j hj => ?_) (by show (K.appendUs (nm k) (Q.rowB S) true).length ≤ _; omega) (fun s' hs' => ?_)
    · show Good _ _ _ (K.runs ((K.appendUs (nm k) (Q.rowB S) true).take j) s.seen)
      obtain ⟨i, hi⟩ := seg_more hn hWt0 hWS j
      have hlj := List.length_take_le' j (Q.rowB S)
      rw [hrun, h.seen, put_last (by omega) i1 _ _ _ (some (false, n, t ++ S.take i))]
      refine ⟨_, dr, T ++ S.take i, rfl, (i0.mono (Nat.le_succ N)).snoc i1 i2 (by omega) hi ?_, h.drl, by rw [its_some]; exact hfe _, by rw [List.length_append]; omega, take_pre T S i⟩
      rw [hsum, List.length_append] at hlen2
      rw [List.length_append]
      omega
    · have h9 := hrun (K.appendUs (nm k) (Q.rowB S) true).length
      rw [List.take_length, hlen, List.take_of_length_le (Nat.le_refl _), ← hsum] at h9
      rw [hs']
      show K.runs (K.appendUs (nm k) (Q.rowB S) true) s.seen = _
      rw [h9, h.seen, put_last (by omega) i1]
def rmD (s : K.St) : K.St × Nat := ((s.remove draft).1, if (s.remove draft).2 = 7 then 0 else (s.remove draft).2)
theorem two_of {us : List K.U} {u : K.U} {f : K.Fs} {G : K.Fs → Prop} (h0 : G f) (h1 : G (u.run f)) : ∀ j, j ≤ [u].length → G (K.runs ([u].take j) f) := by
  intro j hj
  cases j with
  | zero => exact h0
  | succ j => rw [List.take_succ_cons, List.take_nil]; exact h1
theorem op_rmDraft (h : Core N A dr T s) (hN : N < 100) {P : List Bs} (hP : T <+: P) (hl : lo ≤ T.length) (hh : HistG (Good N lo P) s) : Outc (Good N lo P) 1 (fun s' => s'.seen = mkFs A none) (fun _ => False) False s (rmD s) := by
  have hg : K.get s.seen draft = dr := by rw [h.seen]; exact get_draft h.segs hN
  have hdel : K.del draft s.seen = mkFs A none := by rw [h.seen]; exact del_draft_fs h.segs hN
  have e : s.remove draft = if dr.isSome = false then (s, 7) else (s.act [.del draft], s.actE [.del draft]) := by
    unfold K.St.remove
    rw [refuse_ok h.up (by simp [may_draft]), if_neg (by simp), hg]
  unfold rmD
  rw [e]
  cases dr with
  | none => exact ⟨(Tame.refl s).mono (Nat.zero_le _), h.ok, hh, rfl, .inl ⟨rfl, h.up, h.seen⟩⟩
  | some c =>
    have ho : Outc (Good N lo P) 1 (fun s' => s'.seen = mkFs A none) (fun _ => False) False s (s.act [.del draft], s.actE [.del draft]) :=
      outc_act h.ok h.up hh _ (two_of (us := []) (h.good hl hP (Nat.le_refl _)) (by show Good _ _ _ (K.del draft s.seen); rw [hdel]; exact ⟨A, none, T, rfl, h.segs, fun c h => (by cases h), h.fold, hl, hP⟩)) (Nat.le_refl _) (fun s' hs' => hs'.trans hdel)
    have e7 : ¬ s.actE [K.U.del draft] = 7 := by unfold K.St.actE; split <;> simp
    simp only [Option.isSome_some, Bool.true_eq_false, if_false, e7]
    exact ho
theorem op_wrDraft (h : Core N A none T s) (hN : N < 100) {P : List Bs} (hP : T <+: P) (hl : lo ≤ T.length) (hh : HistG (Good N lo P) s) :
    Outc (Good N lo P) 2001 (fun s' => s'.seen = mkFs A (some (rowOf true T.length T))) (fun s' => s' = s) (s.room < K.used s.seen + (rowOf true T.length T).length) s (s.append draft (rowOf true T.length T)) := by
  have hn : T.length ≤ 1000 := by have := h.cnt; omega
  have hc : (rowOf true T.length T).length ≤ 2000 := seg_len hn h.wt
  have hg : K.get s.seen draft = none := by rw [h.seen]; exact get_draft h.segs hN
  unfold K.St.append
  rw [refuse_ok h.up (by simp [may_draft]), if_neg (by simp)]
  split
  · rename_i hr
    refine ⟨(Tame.refl s).mono (Nat.zero_le _), h.ok, hh, rfl, .inr (.inr ⟨rfl, h.up, rfl, hr⟩)⟩
  · rw [hg]
    have hlen : (K.appendUs draft (rowOf true T.length T) false).length = 1 + (rowOf true T.length T).length := by simp [K.appendUs]; omega
    refine outc_act h.ok h.up hh _ (fun j hj => ?_) (by show (K.appendUs draft (rowOf true T.length T) false).length ≤ _; omega) (fun s' hs' => ?_)
    · show Good _ _ _ (K.runs ((K.appendUs draft (rowOf true T.length T) false).take j) s.seen)
      rw [runs_new]
      split
      · exact h.good hl hP (Nat.le_refl _)
      · rw [h.seen, put_draft h.segs hN]
        exact ⟨A, _, T, rfl, h.segs, fun c hc' => by cases hc'; have := List.length_take_le' (j - 1) (rowOf true T.length T); omega, h.fold, hl, hP⟩
    · have h9 := runs_new draft (rowOf true T.length T) s.seen (K.appendUs draft (rowOf true T.length T) false).length
      rw [List.take_length, if_neg (by omega), hlen, List.take_of_length_le (by omega)] at h9
      rw [hs']
      show K.runs (K.appendUs draft (rowOf true T.length T) false) s.seen = _
      rw [h9, h.seen, put_draft h.segs hN]
theorem op_rename (h : Core N A (some (rowOf true T.length T)) T s) (hN : N + 1 < 100) {P : List Bs} (hP : T <+: P) (hl : lo ≤ T.length) (hh : HistG (Good N lo P) s) :
    Outc (Good (N + 1) lo P) 1 (fun s' => s'.seen = mkFs (A ++ [(nextNum (nums A), rowOf true T.length T, some (true, T.length, T))]) none) (fun _ => False) False s (s.rename draft (nm (nextNum (nums A)))) ∧
    SegsG (N + 1) (A ++ [(nextNum (nums A), rowOf true T.length T, some (true, T.length, T))]) := by
  obtain ⟨k1, k2, k3⟩ := nextNum_nums h.segs
  generalize nextNum (nums A) = k at *
  have hn : T.length ≤ 1000 := by have := h.cnt; omega
  have hc : (rowOf true T.length T).length ≤ 2000 := seg_len hn h.wt
  have hg : K.get s.seen draft = some (rowOf true T.length T) := by rw [h.seen]; exact get_draft h.segs (by omega)
  have hsg : SegsG (N + 1) (A ++ [(k, rowOf true T.length T, some (true, T.length, T))]) := (h.segs.mono (Nat.le_succ N)).snoc k3 k2 k1 (seg_full hn (fun _ => rfl) h.wt) hc
  refine ⟨?_, hsg⟩
  have hrun : (K.U.ren draft (nm k)).run s.seen = mkFs (A ++ [(k, rowOf true T.length T, some (true, T.length, T))]) none := by
    show K.put (nm k) ((K.get s.seen draft).getD []) (K.del draft s.seen) = _
    rw [hg, h.seen, del_draft_fs h.segs (by omega), put_new (by omega) k3]
    rfl
  unfold K.St.rename
  rw [refuse_ok h.up (by simp [may_draft, may_nm (show k < 100 by omega)]), if_neg (by simp), hg, if_neg (by simp)]
  refine outc_act h.ok h.up (hh.mono (fun f hf => hf.mono (Nat.le_succ _) (List.prefix_refl _))) _ (two_of (us := []) (h.good hl hP (Nat.le_succ _)) ?_) (Nat.le_refl _) (fun s' hs' => hs'.trans hrun)
  rw [hrun]
  exact ⟨_, none, T, rfl, hsg, fun c h => (by cases h), by rw [its_some]; exact fold_S _ _ _, hl, hP⟩
theorem op_others {a : Sg} {m : Nat} (ha : a.2.2 = some (true, m, T)) {P : List Bs} (hP : T <+: P) (hl : lo ≤ T.length) (hN : N < 100) (hT : wgt T ≤ 900) : ∀ (B : List Sg) (s : K.St), s.ok → s.down = false → s.seen = mkFs (B ++ [a]) none → SegsG N (B ++ [a]) → HistG (Good N lo P) s →
    Outc (Good N lo P) B.length (fun s' => s'.seen = mkFs [a] none) (fun _ => False) False s (rmList (B.map (fun b => nm b.1)) s)
  | [], s, hok, hd, hs, hg, hh => ⟨Tame.refl s, hok, hh, rfl, .inl ⟨rfl, hd, hs⟩⟩
  | b :: B, s, hok, hd, hs, hg, hh => by
    have hb := hg.num b (by simp)
    have hfold : ∀ B : List Sg, foldT (its (B ++ [a])) = (T, true) := fun B => by
      obtain ⟨k, c, o⟩ := a
      simp only at ha
      subst ha
      rw [its_some]
      exact fold_S _ _ _
    have hgood : ∀ B : List Sg, SegsG N (B ++ [a]) → Good N lo P (mkFs (B ++ [a]) none) := fun B hB => ⟨_, none, T, rfl, hB, fun c h => (by cases h), hfold B, hl, hP⟩
    have hrun : (K.U.del (nm b.1)).run s.seen = mkFs (B ++ [a]) none := by
      show K.del (nm b.1) s.seen = _
      rw [hs, List.cons_append]
      exact del_head (by rw [← List.cons_append]; exact hg) hN
    have hsub : SegsG N (B ++ [a]) := hg.sub (List.sublist_cons_self _ _)
    have e : s.remove (nm b.1) = (s.act [.del (nm b.1)], s.actE [.del (nm b.1)]) := by
      unfold K.St.remove
      rw [refuse_ok hd (by simp [may_nm (show b.1 < 100 by omega)]), if_neg (by simp), hs, List.cons_append, get_head, if_neg (by simp)]
    have h1 : Outc (Good N lo P) 1 (fun s' => s'.seen = mkFs (B ++ [a]) none) (fun _ => False) False s (s.remove (nm b.1)) := by
      rw [e]
      refine outc_act hok hd hh _ (two_of (us := []) ?_ ?_) (Nat.le_refl _) (fun s' hs' => hs'.trans hrun)
      · rw [hs]; exact hgood _ hg
      · rw [hrun]; exact hgood _ hsub
    rw [List.map_cons, rmList_cons]
    obtain ⟨t1, t2, t3, t4, t5⟩ := h1
    rcases t5 with ⟨u1, u2, u3⟩ | ⟨u1, u2, u3⟩ | ⟨_, _, u, _⟩
    · rw [if_neg (by simp [u1])]
      obtain ⟨v1, v2, v3, v4, v5⟩ := op_others ha hP hl hN hT B _ t2 u2 u3 hsub t3
      refine ⟨(t1.trans v1).mono (by simp; omega), v2, v3, v4.trans t4, ?_⟩
      have hleft := t1.left
      rcases v5 with v5 | ⟨w1, w2, w3⟩ | ⟨w1, w2, w3, w4⟩
      · exact .inl v5
      · exact .inr (.inl ⟨w1, w2, by simp; omega⟩)
      · exact w3.elim
    · rw [if_pos (by omega)]
      exact ⟨t1.mono (by simp), t2, t3, t4, .inr (.inl ⟨u1, u2, by simp; omega⟩)⟩
    · exact u.elim
theorem op_sync (h : s.ok) (hd : s.down = false) : Tame 1 s s.sync.1 ∧ ((s.sync.2 = 0 ∧ s.sync.1.ok ∧ s.sync.1.down = false ∧ s.sync.1.seen = s.seen ∧ s.sync.1.units = 0 ∧ ∀ G : K.Fs → Prop, G s.seen → HistG G s.sync.1) ∨ (s.sync.2 = 70 ∧ s.sync.1.ok ∧ s.sync.1.down = true ∧ s.left < 1 ∧ ∀ G : K.Fs → Prop, HistG G s → HistG G s.sync.1)) := by
  have hok := K.St.sync_ok h
  refine ⟨⟨?_, ?_, by have := K.St.sync_lim h; omega, by have := sync_steps s; omega⟩, ?_⟩
  · unfold K.St.sync
    split
    · show s.left ≤ s.left + 1; omega
    · split
      · show s.left ≤ s.left - min 1 s.left + 1; omega
      · show s.left ≤ s.left - min 1 s.left + 1; omega
  · unfold K.St.sync
    split
    · rfl
    · split <;> rfl
  · unfold K.St.sync at hok ⊢
    rw [refuse_ok hd rfl, if_neg (by simp)] at hok ⊢
    split
    · rename_i h0
      rw [if_pos h0] at hok
      exact .inr ⟨rfl, hok, decide_eq_true (show min 1 s.left < 1 by omega), by omega, fun G hG => hG⟩
    · rename_i h0
      rw [if_neg h0] at hok
      refine .inl ⟨rfl, hok, decide_eq_false (show ¬ min 1 s.left < 1 by omega), rfl, rfl, fun G hG m hm => ?_⟩
      have : m = 0 := Nat.le_zero.1 hm
      subst this
      exact hG
end
end Go.Proofs.YtcioomlhdaihkaaGreatDoor.L

namespace Go.Proofs.YtcioomlhdaihkaaGreatDoor.L
set_option linter.unusedVariables false
set_option linter.unusedSimpArgs false
open Go Wire

/-- The segment that the next strings go to. -/
def LastOk (A : List Sg) (last : Bs) : Prop := last = [] ∨ ∃ A0 k n t, A = A0 ++ [(k, Q.rowB (hdB false n :: t), some (false, n, t))] ∧ last = nm k ∧ n ≤ 1000
/-- A log that is up. -/
structure Up (N : Nat) (A : List Sg) (dr : Option Bs) (z : Z) : Prop where
  core : Core N A dr z.2.texts z.1
  nb : z.2.broken = false
  syn : z.2.synced ≤ z.2.texts.length
  hist : HistG (Good N z.2.synced z.2.texts) z.1
  last : LastOk A z.2.last
/-- A log whose disk came down: what a crash would keep. -/
structure Dn (N : Nat) (P : List Bs) (z : Z) : Prop where
  ok : z.1.ok
  down : z.1.down = true
  syn : z.2.synced ≤ z.2.texts.length
  hist : HistG (Good N z.2.synced P) z.1
/-- Segments behind an append: which one grew, and what it holds then. -/
inductive AppA (A : List Sg) (x : Lg) (S : List Bs) : List Sg → Nat → Bs → Prop
  | new (h : x.last = []) : AppA A x S (A ++ [(nextNum (nums A), rowOf false x.texts.length S, some (false, x.texts.length, S))]) (nextNum (nums A)) (rowOf false x.texts.length S)
  | more {A0 : List Sg} {k n : Nat} {t : List Bs} (hA : A = A0 ++ [(k, Q.rowB (hdB false n :: t), some (false, n, t))]) (hl : x.last = nm k) : AppA A x S (A0 ++ [(k, Q.rowB (hdB false n :: (t ++ S)), some (false, n, t ++ S))]) k (Q.rowB (hdB false n :: (t ++ S)))

section
variable {N : Nat} {A : List Sg} {dr : Option Bs} {z : Z} {S : List Bs}
theorem nm_ne_nil (k : Nat) : nm k ≠ [] := by simp [nm]
theorem place_out (h : Up N A dr z) (hN : N + 1 < 100) (hW : wgt (z.2.texts ++ S) ≤ 900) : ∃ A' k c', AppA A z.2 S A' k c' ∧ (mPlace (nums A) z.2 S).1 = nm k ∧ SegsG (N + 1) A' ∧ foldT (its A') = (z.2.texts ++ S, true) ∧ k < 100 ∧ (∀ dr, K.get (mkFs A' dr) (nm k) = some c') ∧ c'.length ≤ 2000 ∧ LastOk A' (nm k) ∧
    Outc (Good (N + 1) z.2.synced (z.2.texts ++ S)) 2001 (fun s' => s'.seen = mkFs A' dr) (fun s' => s' = z.1) (z.1.room < K.used z.1.seen + (mPlace (nums A) z.2 S).2.length) z.1 (z.1.append (mPlace (nums A) z.2 S).1 (mPlace (nums A) z.2 S).2) := by
  have hn : z.2.texts.length ≤ 1000 := by have := h.core.cnt; omega
  have hWS : wgt S ≤ 900 := by rw [wgt_app] at hW; omega
  by_cases hl : z.2.last = []
  · have e : mPlace (nums A) z.2 S = (nm (nextNum (nums A)), rowOf false z.2.texts.length S) := by unfold mPlace; rw [if_pos hl]
    obtain ⟨k1, k2, k3⟩ := nextNum_nums h.core.segs
    rw [e]
    refine ⟨_, _, _, .new hl, rfl, (h.core.segs.mono (Nat.le_succ N)).snoc k3 k2 k1 (seg_full hn (by simp) hWS) (seg_len hn hWS), by rw [its_some]; exact fold_F h.core.fold S, by omega, fun dr => get_last (by omega) k3 _ _, seg_len hn hWS, .inr ⟨_, _, _, _, rfl, rfl, hn⟩, op_new h.core hN hW h.syn h.hist⟩
  · have e : mPlace (nums A) z.2 S = (z.2.last, Q.rowB S) := by unfold mPlace; rw [if_neg hl]
    rw [e]
    rcases h.last with h0 | ⟨A0, k, n, t, rfl, hlast, hn2⟩
    · exact absurd h0 hl
    · obtain ⟨h1, h2, h3⟩ := op_more h.core hN hn2 hW h.syn h.hist
      obtain ⟨i0, i1, i2, i3⟩ := h.core.segs.init
      simp only at i1 i2 i3
      rw [hlast]
      exact ⟨_, _, _, .more rfl hlast, rfl, h2, h3, by omega, fun dr => get_last (by omega) i1 _ _, (h2.seg _ (List.mem_append_right _ (List.mem_singleton.2 rfl))).2, .inr ⟨_, _, _, _, rfl, rfl, hn2⟩, h1⟩
theorem read_of {s : K.St} {k : Nat} {c : Bs} (hk : k < 100) (h : K.get s.seen (nm k) = some c) : s.read (nm k) = (c, 0) := by
  unfold K.St.read
  rw [may_nm hk, h]
  rfl
theorem app_full (h : Up N A dr z) (hN : N + 1 < 100) (hW : wgt (z.2.texts ++ S) ≤ 900) (h0 : (mAppend (mPlace (nums A) z.2 S).1 (mPlace (nums A) z.2 S).2 z).2 = 0) : ∃ c', (mAppend (mPlace (nums A) z.2 S).1 (mPlace (nums A) z.2 S).2 z).1.1.read (mPlace (nums A) z.2 S).1 = (c', 0) ∧ c'.length ≤ 1000000 := by
  obtain ⟨A', k, c', h1, h2, h3, h4, h5, h6, h7, h8, o1, o2, o3, o4, o5⟩ := place_out h hN hW
  rcases o5 with ⟨u1, u2, u3⟩ | ⟨u1, u2, u3⟩ | ⟨u1, u2, u3, u4⟩
  · refine ⟨c', ?_, by omega⟩
    show (z.1.append (mPlace (nums A) z.2 S).1 (mPlace (nums A) z.2 S).2).1.read (mPlace (nums A) z.2 S).1 = _
    rw [h2] at u3 ⊢
    exact read_of h5 (by rw [u3]; exact h6 dr)
  · have h0' : (z.1.append (mPlace (nums A) z.2 S).1 (mPlace (nums A) z.2 S).2).2 = 0 := h0
    omega
  · have h0' : (z.1.append (mPlace (nums A) z.2 S).1 (mPlace (nums A) z.2 S).2).2 = 0 := h0
    omega
theorem app_up (h : Up N A dr z) (hN : N + 1 < 100) (hW : wgt (z.2.texts ++ S) ≤ 900) (hS : S ≠ []) : Tame 2001 z.1 (mApp (nums A) S z).1.1 ∧
    (((mApp (nums A) S z).2 = 0 ∧ ∃ A' k c', AppA A z.2 S A' k c' ∧ Up (N + 1) A' dr (mApp (nums A) S z).1 ∧ (mApp (nums A) S z).1.2 = { z.2 with texts := z.2.texts ++ S, last := if z.2.limit ≤ c'.length then [] else nm k }) ∨
     ((mApp (nums A) S z).2 = 6 ∧ (mApp (nums A) S z).1 = z ∧ z.1.room < K.used z.1.seen + (mPlace (nums A) z.2 S).2.length) ∨
     ((mApp (nums A) S z).2 = 70 ∧ Dn (N + 1) (z.2.texts ++ S) (mApp (nums A) S z).1 ∧ (mApp (nums A) S z).1.2.texts = z.2.texts ∧ (mApp (nums A) S z).1.2.synced = z.2.synced ∧ (mApp (nums A) S z).1.2.disk = z.2.disk ∧ (mApp (nums A) S z).1.2.limit = z.2.limit ∧ z.1.left < 2001)) := by
  obtain ⟨A', k, c', h1, h2, h3, h4, h5, h6, h7, h8, o1, o2, o3, o4, o5⟩ := place_out h hN hW
  have e : mApp (nums A) S z = (if (z.1.append (mPlace (nums A) z.2 S).1 (mPlace (nums A) z.2 S).2).2 = 0 then ((((z.1.append (mPlace (nums A) z.2 S).1 (mPlace (nums A) z.2 S).2).1, { z.2 with texts := z.2.texts ++ S, last := full z.2 (z.1.append (mPlace (nums A) z.2 S).1 (mPlace (nums A) z.2 S).2).1 (mPlace (nums A) z.2 S).1 })), 0)
      else (((z.1.append (mPlace (nums A) z.2 S).1 (mPlace (nums A) z.2 S).2).1, { z.2 with broken := decide ((z.1.append (mPlace (nums A) z.2 S).1 (mPlace (nums A) z.2 S).2).2 = 70) }), (z.1.append (mPlace (nums A) z.2 S).1 (mPlace (nums A) z.2 S).2).2)) := by
    unfold mApp
    rw [h.nb, if_neg (by simp), if_neg hS]
    show (if (z.1.append _ _).2 = 0 then _ else _) = _
    by_cases h0 : (z.1.append (mPlace (nums A) z.2 S).1 (mPlace (nums A) z.2 S).2).2 = 0
    · rw [if_pos h0, if_pos h0]; rfl
    · rw [if_neg h0, if_neg h0]
      show (brk _, _) = _
      unfold brk
      have h0' : ¬ (mAppend (mPlace (nums A) z.2 S).1 (mPlace (nums A) z.2 S).2 z).2 = 0 := h0
      rw [if_neg h0']
      rfl
  rw [e]
  rw [h2] at o1 o2 o3 o4 o5 ⊢
  generalize z.1.append (nm k) (mPlace (nums A) z.2 S).2 = r at *
  obtain ⟨s1, e1⟩ := r
  simp only at *
  rcases o5 with ⟨u1, u2, u3⟩ | ⟨u1, u2, u3⟩ | ⟨u1, u2, u3, u4⟩
  · subst u1
    have hfl : full z.2 s1 (nm k) = if z.2.limit ≤ c'.length then [] else nm k := by
      unfold full
      rw [read_of h5 (by rw [u3]; exact h6 dr)]
    refine ⟨o1, .inl ⟨rfl, A', k, c', h1, ⟨⟨o2, u2, u3, h3, h.core.drl, h4, hW⟩, h.nb, ?_, o3, ?_⟩, by simp only [if_true, hfl]⟩⟩
    · show z.2.synced ≤ (z.2.texts ++ S).length
      have := h.syn
      rw [List.length_append]; omega
    · show LastOk A' (full z.2 s1 (nm k))
      rw [hfl]
      split
      · exact .inl rfl
      · exact h8
  · subst u1
    refine ⟨o1, .inr (.inr ⟨rfl, ⟨o2, u2, h.syn, o3⟩, rfl, rfl, rfl, rfl, u3⟩)⟩
  · subst u1
    subst u3
    refine ⟨o1, .inr (.inl ⟨rfl, ?_, u4⟩)⟩
    show (z.1, { z.2 with broken := false }) = z
    rw [← h.nb]
theorem app_nil (h : z.2.broken = false) (ks : List Nat) : mApp ks [] z = (z, 0) := by
  unfold mApp
  rw [h, if_neg (by simp), if_pos rfl]
theorem sync_up (h : Up N A dr z) : Tame 1 z.1 (mSyncL z).1.1 ∧
    (((mSyncL z).2 = 0 ∧ Up N A dr (mSyncL z).1 ∧ (mSyncL z).1.2 = { z.2 with synced := z.2.texts.length } ∧ (mSyncL z).1.1.units = 0) ∨
     ((mSyncL z).2 = 70 ∧ Dn N z.2.texts (mSyncL z).1 ∧ (mSyncL z).1.2.texts = z.2.texts ∧ (mSyncL z).1.2.synced = z.2.synced ∧ (mSyncL z).1.2.disk = z.2.disk ∧ (mSyncL z).1.2.limit = z.2.limit ∧ z.1.left < 1)) := by
  obtain ⟨t1, t2⟩ := op_sync h.core.ok h.core.up
  have e : mSyncL z = (if z.1.sync.2 = 0 then ((z.1.sync.1, { z.2 with synced := z.2.texts.length }), 0) else ((z.1.sync.1, { z.2 with broken := decide (z.1.sync.2 = 70) }), z.1.sync.2)) := by
    unfold mSyncL
    rw [h.nb, if_neg (by simp)]
    unfold brk mSync
    by_cases h0 : z.1.sync.2 = 0
    · simp [h0]
    · simp [h0]
  rw [e]
  rcases t2 with ⟨u1, u2, u3, u4, u5, u6⟩ | ⟨u1, u2, u3, u4, u5⟩
  · rw [if_pos u1]
    refine ⟨t1, .inl ⟨rfl, ⟨⟨u2, u3, u4.trans h.core.seen, h.core.segs, h.core.drl, h.core.fold, h.core.wt⟩, h.nb, Nat.le_refl _, u6 _ ?_, h.last⟩, rfl, u5⟩⟩
    exact h.core.good (Nat.le_refl _) (List.prefix_refl _) (Nat.le_refl _)
  · rw [if_neg (by omega), u1]
    exact ⟨t1, .inr ⟨rfl, ⟨u2, u3, h.syn, u5 _ h.hist⟩, rfl, rfl, rfl, rfl, u4⟩⟩
/-- A crash, and the log that is opened then. -/
theorem crash_open {M : Nat} {P : List Bs} {s : K.St} {lo : Nat} (hok : s.ok) (hh : HistG (Good M lo P) s) (hP : wgt P ≤ 900) (k p limit : Nat) : ∃ A dr T, (s.crashed k).seen = mkFs A dr ∧ SegsG M A ∧ (∀ c, dr = some c → c.length ≤ 2000) ∧ foldT (its A) = (T, true) ∧ lo ≤ T.length ∧ T <+: P ∧ Up M A dr (s.crashed k, mOpen p limit (s.crashed k) T) ∧ (mOpen p limit (s.crashed k) T).synced = T.length := by
  obtain ⟨A, dr, T, h1, h2, h3, h4, h5, h6⟩ := hh (min k s.units) (Nat.min_le_right _ _)
  have hseen : (s.crashed k).seen = mkFs A dr := h1
  have hwT : wgt T ≤ 900 := by obtain ⟨r, rfl⟩ := h6; rw [wgt_app] at hP; omega
  have hsy : (mOpen p limit (s.crashed k) T).synced = T.length := by show (if (s.crashed k).units = 0 then T.length else 0) = T.length; exact if_pos rfl
  have hgood : Good M T.length T (s.crashed k).seen := ⟨A, dr, T, hseen, h2, h3, h4, Nat.le_refl _, List.prefix_refl _⟩
  refine ⟨A, dr, T, hseen, h2, h3, h4, h5, h6, ⟨⟨K.St.crashed_ok hok k, rfl, hseen, h2, h3, h4, hwT⟩, rfl, Nat.le_of_eq hsy, ?_, .inl rfl⟩, hsy⟩
  rw [hsy]
  intro m hm
  have hm0 : m = 0 := Nat.le_zero.1 hm
  subst hm0
  exact hgood
/-- A log that is opened on a new disk. -/
theorem new_up (room p limit : Nat) : Up 0 [] none (K.new room, mOpen p limit (K.new room) []) := by
  refine ⟨⟨K.new_ok room, rfl, rfl, ⟨List.Pairwise.nil, fun a ha => (by cases ha), fun a ha => (by cases ha)⟩, fun c h => (by cases h), rfl, by simp [mOpen, wgt]⟩, rfl, Nat.le_refl _, fun m hm => ?_, .inl rfl⟩
  have hm0 : m = 0 := Nat.le_zero.1 hm
  subst hm0
  exact ⟨[], none, [], rfl, ⟨List.Pairwise.nil, fun a ha => (by cases ha), fun a ha => (by cases ha)⟩, fun c h => (by cases h), rfl, Nat.le_refl _, List.prefix_refl _⟩
/-- A log that is opened on a disk whose log is up, with nothing that is not synced. -/
theorem open_up (h : Up N A dr z) (p limit : Nat) : Up N A dr (z.1, mOpen p limit z.1 z.2.texts) := by
  refine ⟨h.core, rfl, ?_, ?_, .inl rfl⟩
  · show (if z.1.units = 0 then z.2.texts.length else 0) ≤ z.2.texts.length
    split <;> omega
  · show HistG (Good N (if z.1.units = 0 then z.2.texts.length else 0) z.2.texts) z.1
    split
    · rename_i hu
      intro m hm
      have hm0 : m = 0 := by omega
      subst hm0
      have := h.core.good (N := N) (M := N) (Nat.le_refl _) (List.prefix_refl _) (Nat.le_refl _)
      rw [h.core.ok.seen, hu] at this
      exact this
    · exact h.hist.mono (fun f ⟨A, dr, T, i1, i2, i3, i4, i5, i6⟩ => ⟨A, dr, T, i1, i2, i3, i4, Nat.zero_le _, i6⟩)
end
end Go.Proofs.YtcioomlhdaihkaaGreatDoor.L

namespace Go.Proofs.YtcioomlhdaihkaaGreatDoor.L
set_option linter.unusedVariables false
set_option linter.unusedSimpArgs false
open Go Wire

def snapSg (A : List Sg) (T : List Bs) : Sg := (nextNum (nums A), rowOf true T.length T, some (true, T.length, T))
/-- A snapshot that failed. -/
def FailO (N : Nat) (A : List Sg) (z : Z) (o : Z × Nat) : Prop :=
  (o.2 = 70 ∧ o.1.1.ok ∧ o.1.1.down = true ∧ z.2.synced ≤ o.1.2.synced ∧ o.1.2.synced ≤ z.2.texts.length ∧ o.1.2.texts = z.2.texts ∧ o.1.2.disk = z.2.disk ∧ o.1.2.limit = z.2.limit ∧ HistG (Good (N + 1) o.1.2.synced z.2.texts) o.1.1 ∧ z.1.left < 2200) ∨
  (o.2 = 6 ∧ o.1.2 = z.2 ∧ Core N A none z.2.texts o.1.1 ∧ HistG (Good N z.2.synced z.2.texts) o.1.1 ∧ z.1.room < K.used (mkFs A none) + (rowOf true z.2.texts.length z.2.texts).length)
theorem runL_cons (m : Z → Z × Nat) (r : List (Z → Z × Nat)) (z : Z) : runL (m :: r) z = if (m z).2 = 0 then runL r (m z).1 else m z := rfl
theorem rm_eq (s : K.St) (x : Lg) : mRmDraft (s, x) = (((rmD s).1, x), (rmD s).2) := rfl
theorem wr_eq (s : K.St) (x : Lg) : mWrDraft (s, x) = (((s.append draft (rowOf true x.texts.length x.texts)).1, x), (s.append draft (rowOf true x.texts.length x.texts)).2) := rfl
theorem sy_eq (s : K.St) (x : Lg) : mSync (s, x) = ((s.sync.1, if s.sync.2 = 0 then { x with synced := x.texts.length } else x), s.sync.2) := rfl
theorem rn_eq (n : Bs) (s : K.St) (x : Lg) : mRename n (s, x) = (((s.rename draft n).1, x), (s.rename draft n).2) := rfl
theorem ro_eq (l : List Bs) (s : K.St) (x : Lg) : mRmOthers l (s, x) = (((rmList l s).1, x), (rmList l s).2) := rfl

theorem runL_to {m : Z → Z × Nat} {r : List (Z → Z × Nat)} {z z' : Z} (h : m z = (z', 0)) : runL (m :: r) z = runL r z' := by rw [runL_cons, h]; rfl
theorem runL_stop {m : Z → Z × Nat} {r : List (Z → Z × Nat)} {z z' : Z} {e : Nat} (h : m z = (z', e)) (he : e ≠ 0) : runL (m :: r) z = (z', e) := by rw [runL_cons, h, if_neg he]
section
variable {N : Nat} {A : List Sg} {dr : Option Bs} {z : Z}
set_option maxHeartbeats 1000000 in
/-- The five first steps: all well, or it is over. -/
theorem snap_five (h : Up N A dr z) (hN : N + 1 < 100) :
    (snapOk5 (nextNum (nums A)) z ∧ ∃ s5, snapZ5 (nextNum (nums A)) z = (s5, { z.2 with synced := z.2.texts.length }) ∧ Tame 2005 z.1 s5 ∧ Core (N + 1) (A ++ [snapSg A z.2.texts]) none z.2.texts s5 ∧ HistG (Good (N + 1) z.2.texts.length z.2.texts) s5 ∧
      ∀ r, runL (mRmDraft :: mWrDraft :: mSync :: mRename (nm (nextNum (nums A))) :: mSync :: r) z = runL r (s5, { z.2 with synced := z.2.texts.length })) ∨
    (¬ snapOk5 (nextNum (nums A)) z ∧ ∃ o, FailO N A z o ∧ Tame 2005 z.1 o.1.1 ∧ ∀ r, runL (mRmDraft :: mWrDraft :: mSync :: mRename (nm (nextNum (nums A))) :: mSync :: r) z = o) := by
  obtain ⟨s, x⟩ := z
  have hc := h.core
  have hsyn := h.syn
  have hhist := h.hist
  simp only at hc hsyn hhist
  have hpre : x.texts <+: x.texts := List.prefix_refl _
  unfold snapOk5 snapZ5 FailO
  -- the draft is removed
  obtain ⟨t1, o1, g1, y1, c1⟩ := op_rmDraft hc (show N < 100 by omega) hpre hsyn hhist
  have m1 := rm_eq s x
  generalize rmD s = r1 at t1 o1 g1 y1 c1 m1
  obtain ⟨s1, e1⟩ := r1
  simp only at t1 o1 g1 y1 c1 m1
  rcases c1 with ⟨rfl, u1, k1⟩ | ⟨rfl, u1, l1⟩ | ⟨_, _, k1, _⟩
  rotate_left
  · exact .inr ⟨fun h => by simp only [m1] at h; simp at h, ((s1, x), 70), .inl ⟨rfl, o1, u1, Nat.le_refl _, hsyn, rfl, rfl, rfl, g1.mono (fun f hf => hf.mono (Nat.le_succ _) hpre), by simp only; omega⟩, t1.mono (by omega), fun r => runL_stop m1 (by omega)⟩
  · exact k1.elim
  have hc1 : Core N A none x.texts s1 := ⟨o1, u1, k1, hc.segs, fun c h => (by cases h), hc.fold, hc.wt⟩
  -- a draft is written
  obtain ⟨t2, o2, g2, y2, c2⟩ := op_wrDraft hc1 (show N < 100 by omega) hpre hsyn g1
  have m2 := wr_eq s1 x
  generalize s1.append draft (rowOf true x.texts.length x.texts) = r2 at t2 o2 g2 y2 c2 m2
  obtain ⟨s2, e2⟩ := r2
  simp only at t2 o2 g2 y2 c2 m2
  have t12 := t1.trans t2
  have hleft := t1.left
  rcases c2 with ⟨rfl, u2, k2⟩ | ⟨rfl, u2, l2⟩ | ⟨rfl, u2, k2, l2⟩
  rotate_left
  · exact .inr ⟨fun h => by simp only [m1, m2] at h; simp at h, ((s2, x), 70), .inl ⟨rfl, o2, u2, Nat.le_refl _, hsyn, rfl, rfl, rfl, g2.mono (fun f hf => hf.mono (Nat.le_succ _) hpre), by simp only; omega⟩, t12.mono (by omega), fun r => by rw [runL_to m1, runL_stop m2 (by omega)]⟩
  · subst k2
    refine .inr ⟨fun h => by simp only [m1, m2] at h; simp at h, ((s2, x), 6), .inr ⟨rfl, rfl, hc1, g2, ?_⟩, t12.mono (by omega), fun r => by rw [runL_to m1, runL_stop m2 (by omega)]⟩
    show s.room < _
    rw [← k1, ← t1.room]
    exact l2
  have hn : x.texts.length ≤ 1000 := by have := hc.cnt; omega
  have hc2 : Core N A (some (rowOf true x.texts.length x.texts)) x.texts s2 := ⟨o2, u2, k2, hc.segs, fun c h => by cases h; exact seg_len hn hc.wt, hc.fold, hc.wt⟩
  -- a sync
  obtain ⟨t3, c3⟩ := op_sync hc2.ok hc2.up
  have m3 := sy_eq s2 x
  rcases c3 with ⟨v3, o3, u3, k3, n3, g3⟩ | ⟨v3, o3, u3, l3, g3⟩
  rotate_left
  · rw [v3] at m3
    simp only [if_neg (show ¬ (70 = 0) by omega)] at m3
    generalize s2.sync.1 = s3 at t3 o3 u3 g3 m3
    have t13 := t12.trans t3
    have hleft2 := t12.left
    exact .inr ⟨fun h => by simp only [m1, m2, m3] at h; simp at h, ((s3, x), 70), .inl ⟨rfl, o3, u3, Nat.le_refl _, hsyn, rfl, rfl, rfl, (g3 _ g2).mono (fun f hf => hf.mono (Nat.le_succ _) hpre), by simp only; omega⟩, t13.mono (by omega), fun r => by rw [runL_to m1, runL_to m2, runL_stop m3 (by omega)]⟩
  rw [v3] at m3
  simp only [if_true] at m3
  generalize s2.sync.1 = s3 at t3 o3 u3 k3 n3 g3 m3
  have t13 := t12.trans t3
  have hleft2 := t12.left
  have hc3 : Core N A (some (rowOf true x.texts.length x.texts)) x.texts s3 := ⟨o3, u3, k3.trans hc2.seen, hc.segs, hc2.drl, hc.fold, hc.wt⟩
  have g3' := g3 (Good N x.texts.length x.texts) (hc2.good (Nat.le_refl _) hpre (Nat.le_refl _))
  -- the draft gets its name
  obtain ⟨⟨t4, o4, g4, y4, c4⟩, hsg⟩ := op_rename hc3 hN hpre (Nat.le_refl _) g3'
  have m4 := rn_eq (nm (nextNum (nums A))) s3 { x with synced := x.texts.length }
  generalize s3.rename draft (nm (nextNum (nums A))) = r4 at t4 o4 g4 y4 c4 m4
  obtain ⟨s4, e4⟩ := r4
  simp only at t4 o4 g4 y4 c4 m4
  have t14 := t13.trans t4
  have hleft3 := t13.left
  rcases c4 with ⟨rfl, u4, k4⟩ | ⟨rfl, u4, l4⟩ | ⟨_, _, k4, _⟩
  rotate_left
  · exact .inr ⟨fun h => by simp only [m1, m2, m3, m4] at h; simp at h, ((s4, { x with synced := x.texts.length }), 70), .inl ⟨rfl, o4, u4, hsyn, Nat.le_refl _, rfl, rfl, rfl, g4, by simp only; omega⟩, t14.mono (by omega), fun r => by rw [runL_to m1, runL_to m2, runL_to m3, runL_stop m4 (by omega)]⟩
  · exact k4.elim
  have hc4 : Core (N + 1) (A ++ [snapSg A x.texts]) none x.texts s4 := ⟨o4, u4, k4, hsg, fun c h => (by cases h), by unfold snapSg; rw [its_some]; exact fold_S _ _ _, hc.wt⟩
  -- a sync
  obtain ⟨t5, c5⟩ := op_sync hc4.ok hc4.up
  have m5 := sy_eq s4 { x with synced := x.texts.length }
  rcases c5 with ⟨v5, o5, u5, k5, n5, g5⟩ | ⟨v5, o5, u5, l5, g5⟩
  rotate_left
  · rw [v5] at m5
    simp only [if_neg (show ¬ (70 = 0) by omega)] at m5
    generalize s4.sync.1 = s5 at t5 o5 u5 g5 m5
    have t15 := t14.trans t5
    have hleft4 := t14.left
    exact .inr ⟨fun h => by simp only [m1, m2, m3, m4, m5] at h; simp at h, ((s5, { x with synced := x.texts.length }), 70), .inl ⟨rfl, o5, u5, hsyn, Nat.le_refl _, rfl, rfl, rfl, g5 _ g4, by simp only; omega⟩, t15.mono (by omega), fun r => by rw [runL_to m1, runL_to m2, runL_to m3, runL_to m4, runL_stop m5 (by omega)]⟩
  rw [v5] at m5
  simp only [if_true] at m5
  generalize s4.sync.1 = s5 at t5 o5 u5 k5 n5 g5 m5
  have t15 := t14.trans t5
  refine .inl ⟨by simp only [m1, m2, m3, m4, m5, and_self], s5, by simp only [m1, m2, m3, m4, m5], t15.mono (by omega), ⟨o5, u5, k5.trans hc4.seen, hsg, fun c h => (by cases h), hc4.fold, hc.wt⟩, g5 _ (hc4.good (Nat.le_refl _) hpre (Nat.le_refl _)), fun r => by rw [runL_to m1, runL_to m2, runL_to m3, runL_to m4, runL_to m5]⟩

theorem others_eq (h : SegsG N A) : othersOf (nums A ++ [nextNum (nums A)]) (nextNum (nums A)) = A.map (fun b => nm b.1) := by
  obtain ⟨_, _, k3⟩ := nextNum_nums h
  unfold othersOf
  rw [List.filter_append]
  have e1 : (nums A).filter (fun k => decide (k ≠ nextNum (nums A))) = nums A := List.filter_eq_self.2 (fun k hk => by
    obtain ⟨a, ha, rfl⟩ := List.mem_map.1 hk
    have := k3 a ha
    simp; omega)
  have e2 : ([nextNum (nums A)]).filter (fun k => decide (k ≠ nextNum (nums A))) = [] := by simp
  rw [e1, e2, List.append_nil]
  unfold nums
  rw [List.map_map]
  rfl
theorem snap_h5 (h : Up N A dr z) (hN : N + 1 < 100) : snapOk5 (nextNum (nums A)) z → NamesOk (snapZ5 (nextNum (nums A)) z).1.seen (nums A ++ [nextNum (nums A)]) false ∧ (nums A ++ [nextNum (nums A)]).length ≤ 100 := by
  intro h5
  rcases snap_five h hN with ⟨_, s5, e, _, hc, _⟩ | ⟨hno, _⟩
  · rw [e]
    have hnm := mkFs_names (dr := none) hc.segs hN
    rw [← hc.seen] at hnm
    have e2 : nums (A ++ [snapSg A z.2.texts]) = nums A ++ [nextNum (nums A)] := by simp [nums, snapSg]
    rw [e2] at hnm
    refine ⟨hnm, ?_⟩
    have := inc_len h.core.segs
    simp [nums]
    omega
  · exact absurd h5 hno
set_option maxHeartbeats 1000000 in
theorem snap_run (h : Up N A dr z) (hN : N + 1 < 100) : ∃ o, runL (snapSteps (nextNum (nums A)) (nums A ++ [nextNum (nums A)])) z = o ∧ Tame 2200 z.1 o.1.1 ∧
    ((o.2 = 0 ∧ o.1.2 = { z.2 with synced := z.2.texts.length } ∧ o.1.1.units = 0 ∧ Core (N + 1) [snapSg A z.2.texts] none z.2.texts o.1.1 ∧ HistG (Good (N + 1) z.2.texts.length z.2.texts) o.1.1) ∨ FailO N A z o) := by
  unfold snapSteps
  rw [others_eq h.core.segs]
  rcases snap_five h hN with ⟨_, s5, _, t5, hc, g5, hr⟩ | ⟨_, o, hf, tt, hr⟩
  · rw [hr]
    have hpre : z.2.texts <+: z.2.texts := List.prefix_refl _
    have hsyn := h.syn
    obtain ⟨t6, o6, g6, y6, c6⟩ := op_others (a := snapSg A z.2.texts) (m := z.2.texts.length) (T := z.2.texts) rfl hpre (Nat.le_refl _) hN h.core.wt A s5 hc.ok hc.up hc.seen hc.segs g5
    have m6 := ro_eq (A.map fun b => nm b.1) s5 { z.2 with synced := z.2.texts.length }
    generalize rmList (A.map fun b => nm b.1) s5 = r6 at t6 o6 g6 y6 c6 m6
    obtain ⟨s6, e6⟩ := r6
    simp only at t6 o6 g6 y6 c6 m6
    have hA := inc_len h.core.segs
    have t16 := t5.trans t6
    have hleft5 := t5.left
    rcases c6 with ⟨rfl, u6, k6⟩ | ⟨rfl, u6, l6⟩ | ⟨_, _, k6, _⟩
    rotate_left
    · exact ⟨_, runL_stop m6 (by omega), t16.mono (by omega), .inr (.inl ⟨rfl, o6, u6, hsyn, Nat.le_refl _, rfl, rfl, rfl, g6, by omega⟩)⟩
    · exact k6.elim
    have hsg1 : SegsG (N + 1) [snapSg A z.2.texts] := hc.segs.sub (List.sublist_append_right _ _)
    have hfold1 : foldT (its [snapSg A z.2.texts]) = (z.2.texts, true) := by
      have := its_some [] (nextNum (nums A)) (rowOf true z.2.texts.length z.2.texts) (true, z.2.texts.length, z.2.texts)
      have e : its [snapSg A z.2.texts] = its [] ++ [(true, z.2.texts.length, z.2.texts)] := this
      rw [e]
      exact fold_S _ _ _
    have hc6 : Core (N + 1) [snapSg A z.2.texts] none z.2.texts s6 := ⟨o6, u6, k6, hsg1, fun c h => (by cases h), hfold1, h.core.wt⟩
    obtain ⟨t7, c7⟩ := op_sync hc6.ok hc6.up
    have m7 := sy_eq s6 { z.2 with synced := z.2.texts.length }
    have t17 := t16.trans t7
    have hleft6 := t16.left
    rcases c7 with ⟨v7, o7, u7, k7, n7, g7⟩ | ⟨v7, o7, u7, l7, g7⟩
    · rw [v7] at m7
      simp only [if_true] at m7
      exact ⟨((s6.sync.1, { z.2 with synced := z.2.texts.length }), 0), by rw [runL_to m6, runL_to m7]; try rfl, t17.mono (by omega), .inl ⟨rfl, rfl, n7, ⟨o7, u7, k7.trans hc6.seen, hsg1, fun c h => (by cases h), hfold1, h.core.wt⟩, g7 _ (hc6.good (Nat.le_refl _) hpre (Nat.le_refl _))⟩⟩
    · rw [v7] at m7
      simp only [if_neg (show ¬ (70 = 0) by omega)] at m7
      exact ⟨((s6.sync.1, { z.2 with synced := z.2.texts.length }), 70), by rw [runL_to m6, runL_stop m7 (by omega)], t17.mono (by omega), .inr (.inl ⟨rfl, o7, u7, hsyn, Nat.le_refl _, rfl, rfl, rfl, g7 _ g6, by omega⟩)⟩
  · rw [hr]
    exact ⟨o, rfl, tt.mono (by omega), .inr hf⟩
set_option maxHeartbeats 1000000 in
theorem snap_up (h : Up N A dr z) (hN : N + 1 < 100) :
    Tame 2200 z.1 (mSnap (nextNum (nums A)) (nums A ++ [nextNum (nums A)]) z).1.1 ∧
    (((mSnap (nextNum (nums A)) (nums A ++ [nextNum (nums A)]) z).2 = 0 ∧ Up (N + 1) [snapSg A z.2.texts] none (mSnap (nextNum (nums A)) (nums A ++ [nextNum (nums A)]) z).1 ∧ (mSnap (nextNum (nums A)) (nums A ++ [nextNum (nums A)]) z).1.2 = { z.2 with synced := z.2.texts.length, last := [] } ∧ (mSnap (nextNum (nums A)) (nums A ++ [nextNum (nums A)]) z).1.1.units = 0) ∨
     ((mSnap (nextNum (nums A)) (nums A ++ [nextNum (nums A)]) z).2 = 6 ∧ Up N A none (mSnap (nextNum (nums A)) (nums A ++ [nextNum (nums A)]) z).1 ∧ (mSnap (nextNum (nums A)) (nums A ++ [nextNum (nums A)]) z).1.2 = z.2 ∧ z.1.room < K.used (mkFs A none) + (rowOf true z.2.texts.length z.2.texts).length) ∨
     ((mSnap (nextNum (nums A)) (nums A ++ [nextNum (nums A)]) z).2 = 70 ∧ Dn (N + 1) z.2.texts (mSnap (nextNum (nums A)) (nums A ++ [nextNum (nums A)]) z).1 ∧ (mSnap (nextNum (nums A)) (nums A ++ [nextNum (nums A)]) z).1.2.texts = z.2.texts ∧ z.2.synced ≤ (mSnap (nextNum (nums A)) (nums A ++ [nextNum (nums A)]) z).1.2.synced ∧ (mSnap (nextNum (nums A)) (nums A ++ [nextNum (nums A)]) z).1.2.disk = z.2.disk ∧ (mSnap (nextNum (nums A)) (nums A ++ [nextNum (nums A)]) z).1.2.limit = z.2.limit ∧ z.1.left < 2200)) := by
  have e : mSnap (nextNum (nums A)) (nums A ++ [nextNum (nums A)]) z = (if (runL (snapSteps (nextNum (nums A)) (nums A ++ [nextNum (nums A)])) z).2 = 0 then (((runL (snapSteps (nextNum (nums A)) (nums A ++ [nextNum (nums A)])) z).1.1, { (runL (snapSteps (nextNum (nums A)) (nums A ++ [nextNum (nums A)])) z).1.2 with last := [] }), 0) else (brk (runL (snapSteps (nextNum (nums A)) (nums A ++ [nextNum (nums A)])) z), (runL (snapSteps (nextNum (nums A)) (nums A ++ [nextNum (nums A)])) z).2)) := by
    unfold mSnap
    rw [h.nb, if_neg (by simp)]
  rw [e]
  clear e
  obtain ⟨o, ho, ht, hf⟩ := snap_run h hN
  rw [ho]
  clear ho
  obtain ⟨⟨s1, x1⟩, e1⟩ := o
  rcases hf with ⟨f1, f2, f3, f4, f5⟩ | ⟨f1, f2, f3, f4, f5, f6, f7, f8, f9, f10⟩ | ⟨f1, f2, f3, f4, f5⟩
  · simp only at f1 f2 f3 f4 f5
    subst f1
    subst f2
    refine ⟨ht, .inl ⟨rfl, ⟨f4, h.nb, Nat.le_refl _, f5, .inl rfl⟩, rfl, f3⟩⟩
  · simp only at f1 f2 f3 f4 f5 f6 f7 f8 f9 f10
    subst f1
    exact ⟨ht, .inr (.inr ⟨rfl, ⟨f2, f3, by show x1.synced ≤ x1.texts.length; rw [f6]; exact f5, f9⟩, f6, f4, f7, f8, f10⟩)⟩
  · simp only at f1 f2 f3 f4 f5
    subst f1
    subst f2
    have e2 : brk ((s1, z.2), 6) = (s1, z.2) := by
      show (s1, ({ z.2 with broken := false } : Lg)) = _
      rw [← h.nb]
    rw [if_neg (show ¬ (6 = 0) by omega), e2]
    exact ⟨ht, .inr (.inl ⟨rfl, ⟨f3, h.nb, h.syn, f4, h.last⟩, rfl, f5⟩)⟩
end
end Go.Proofs.YtcioomlhdaihkaaGreatDoor.L

namespace Go.Proofs.YtcioomlhdaihkaaGreatDoor.L
set_option linter.unusedVariables false
set_option linter.unusedSimpArgs false
set_option maxRecDepth 100000
open Go Go.RowKit Go.Maps Go.MapKept Go.ChangeMaps Go.Shelf Wire
open K (Gh Ext Dom noX Jd Steady)

theorem disk_New_bad (n : Int) (h : n < 0 ∨ 16777216 < n) (w : World) : Calls Tryz.prog 7 #[.int .i64 n] w fun e w' => e = .returned (.tuple #[.pointer none, .int .i64 2]) ∧ w = w' := by
  by_cases h1 : n < 0
  · go_enter Tryz.func7, Tryz.ntmps7
    go_wp2
    go_ret2
    exact ⟨rfl, rfl⟩
  · have h2 := h.resolve_left h1
    clear h
    go_enter Tryz.func7, Tryz.ntmps7
    go_wp2
    go_ret2
    exact ⟨rfl, rfl⟩

section
variable {w0 w : World} {p q : Nat} {z : Z} {ds : List (Nat × K.St)} {Rb : Bxs} {N : Nat} {A : List Sg} {dr : Option Bs} {S : List Bs}
theorem Up.names (h : Up N A dr z) (hN : N < 100) : NamesOk z.1.seen (nums A) dr.isSome := by rw [h.core.seen]; exact mkFs_names h.core.segs hN
theorem Up.fits (h : Up N A dr z) : Fits z.2 :=
  ⟨by have := h.core.cnt; omega, wgt_small h.core.wt, by
    have : (rowOf true z.2.texts.length z.2.texts).length ≤ 2000 := seg_len (by have := h.core.cnt; omega) h.core.wt
    omega⟩
theorem call_Append (hz : LZ w0 w p q ds Rb z) (hu : Up N A dr z) (htab : Tab w0) (hr : Room z.1) (hN : N + 1 < 100) (hW : wgt (z.2.texts ++ S) ≤ 900) (hlim : z.2.limit ≤ 1048576) {v : Value} (hv : ∀ V zz, LZ w0 V p q ds Rb zz → Q.SV V v S) :
    Calls Tryz.prog 13 #[.pointer (some ⟨q, 0, none⟩), v] w fun e w' => e = .returned (.int .i64 ((mApp (nums A) S z).2 : Nat)) ∧ LZ w0 w' p q ds Rb (mApp (nums A) S z).1 := by
  by_cases hS : S = []
  · exact log_Append_none hz (hv w z hz) (.inr hS) (nums A)
  · have hWS : wgt S ≤ 900 := by rw [wgt_app] at hW; omega
    have hn : z.2.texts.length ≤ 1000 := by have := hu.core.cnt; omega
    have h1 : (rowOf false z.2.texts.length S).length ≤ 2000 := seg_len hn hWS
    have h2 := row_len S (wgt_small hWS)
    have hSl : S.length ≤ 900 := by have := wgt_len S; omega
    refine log_Append_some hz htab hr (hu.names (by omega)) (by have := (nextNum_nums hu.core.segs).1; omega) hv (by omega) (by omega) (wgt_small hWS) (by omega) (by omega) hu.nb hS ?_ hlim (app_full hu hN hW)
    rcases hu.last with h0 | ⟨A0, k, n, t, hA, hl, _⟩
    · rw [h0]; simp
    · rw [hl]
      simp [nm]
theorem call_Snapshot (hz : LZ w0 w p q ds Rb z) (hu : Up N A dr z) (htab : Tab w0) (hr : Room z.1) (hN : N + 1 < 100) :
    Calls Tryz.prog 15 #[.pointer (some ⟨q, 0, none⟩)] w fun e w' => e = .returned (.int .i64 ((mSnap (nextNum (nums A)) (nums A ++ [nextNum (nums A)]) z).2 : Nat)) ∧ LZ w0 w' p q ds Rb (mSnap (nextNum (nums A)) (nums A ++ [nextNum (nums A)]) z).1 :=
  log_Snapshot hz htab hu.fits hr (hu.names (by omega)) rfl (by have := (nextNum_nums hu.core.segs).1; omega) (snap_h5 hu hN)
theorem call_Sync (hz : LZ w0 w p q ds Rb z) (hr : Room z.1) :
    Calls Tryz.prog 14 #[.pointer (some ⟨q, 0, none⟩)] w fun e w' => e = .returned (.int .i64 ((mSyncL z).2 : Nat)) ∧ LZ w0 w' p q ds Rb (mSyncL z).1 :=
  log_Sync hz (by have := hr.lim; omega)
theorem call_Texts (hz : LZ w0 w p q ds Rb z) (hw : wgt z.2.texts ≤ 900) :
    Calls Tryz.prog 17 #[.pointer (some ⟨q, 0, none⟩)] w fun e w' => ∃ v, e = .returned v ∧ OwnS w.heap.size w' v z.2.texts ∧ Below w.heap.size w w' :=
  log_Texts hz.1 (by have := wgt_len z.2.texts; omega) (fun t ht => by have := wgt_small hw t ht; omega)
theorem call_Synced (hz : LZ w0 w p q ds Rb z) : Calls Tryz.prog 11 #[.pointer (some ⟨q, 0, none⟩)] w fun e w' => e = .returned (.int .i64 (z.2.synced : Nat)) ∧ w = w' := log_Synced hz.1
theorem call_Names (hz : LZ w0 w p q ds Rb z) (hu : Up N A dr z) (hr : Room z.1) (hN : N < 100) :
    Calls Tryz.prog 20 #[.pointer (some ⟨q, 0, none⟩)] w fun e w' => ∃ ad cap, e = .returned (.slice ad (nums A).length cap) ∧ IsF w' ad (nums A).length cap (namesOf (nums A) false) ∧ (∀ g, ad = some ⟨g, 0, none⟩ → w.heap.size ≤ g) ∧ Below w.heap.size w w' :=
  log_Names2 hz.1 hz.2 (by have := hr.lim; omega) (hu.names hN)
theorem call_Open {bs : Bxs} {s : K.St} {T : List Bs} (hS : K.Sys w0 w ((p, s) :: ds) bs) (hn : Nd bs) (htab : Tab w0) (hc : Core N A dr T s) (hr : Room s) (hN : N < 100) (limit : Nat) (h1 : 1 ≤ limit) (h2 : limit ≤ 1048576) :
    Calls Tryz.prog 10 #[.pointer (some ⟨p, 0, none⟩), .int .i64 (limit : Nat)] w fun e w' => ∃ q, e = .returned (.tuple #[.pointer (some ⟨q, 0, none⟩), .int .i64 0]) ∧ LZ w0 w' p q ds bs (s, mOpen p limit s T) := by
  have hk : NamesOk s.seen (nums A) dr.isSome := by rw [hc.seen]; exact mkFs_names hc.segs hN
  have hos : SegsOk s.seen (nums A) (A.map (·.2.2)) := by rw [hc.seen]; exact mkFs_segs hc.segs hN
  have htot : tots (items (A.map (·.2.2))) ≤ 500000 := by have := its_tots hc.segs hN; unfold its at this; omega
  have hf : (foldT (items (A.map (·.2.2)))).1 = T := by have := hc.fold; unfold its at this; rw [this]
  exact log_Open hS hn htab (by have := hr.lim; omega) hk hos htot hf limit h1 h2
end
end Go.Proofs.YtcioomlhdaihkaaGreatDoor.L

namespace Go.Proofs.YtcioomlhdaihkaaGreatDoor.L
set_option linter.unusedVariables false
set_option linter.unusedSimpArgs false
open Go Wire

/-- A log that is up, with no fuse, behind so many calls. -/
structure Ok (R i N : Nat) (A : List Sg) (dr : Option Bs) (z : Z) : Prop where
  up : Up N A dr z
  room : z.1.room = R
  left : K.noFuse ≤ z.1.left + 2200 * i
  lim : z.1.lim ≤ 4400 * i
  steps : z.1.steps.length ≤ 2200 * i
section
variable {R i N : Nat} {A : List Sg} {dr : Option Bs} {z : Z} {S : List Bs}
theorem Ok.rm (h : Ok R i N A dr z) (hi : i ≤ 200) : Room z.1 := ⟨h.up.core.ok, by have := h.lim; omega, by have := h.steps; omega⟩
theorem Ok.tame {c : Nat} {s' : K.St} (h : Ok R i N A dr z) (t : Tame c z.1 s') (hc : c ≤ 2200) : s'.room = R ∧ K.noFuse ≤ s'.left + 2200 * (i + 1) ∧ s'.lim ≤ 4400 * (i + 1) ∧ s'.steps.length ≤ 2200 * (i + 1) :=
  ⟨t.room.trans h.room, by have := h.left; have := t.left; omega, by have := h.lim; have := t.lim; omega, by have := h.steps; have := t.steps; omega⟩
theorem app_ok (h : Ok R i N A dr z) (hi : i ≤ 200) (hN : N + 1 < 100) (hW : wgt (z.2.texts ++ S) ≤ 900) (hS : S ≠ []) (hroom : K.used z.1.seen + (mPlace (nums A) z.2 S).2.length ≤ R) :
    (mApp (nums A) S z).2 = 0 ∧ ∃ A' k c', AppA A z.2 S A' k c' ∧ Ok R (i + 1) (N + 1) A' dr (mApp (nums A) S z).1 ∧ (mApp (nums A) S z).1.2 = { z.2 with texts := z.2.texts ++ S, last := if z.2.limit ≤ c'.length then [] else nm k } := by
  have hleft := h.left
  have hrm := h.room
  obtain ⟨t, hc⟩ := app_up h.up hN hW hS
  rcases hc with ⟨h0, A', k, c', h1, h2, h3⟩ | ⟨_, _, h1⟩ | ⟨_, _, _, _, _, _, h1⟩
  · obtain ⟨t1, t2, t3, t4⟩ := h.tame t (by omega)
    exact ⟨h0, A', k, c', h1, ⟨h2, t1, t2, t3, t4⟩, h3⟩
  · omega
  · unfold K.noFuse at hleft; omega
theorem snap_ok (h : Ok R i N A dr z) (hi : i ≤ 200) (hN : N + 1 < 100) (hroom : K.used (mkFs A none) + (rowOf true z.2.texts.length z.2.texts).length ≤ R) :
    (mSnap (nextNum (nums A)) (nums A ++ [nextNum (nums A)]) z).2 = 0 ∧ Ok R (i + 1) (N + 1) [snapSg A z.2.texts] none (mSnap (nextNum (nums A)) (nums A ++ [nextNum (nums A)]) z).1 ∧ (mSnap (nextNum (nums A)) (nums A ++ [nextNum (nums A)]) z).1.2 = { z.2 with synced := z.2.texts.length, last := [] } ∧ (mSnap (nextNum (nums A)) (nums A ++ [nextNum (nums A)]) z).1.1.units = 0 := by
  have hleft := h.left
  have hrm := h.room
  obtain ⟨t, hc⟩ := snap_up h.up hN
  rcases hc with ⟨h0, h1, h2, h3⟩ | ⟨_, _, _, h1⟩ | ⟨_, _, _, _, _, _, h1⟩
  · obtain ⟨t1, t2, t3, t4⟩ := h.tame t (by omega)
    exact ⟨h0, ⟨h1, t1, t2, t3, t4⟩, h2, h3⟩
  · omega
  · unfold K.noFuse at hleft; omega
theorem sync_ok (h : Ok R i N A dr z) (hi : i ≤ 200) : (mSyncL z).2 = 0 ∧ Ok R (i + 1) N A dr (mSyncL z).1 ∧ (mSyncL z).1.2 = { z.2 with synced := z.2.texts.length } ∧ (mSyncL z).1.1.units = 0 := by
  have hleft := h.left
  obtain ⟨t, hc⟩ := sync_up h.up
  rcases hc with ⟨h0, h1, h2, h3⟩ | ⟨_, _, _, _, _, _, h1⟩
  · obtain ⟨t1, t2, t3, t4⟩ := h.tame t (by omega)
    exact ⟨h0, ⟨h1, t1, t2, t3, t4⟩, h2, h3⟩
  · unfold K.noFuse at hleft; omega
theorem open_ok (h : Ok R i N A dr z) (p limit : Nat) : Ok R i N A dr (z.1, mOpen p limit z.1 z.2.texts) := ⟨open_up h.up p limit, h.room, h.left, h.lim, h.steps⟩
theorem new_ok' (R p limit : Nat) : Ok R 0 0 [] none (K.new R, mOpen p limit (K.new R) []) := ⟨new_up R p limit, rfl, Nat.le_add_right _ _, by simp [K.St.lim, K.new, K.wt, K.St.pend], by simp [K.new]⟩
theorem big_room (h : Up N A dr z) (hN : N < 100) (hW : wgt (z.2.texts ++ S) ≤ 900) : K.used z.1.seen + (mPlace (nums A) z.2 S).2.length ≤ 1048576 ∧ K.used (mkFs A none) + (rowOf true z.2.texts.length z.2.texts).length ≤ 1048576 := by
  have h1 := h.core.used hN
  have h2 := mkFs_used (dr := none) h.core.segs hN (fun c h => (by cases h))
  have hn : z.2.texts.length ≤ 1000 := by have := h.core.cnt; omega
  have hWS : wgt S ≤ 900 := by rw [wgt_app] at hW; omega
  have h3 : (rowOf true z.2.texts.length z.2.texts).length ≤ 2000 := seg_len hn h.core.wt
  refine ⟨?_, by omega⟩
  unfold mPlace
  split
  · have : (rowOf false z.2.texts.length S).length ≤ 2000 := seg_len hn hWS
    simp only
    omega
  · have := row_len S (wgt_small hWS)
    simp only
    omega
theorem AppA.of_new {A' : List Sg} {k : Nat} {c : Bs} {x : Lg} (h : AppA A x S A' k c) (hl : x.last = []) : A' = A ++ [(nextNum (nums A), rowOf false x.texts.length S, some (false, x.texts.length, S))] ∧ k = nextNum (nums A) ∧ c = rowOf false x.texts.length S := by
  cases h with
  | new _ => exact ⟨rfl, rfl, rfl⟩
  | more _ h2 => exact absurd (h2.symm.trans hl) (nm_ne_nil _)
theorem AppA.of_more {A0 A' : List Sg} {k n j : Nat} {c : Bs} {t : List Bs} {x : Lg} (h : AppA (A0 ++ [(j, Q.rowB (hdB false n :: t), some (false, n, t))]) x S A' k c) (hl : x.last ≠ []) : A' = A0 ++ [(j, Q.rowB (hdB false n :: (t ++ S)), some (false, n, t ++ S))] ∧ k = j ∧ c = Q.rowB (hdB false n :: (t ++ S)) := by
  cases h with
  | new h0 => exact absurd h0 hl
  | more hA h2 =>
    obtain ⟨h3, h4⟩ := List.append_inj' hA rfl
    injection h4 with h4 _
    injection h4 with h5 h6
    injection h6 with _ h7
    injection h7 with h7
    injection h7 with _ h8
    injection h8 with h9 h10
    subst h3 h5 h9 h10
    exact ⟨rfl, rfl, rfl⟩
end

/-! ### the document's own example -/
def h20 : Bs := [48, 49, 50, 51, 52, 53, 54, 55, 56, 57, 48, 49, 50, 51, 52, 53, 54, 55, 56, 57]
def hT1 : List Bs := [[97], [98]]
def hT2 : List Bs := [[97], [98], h20]
def hT3 : List Bs := [[97], [98], h20, [99]]
def hT4 : List Bs := [[97], [98], h20, [99], [100]]
def hA1 : List Sg := [(1, Q.rowB (hdB false 0 :: hT1), some (false, 0, hT1))]
def hA2 : List Sg := [(1, Q.rowB (hdB false 0 :: hT2), some (false, 0, hT2))]
def hA3 : List Sg := hA2 ++ [(2, Q.rowB (hdB false 3 :: [[99]]), some (false, 3, [[99]]))]
def hA4 : List Sg := [(3, Q.rowB (hdB true 4 :: hT3), some (true, 4, hT3))]
def hA5 : List Sg := hA4 ++ [(4, Q.rowB (hdB false 4 :: [[100]]), some (false, 4, [[100]]))]
theorem hd_one {b : Bool} {n : Nat} (h : n < 10) : hdB b n = [if b then 83 else 70, 58, UInt8.ofNat (48 + n)] := by
  have e : dec n = [UInt8.ofNat (48 + n)] := Lib.decDigits_one h
  unfold hdB
  rw [e]
theorem row_one (b : Bool) (n : Nat) (l : List Bs) (h : n < 10) (m : Nat) (hm : (Q.rowB ([if b then 83 else 70, 58, UInt8.ofNat (48 + n)] :: l)).length = m) : (Q.rowB (hdB b n :: l)).length = m := by rw [hd_one h]; exact hm
theorem hl1 : (Q.rowB (hdB false 0 :: hT1)).length = 20 := row_one _ _ _ (by omega) _ (by decide +kernel)
theorem hl2 : (Q.rowB (hdB false 0 :: hT2)).length = 45 := row_one _ _ _ (by omega) _ (by decide +kernel)
theorem hl3 : (Q.rowB (hdB false 3 :: [[99]])).length = 14 := row_one _ _ _ (by omega) _ (by decide +kernel)
theorem hl4 : (Q.rowB (hdB true 4 :: hT3)).length = 51 := row_one _ _ _ (by omega) _ (by decide +kernel)
theorem hl5 : (Q.rowB (hdB false 4 :: [[100]])).length = 14 := row_one _ _ _ (by omega) _ (by decide +kernel)
theorem hl20 : (Q.rowB [h20]).length = 25 := by decide +kernel
theorem head_chain (p : Nat) : ∃ z1 z2 z3 z4 z6 : Z,
    mApp [] hT1 (K.new 1000, mOpen p 30 (K.new 1000) []) = (z1, 0) ∧ Ok 1000 1 1 hA1 none z1 ∧ z1.2 = ⟨p, 30, hT1, 0, nm 1, false⟩ ∧
    mApp (nums hA1) [h20] z1 = (z2, 0) ∧ Ok 1000 2 2 hA2 none z2 ∧ z2.2 = ⟨p, 30, hT2, 0, [], false⟩ ∧
    mApp (nums hA2) [[99]] z2 = (z3, 0) ∧ Ok 1000 3 3 hA3 none z3 ∧ z3.2 = ⟨p, 30, hT3, 0, nm 2, false⟩ ∧
    mSnap 3 [1, 2, 3] z3 = (z4, 0) ∧ Ok 1000 4 4 hA4 none z4 ∧ z4.2 = ⟨p, 30, hT3, 4, [], false⟩ ∧ z4.1.units = 0 ∧
    mApp (nums hA4) [[100]] (z4.1, mOpen p 30 z4.1 hT3) = (z6, 0) ∧ Ok 1000 5 5 hA5 none z6 ∧ z6.2 = ⟨p, 30, hT4, 4, nm 4, false⟩ := by
  have o0 := new_ok' 1000 p 30
  have e0 : (mOpen p 30 (K.new 1000) []) = ⟨p, 30, [], 0, [], false⟩ := rfl
  rw [e0] at o0
  obtain ⟨a1, A1, k1, c1, b1, o1, x1⟩ := app_ok (S := hT1) o0 (by omega) (by omega) (show wgt ([] ++ hT1) ≤ 900 by decide) (by decide) (by
    show 0 + (Q.rowB (hdB false 0 :: hT1)).length ≤ 1000
    rw [hl1]; omega)
  obtain ⟨rfl, rfl, rfl⟩ := b1.of_new rfl
  have f1 : mApp [] hT1 (K.new 1000, ⟨p, 30, [], 0, [], false⟩) = ((mApp (nums []) hT1 (K.new 1000, ⟨p, 30, [], 0, [], false⟩)).1, 0) := Prod.ext rfl a1
  generalize (mApp (nums []) hT1 (K.new 1000, ⟨p, 30, [], 0, [], false⟩)).1 = z1 at *
  have x1' : z1.2 = ⟨p, 30, hT1, 0, nm 1, false⟩ := by
    rw [x1]
    have : ¬ (30 ≤ (rowOf false ([] : List Bs).length hT1).length) := by show ¬ 30 ≤ (Q.rowB (hdB false 0 :: hT1)).length; rw [hl1]; omega
    rw [if_neg this]
    rfl
  have o1' : Ok 1000 1 1 hA1 none z1 := o1
  -- twenty bytes
  obtain ⟨a2, A2, k2, c2, b2, o2, x2⟩ := app_ok (S := [h20]) o1' (by omega) (by omega) (by rw [x1']; show wgt (hT1 ++ [h20]) ≤ 900; decide) (by decide) (by
    rw [o1'.up.core.seen, x1']
    have e1 : K.used (mkFs hA1 none) = (Q.rowB (hdB false 0 :: hT1)).length := by simp [K.used, mkFs, hA1, fileOf, drF]
    have e2 : (mPlace (nums hA1) ⟨p, 30, hT1, 0, nm 1, false⟩ [h20]).2 = Q.rowB [h20] := by unfold mPlace; rw [if_neg (nm_ne_nil 1)]
    rw [e1, e2, hl1, hl20]; omega)
  obtain ⟨rfl, rfl, rfl⟩ := AppA.of_more (A0 := []) b2 (by rw [x1']; exact nm_ne_nil 1)
  have f2 : mApp (nums hA1) [h20] z1 = ((mApp (nums hA1) [h20] z1).1, 0) := Prod.ext rfl a2
  generalize (mApp (nums hA1) [h20] z1).1 = z2 at *
  have x2' : z2.2 = ⟨p, 30, hT2, 0, [], false⟩ := by
    rw [x2, x1']
    have : 30 ≤ (Q.rowB (hdB false 0 :: (hT1 ++ [h20]))).length := by show 30 ≤ (Q.rowB (hdB false 0 :: hT2)).length; rw [hl2]; omega
    simp only [if_pos this]
    rfl
  have o2' : Ok 1000 2 2 hA2 none z2 := o2
  -- c
  obtain ⟨a3, A3, k3, c3, b3, o3, x3⟩ := app_ok (S := [[99]]) o2' (by omega) (by omega) (by rw [x2']; show wgt (hT2 ++ [[99]]) ≤ 900; decide) (by decide) (by
    rw [o2'.up.core.seen, x2']
    have e1 : K.used (mkFs hA2 none) = (Q.rowB (hdB false 0 :: hT2)).length := by simp [K.used, mkFs, hA2, fileOf, drF]
    have e2 : (mPlace (nums hA2) ⟨p, 30, hT2, 0, [], false⟩ [[99]]).2 = Q.rowB (hdB false 3 :: [[99]]) := rfl
    rw [e1, e2, hl2, hl3]; omega)
  obtain ⟨rfl, rfl, rfl⟩ := b3.of_new (by rw [x2'])
  have f3 : mApp (nums hA2) [[99]] z2 = ((mApp (nums hA2) [[99]] z2).1, 0) := Prod.ext rfl a3
  generalize (mApp (nums hA2) [[99]] z2).1 = z3 at *
  rw [x2'] at o3 x3
  have x3' : z3.2 = ⟨p, 30, hT3, 0, nm 2, false⟩ := by
    rw [x3]
    have : ¬ (30 ≤ (rowOf false (hT2).length [[99]]).length) := by show ¬ 30 ≤ (Q.rowB (hdB false 3 :: [[99]])).length; rw [hl3]; omega
    simp only [if_neg this]
    rfl
  have o3' : Ok 1000 3 3 hA3 none z3 := o3
  -- a snapshot
  obtain ⟨a4, o4, x4, u4⟩ := snap_ok o3' (by omega) (by omega) (by
    rw [x3']
    have e1 : K.used (mkFs hA3 none) = (Q.rowB (hdB false 0 :: hT2)).length + (Q.rowB (hdB false 3 :: [[99]])).length := by simp [K.used, mkFs, hA3, hA2, fileOf, drF]
    have e2 : (rowOf true (hT3).length hT3) = Q.rowB (hdB true 4 :: hT3) := rfl
    simp only [e1, e2, hl2, hl3, hl4]
    omega)
  have f4 : mSnap 3 [1, 2, 3] z3 = ((mSnap (nextNum (nums hA3)) (nums hA3 ++ [nextNum (nums hA3)]) z3).1, 0) := Prod.ext rfl a4
  generalize (mSnap (nextNum (nums hA3)) (nums hA3 ++ [nextNum (nums hA3)]) z3).1 = z4 at *
  rw [x3'] at o4 x4
  have o4' : Ok 1000 4 4 hA4 none z4 := o4
  have x4' : z4.2 = ⟨p, 30, hT3, 4, [], false⟩ := x4
  have o5 := open_ok o4' p 30
  rw [x4'] at o5
  have e5 : mOpen p 30 z4.1 hT3 = ⟨p, 30, hT3, 4, [], false⟩ := by unfold mOpen; rw [if_pos u4]; rfl
  have o5' : Ok 1000 4 4 hA4 none (z4.1, ⟨p, 30, hT3, 4, [], false⟩) := by rw [← e5]; exact o5
  -- d
  obtain ⟨a6, A6, k6, c6, b6, o6, x6⟩ := app_ok (S := [[100]]) o5' (by omega) (by omega) (show wgt (hT3 ++ [[100]]) ≤ 900 by decide) (by decide) (by
    rw [o5'.up.core.seen]
    have e1 : K.used (mkFs hA4 none) = (Q.rowB (hdB true 4 :: hT3)).length := by simp [K.used, mkFs, hA4, fileOf, drF]
    have e2 : (mPlace (nums hA4) ⟨p, 30, hT3, 4, [], false⟩ [[100]]).2 = Q.rowB (hdB false 4 :: [[100]]) := rfl
    rw [e1, e2, hl4, hl5]; omega)
  obtain ⟨rfl, rfl, rfl⟩ := b6.of_new rfl
  have f6 : mApp (nums hA4) [[100]] (z4.1, mOpen p 30 z4.1 hT3) = ((mApp (nums hA4) [[100]] (z4.1, ⟨p, 30, hT3, 4, [], false⟩)).1, 0) := by rw [e5]; exact Prod.ext rfl a6
  generalize (mApp (nums hA4) [[100]] (z4.1, ⟨p, 30, hT3, 4, [], false⟩)).1 = z6 at *
  have x6' : z6.2 = ⟨p, 30, hT4, 4, nm 4, false⟩ := by
    rw [x6]
    have : ¬ (30 ≤ (rowOf false (hT3).length [[100]]).length) := by show ¬ 30 ≤ (Q.rowB (hdB false 4 :: [[100]])).length; rw [hl5]; omega
    simp only [if_neg this]
    rfl
  exact ⟨z1, z2, z3, z4, z6, f1, o1', x1', f2, o2', x2', f3, o3', x3', f4, o4', x4', u4, f6, o6, x6'⟩
end Go.Proofs.YtcioomlhdaihkaaGreatDoor.L
