/-
  Disks: plain mathematics of files, units, steps, fuses and crashes.
-/
namespace Go.Proofs.Ytfmigkmkdhciiaa.K
set_option linter.unusedVariables false
set_option linter.unusedSimpArgs false

abbrev Str := List UInt8
/-- Files, by rising names. -/
abbrev Fs := List (Str × Str)

def get : Fs → Str → Option Str
  | [], _ => none
  | (n, c) :: r, s => if n = s then some c else get r s
def put (s c : Str) : Fs → Fs
  | [] => [(s, c)]
  | (n, d) :: r => if s = n then (s, c) :: r else if s < n then (s, c) :: (n, d) :: r else (n, d) :: put s c r
def del (s : Str) (f : Fs) : Fs := f.filter (fun p => p.1 != s)
def used (f : Fs) : Nat := (f.map (fun p => p.2.length)).sum
def wt (f : Fs) : Nat := (f.map (fun p => 1 + p.2.length)).sum
def names (f : Fs) : List Str := f.map (·.1)
def Sorted (f : Fs) : Prop := f.Pairwise (fun a b => a.1 < b.1)

theorem lt_irrefl (a : Str) : ¬ a < a := List.lt_irrefl a
theorem lt_trans {a b c : Str} (h : a < b) (k : b < c) : a < c := List.lt_trans h k
theorem lt_total {a b : Str} (h : ¬ a = b) (k : ¬ a < b) : b < a := by
  rcases Classical.em (b < a) with h1 | h1
  · exact h1
  · exact absurd (List.le_antisymm (List.not_lt.1 h1) (List.not_lt.1 k)) h

theorem get_mem {f : Fs} {s c : Str} (h : get f s = some c) : (s, c) ∈ f := by
  induction f with
  | nil => cases h
  | cons p r ih =>
    obtain ⟨n, d⟩ := p
    unfold get at h
    split at h
    · rename_i e; subst e; cases h; exact List.mem_cons_self ..
    · exact List.mem_cons_of_mem _ (ih h)
theorem get_of_mem {f : Fs} (hs : Sorted f) {s c : Str} (h : (s, c) ∈ f) : get f s = some c := by
  induction f with
  | nil => cases h
  | cons p r ih =>
    obtain ⟨n, d⟩ := p
    obtain ⟨h1, h2⟩ := List.pairwise_cons.1 hs
    unfold get
    rcases List.mem_cons.1 h with h3 | h3
    · cases h3; simp
    · have := h1 _ h3
      have hne : ¬ n = s := fun e => by rw [e] at this; exact lt_irrefl _ this
      rw [if_neg hne]
      exact ih h2 h3
theorem get_none {f : Fs} {s : Str} : get f s = none ↔ ∀ c, (s, c) ∉ f := by
  induction f with
  | nil => simp [get]
  | cons p r ih =>
    obtain ⟨n, d⟩ := p
    unfold get
    by_cases e : n = s
    · subst e
      rw [if_pos rfl]
      exact ⟨fun h => (by cases h), fun h => absurd (List.mem_cons_self ..) (h d)⟩
    · rw [if_neg e, ih]
      have e' : ¬ s = n := fun h => e h.symm
      simp [e']
theorem get_put_same (s c : Str) (f : Fs) : get (put s c f) s = some c := by
  induction f with
  | nil => simp [put, get]
  | cons p r ih =>
    obtain ⟨n, d⟩ := p
    unfold put
    split
    · simp [get]
    · rename_i h1
      split
      · simp [get]
      · rw [get, if_neg (fun e => h1 e.symm)]; exact ih
theorem get_put_other {s t : Str} (h : s ≠ t) (c : Str) (f : Fs) : get (put s c f) t = get f t := by
  induction f with
  | nil => simp [put, get, h]
  | cons p r ih =>
    obtain ⟨n, d⟩ := p
    unfold put
    split
    · rename_i e; subst e; simp [get, h]
    · split
      · rw [get, if_neg h]
      · rw [get, get, ih]
theorem get_del_same (s : Str) (f : Fs) : get (del s f) s = none := by
  rw [get_none]
  intro c h
  have := (List.mem_filter.1 h).2
  simp at this
theorem get_del_other {s t : Str} (h : s ≠ t) (f : Fs) : get (del s f) t = get f t := by
  induction f with
  | nil => rfl
  | cons p r ih =>
    obtain ⟨n, d⟩ := p
    unfold del at *
    by_cases e : n = s
    · subst e
      rw [List.filter_cons_of_neg (by simp), ih, get, if_neg h]
    · rw [List.filter_cons_of_pos (by simpa using e), get, get, ih]
theorem mem_put {s c : Str} {f : Fs} {p : Str × Str} (h : p ∈ put s c f) : p = (s, c) ∨ p ∈ f := by
  induction f with
  | nil => simpa [put] using h
  | cons q r ih =>
    obtain ⟨n, d⟩ := q
    unfold put at h
    split at h
    · rcases List.mem_cons.1 h with h | h
      · exact .inl h
      · exact .inr (List.mem_cons_of_mem _ h)
    · split at h
      · rcases List.mem_cons.1 h with h | h
        · exact .inl h
        · exact .inr h
      · rcases List.mem_cons.1 h with h | h
        · exact .inr (h ▸ List.mem_cons_self ..)
        · rcases ih h with h | h
          · exact .inl h
          · exact .inr (List.mem_cons_of_mem _ h)
theorem sorted_put {s c : Str} {f : Fs} (hs : Sorted f) : Sorted (put s c f) := by
  induction f with
  | nil => simp [put, Sorted]
  | cons q r ih =>
    obtain ⟨n, d⟩ := q
    obtain ⟨h1, h2⟩ := List.pairwise_cons.1 hs
    unfold put
    split
    · rename_i e; subst e
      exact List.pairwise_cons.2 ⟨h1, h2⟩
    · rename_i hne
      split
      · rename_i hlt
        refine List.pairwise_cons.2 ⟨fun p hp => ?_, hs⟩
        rcases List.mem_cons.1 hp with rfl | hp
        · exact hlt
        · exact lt_trans hlt (h1 p hp)
      · rename_i hnl
        refine List.pairwise_cons.2 ⟨fun p hp => ?_, ih h2⟩
        rcases mem_put hp with rfl | hp
        · exact lt_total hne hnl
        · exact h1 p hp
theorem sorted_del {s : Str} {f : Fs} (hs : Sorted f) : Sorted (del s f) := hs.filter _

theorem used_le_wt (f : Fs) : used f ≤ wt f := by
  unfold used wt
  induction f with
  | nil => simp
  | cons p r ih => simp only [List.map_cons, List.sum_cons]; omega
theorem len_le_wt (f : Fs) : f.length ≤ wt f := by
  unfold wt
  induction f with
  | nil => simp
  | cons p r ih => simp only [List.map_cons, List.sum_cons, List.length_cons]; omega
theorem wt_mem {f : Fs} {s c : Str} (h : get f s = some c) : 1 + c.length ≤ wt f := by
  have := get_mem h
  unfold wt
  induction f with
  | nil => cases this
  | cons p r ih =>
    simp only [List.map_cons, List.sum_cons]
    rcases List.mem_cons.1 this with rfl | h2
    · have : (s, c).2.length = c.length := rfl
      omega
    · unfold get at h
      split at h
      · rename_i e; cases h; omega
      · have := ih h h2; omega
theorem wt_del (s : Str) (f : Fs) : wt (del s f) ≤ wt f := by
  unfold wt del
  induction f with
  | nil => simp
  | cons p r ih =>
    rw [List.filter_cons]
    split
    · simp only [List.map_cons, List.sum_cons]; omega
    · simp only [List.map_cons, List.sum_cons]; omega
theorem wt_del_get {s c : Str} {f : Fs} (hg : get f s = some c) : wt (del s f) + (1 + c.length) ≤ wt f := by
  induction f with
  | nil => cases hg
  | cons p r ih =>
    obtain ⟨n, d⟩ := p
    unfold get at hg
    have e : wt ((n, d) :: r) = (1 + d.length) + wt r := by simp [wt]
    by_cases h : n = s
    · rw [if_pos h] at hg
      cases hg
      subst h
      have e2 : del n ((n, c) :: r) = del n r := by unfold del; rw [List.filter_cons_of_neg (by simp)]
      rw [e, e2]
      have := wt_del n r
      omega
    · rw [if_neg h] at hg
      have e2 : del s ((n, d) :: r) = (n, d) :: del s r := by unfold del; rw [List.filter_cons_of_pos (by simpa using h)]
      have e3 : wt ((n, d) :: del s r) = (1 + d.length) + wt (del s r) := by simp [wt]
      rw [e, e2, e3]
      have := ih hg
      omega
theorem wt_put (s c : Str) (f : Fs) : wt (put s c f) ≤ wt f + (1 + c.length) := by
  induction f with
  | nil => simp [put, wt]
  | cons p r ih =>
    obtain ⟨n, d⟩ := p
    unfold put
    have e : wt ((n, d) :: r) = (1 + d.length) + wt r := by simp [wt]
    split
    · have e3 : wt ((s, c) :: r) = (1 + c.length) + wt r := by simp [wt]
      rw [e3, e]; omega
    · split
      · have e3 : wt ((s, c) :: (n, d) :: r) = (1 + c.length) + ((1 + d.length) + wt r) := by simp [wt]
        rw [e3, e]; omega
      · have e3 : wt ((n, d) :: put s c r) = (1 + d.length) + wt (put s c r) := by simp [wt]
        rw [e3, e]; omega
theorem wt_put_get {s c d : Str} {f : Fs} (hs : Sorted f) (hg : get f s = some d) : wt (put s c f) + d.length ≤ wt f + c.length := by
  induction f with
  | nil => cases hg
  | cons p r ih =>
    obtain ⟨n, x⟩ := p
    obtain ⟨h1, h2⟩ := List.pairwise_cons.1 hs
    unfold get at hg
    have e : wt ((n, x) :: r) = (1 + x.length) + wt r := by simp [wt]
    unfold put
    by_cases h : n = s
    · rw [if_pos h] at hg
      cases hg
      rw [if_pos h.symm]
      have e3 : wt ((s, c) :: r) = (1 + c.length) + wt r := by simp [wt]
      rw [e3, e]; omega
    · rw [if_neg h] at hg
      rw [if_neg (fun e => h e.symm)]
      split
      · rename_i hlt
        exact absurd (lt_trans hlt (h1 _ (get_mem hg))) (lt_irrefl _)
      · have e3 : wt ((n, x) :: put s c r) = (1 + x.length) + wt (put s c r) := by simp [wt]
        have := ih h2 hg
        rw [e3, e]; omega

/-! ### units -/
inductive U where
  | mk (n : Str)
  | byte (n : Str) (c : UInt8)
  | del (n : Str)
  | ren (a b : Str)
def U.run : U → Fs → Fs
  | .mk n, f => put n [] f
  | .byte n c, f => put n ((get f n).getD [] ++ [c]) f
  | .del n, f => K.del n f
  | .ren a b, f => put b ((get f a).getD []) (K.del a f)
def runs (us : List U) (f : Fs) : Fs := us.foldl (fun f u => u.run f) f
theorem runs_append (a b : List U) (f : Fs) : runs (a ++ b) f = runs b (runs a f) := List.foldl_append
theorem U.sorted (u : U) {f : Fs} (h : Sorted f) : Sorted (u.run f) := by
  cases u with
  | mk n => exact sorted_put h
  | byte n c => exact sorted_put h
  | del n => exact sorted_del h
  | ren a b => exact sorted_put (sorted_del h)
theorem runs_sorted : ∀ (us : List U) {f : Fs}, Sorted f → Sorted (runs us f)
  | [], f, h => h
  | u :: r, f, h => runs_sorted r (u.sorted h)
theorem U.wt (u : U) {f : Fs} (h : Sorted f) : K.wt (u.run f) ≤ K.wt f + 2 := by
  cases u with
  | mk n => exact Nat.le_trans (wt_put n [] f) (by simp)
  | byte n c =>
    show K.wt (put n ((get f n).getD [] ++ [c]) f) ≤ _
    cases hg : get f n with
    | none => exact Nat.le_trans (wt_put n _ f) (by simp)
    | some d =>
      have := wt_put_get (c := (some d).getD [] ++ [c]) h hg
      simp at this ⊢
      omega
  | del n => exact Nat.le_trans (wt_del n f) (by omega)
  | ren a b =>
    show K.wt (put b ((get f a).getD []) (K.del a f)) ≤ _
    have h1 := wt_put b ((get f a).getD []) (K.del a f)
    cases hg : get f a with
    | none => rw [hg] at h1; have := wt_del a f; simp at h1 ⊢; omega
    | some d => rw [hg] at h1; have := wt_del_get hg; simp at h1 ⊢; omega
theorem runs_wt : ∀ (us : List U) {f : Fs}, Sorted f → K.wt (runs us f) ≤ K.wt f + 2 * us.length
  | [], f, h => by simp [runs]
  | u :: r, f, h => by
    have h1 := runs_wt r (u.sorted h)
    have h2 := u.wt h
    show K.wt (runs r (u.run f)) ≤ _
    simp only [List.length_cons]
    omega

/-! ### disks -/
structure St where
  room : Nat
  synced : Fs
  seen : Fs
  steps : List (List U)
  units : Nat
  left : Nat
  down : Bool
def noFuse : Nat := 9223372036854775807
def St.pend (s : St) : List U := s.steps.flatten
def may (n : Str) : Bool := decide (n ≠ []) && decide (n.length ≤ 32)
def new (room : Nat) : St := ⟨room, [], [], [], 0, noFuse, false⟩
/-- The error of a step with these names, before it is known what it is about. -/
def St.refuse (s : St) (ns : List Str) : Nat := if ns.all may then (if s.down then 70 else 0) else 2
def St.burn (s : St) (k : Nat) : St := { s with left := s.left - min k s.left, down := decide (min k s.left < k) }
def St.act (s : St) (us : List U) : St :=
  if 0 < min us.length s.left then { s.burn us.length with seen := runs (us.take (min us.length s.left)) s.seen, steps := s.steps ++ [us], units := s.units + min us.length s.left } else s.burn us.length
def St.actE (s : St) (us : List U) : Nat := if min us.length s.left < us.length then 70 else 0
def appendUs (n c : Str) (there : Bool) : List U := (if there then [] else [U.mk n]) ++ c.map (U.byte n)
def St.append (s : St) (n c : Str) : St × Nat :=
  if s.refuse [n] ≠ 0 then (s, s.refuse [n])
  else if s.room < K.used s.seen + c.length then (s, 6)
  else (s.act (appendUs n c (K.get s.seen n).isSome), s.actE (appendUs n c (K.get s.seen n).isSome))
def St.remove (s : St) (n : Str) : St × Nat :=
  if s.refuse [n] ≠ 0 then (s, s.refuse [n])
  else if (K.get s.seen n).isSome = false then (s, 7)
  else (s.act [.del n], s.actE [.del n])
def St.rename (s : St) (a b : Str) : St × Nat :=
  if s.refuse [a, b] ≠ 0 then (s, s.refuse [a, b])
  else if (K.get s.seen a).isSome = false then (s, 7)
  else (s.act [.ren a b], s.actE [.ren a b])
def St.settle (s : St) : St := { s with synced := s.seen, steps := [], units := 0 }
def St.sync (s : St) : St × Nat :=
  if s.refuse [] ≠ 0 then (s, s.refuse [])
  else if min 1 s.left = 0 then (s.burn 1, 70)
  else ((s.burn 1).settle, 0)
def St.crashed (s : St) (k : Nat) : St := ⟨s.room, runs (s.pend.take (min k s.units)) s.synced, runs (s.pend.take (min k s.units)) s.synced, [], 0, noFuse, false⟩
def St.crash (s : St) (k : Int) : St × Nat := if k < 0 then (s, 2) else (s.crashed k.toNat, 0)
def St.fuse (s : St) (k : Int) : St × Nat := if k < 0 then (s, 2) else if s.down then (s, 70) else ({ s with left := k.toNat }, 0)
def St.read (s : St) (n : Str) : Str × Nat := if may n then (match K.get s.seen n with | some c => (c, 0) | none => ([], 7)) else ([], 2)

/-- What is seen is what was synced, with all units applied to it. -/
structure St.ok (s : St) : Prop where
  sorted : Sorted s.synced
  seen : s.seen = runs (s.pend.take s.units) s.synced
  units : s.units ≤ s.pend.length
  up : s.down = false → s.units = s.pend.length
theorem St.ok.sortedSeen {s : St} (h : s.ok) : Sorted s.seen := h.seen ▸ runs_sorted _ h.sorted
/-- How much a disk holds, at most. -/
def St.lim (s : St) : Nat := K.wt s.synced + 2 * s.pend.length
theorem St.ok.wtSeen {s : St} (h : s.ok) : K.wt s.seen ≤ s.lim := by
  rw [h.seen]
  have := runs_wt (s.pend.take s.units) h.sorted
  have h2 : (s.pend.take s.units).length ≤ s.pend.length := List.length_take_le' _ _
  unfold St.lim
  omega
theorem new_ok (room : Nat) : (new room).ok := ⟨List.Pairwise.nil, rfl, Nat.le_refl _, fun _ => rfl⟩

theorem St.burn_ok {s : St} (h : s.ok) (k : Nat) (hd : s.down = false) : (s.burn k).ok := ⟨h.sorted, h.seen, h.units, fun _ => h.up hd⟩
theorem St.act_ok {s : St} (h : s.ok) (us : List U) (hd : s.down = false) : (s.act us).ok := by
  unfold St.act
  by_cases h0 : 0 < min us.length s.left
  · rw [if_pos h0]
    have e : ({ s.burn us.length with seen := runs (us.take (min us.length s.left)) s.seen, steps := s.steps ++ [us], units := s.units + min us.length s.left } : St).pend = s.pend ++ us := by simp [St.pend]
    have hu := h.up hd
    refine ⟨h.sorted, ?_, ?_, fun hd2 => ?_⟩
    · rw [e]
      show runs _ s.seen = runs _ s.synced
      rw [h.seen, ← runs_append]
      congr 1
      show _ = List.take (s.units + min us.length s.left) _
      rw [hu, List.take_length_add_append, List.take_length]
    · rw [e, List.length_append]
      show s.units + _ ≤ _
      omega
    · rw [e, List.length_append]
      show s.units + _ = _
      have : ¬ min us.length s.left < us.length := of_decide_eq_false hd2
      omega
  · rw [if_neg h0]
    exact St.burn_ok h _ hd
theorem St.settle_ok {s : St} (h : s.ok) : s.settle.ok := ⟨h.sortedSeen, rfl, Nat.le_refl _, fun _ => rfl⟩
theorem St.crashed_ok {s : St} (h : s.ok) (k : Nat) : (s.crashed k).ok := ⟨runs_sorted _ h.sorted, rfl, Nat.le_refl _, fun _ => rfl⟩
theorem St.refuse_down {s : St} {ns : List Str} (h : ¬ s.refuse ns ≠ 0) : s.down = false := by
  unfold St.refuse at h
  split at h
  · cases hd : s.down with
    | false => rfl
    | true => rw [hd] at h; simp at h
  · simp at h
theorem St.append_ok {s : St} (h : s.ok) (n c : Str) : (s.append n c).1.ok := by
  unfold St.append
  split
  · exact h
  · rename_i hr
    split
    · exact h
    · exact St.act_ok h _ (St.refuse_down hr)
theorem St.remove_ok {s : St} (h : s.ok) (n : Str) : (s.remove n).1.ok := by
  unfold St.remove
  split
  · exact h
  · rename_i hr
    split
    · exact h
    · exact St.act_ok h _ (St.refuse_down hr)
theorem St.rename_ok {s : St} (h : s.ok) (a b : Str) : (s.rename a b).1.ok := by
  unfold St.rename
  split
  · exact h
  · rename_i hr
    split
    · exact h
    · exact St.act_ok h _ (St.refuse_down hr)
theorem St.sync_ok {s : St} (h : s.ok) : s.sync.1.ok := by
  unfold St.sync
  split
  · exact h
  · rename_i hr
    split
    · exact St.burn_ok h _ (St.refuse_down hr)
    · exact St.settle_ok (St.burn_ok h 1 (St.refuse_down hr))
theorem St.crash_ok {s : St} (h : s.ok) (k : Int) : (s.crash k).1.ok := by
  unfold St.crash
  split
  · exact h
  · exact St.crashed_ok h _
theorem St.fuse_ok {s : St} (h : s.ok) (k : Int) : (s.fuse k).1.ok := by
  unfold St.fuse
  split
  · exact h
  · split
    · exact h
    · exact ⟨h.sorted, h.seen, h.units, h.up⟩

/-! ### how much a disk holds -/
theorem St.act_lim (s : St) (us : List U) : (s.act us).lim ≤ s.lim + 2 * us.length := by
  unfold St.act
  split
  · show K.wt s.synced + 2 * (List.flatten (s.steps ++ [us])).length ≤ K.wt s.synced + 2 * s.pend.length + _
    simp only [List.flatten_append, List.length_append, St.pend]
    simp
    omega
  · show K.wt s.synced + 2 * s.pend.length ≤ _
    unfold St.lim
    omega
theorem St.append_lim (s : St) (n c : Str) : (s.append n c).1.lim ≤ s.lim + 2 * (1 + c.length) := by
  unfold St.append
  split
  · exact Nat.le_add_right ..
  · split
    · exact Nat.le_add_right ..
    · refine Nat.le_trans (s.act_lim _) ?_
      unfold appendUs
      split <;> simp <;> omega
theorem St.remove_lim (s : St) (n : Str) : (s.remove n).1.lim ≤ s.lim + 2 := by
  unfold St.remove
  split
  · exact Nat.le_add_right ..
  · split
    · exact Nat.le_add_right ..
    · exact s.act_lim _
theorem St.rename_lim (s : St) (a b : Str) : (s.rename a b).1.lim ≤ s.lim + 2 := by
  unfold St.rename
  split
  · exact Nat.le_add_right ..
  · split
    · exact Nat.le_add_right ..
    · exact s.act_lim _
theorem St.crashed_lim {s : St} (h : s.ok) (k : Nat) : (s.crashed k).lim ≤ s.lim := by
  show K.wt (runs _ s.synced) + 2 * 0 ≤ K.wt s.synced + 2 * s.pend.length
  have := runs_wt (s.pend.take (min k s.units)) h.sorted
  have h2 : (s.pend.take (min k s.units)).length ≤ s.pend.length := List.length_take_le' _ _
  omega
theorem St.crash_lim {s : St} (h : s.ok) (k : Int) : (s.crash k).1.lim ≤ s.lim := by
  unfold St.crash
  split
  · exact Nat.le_refl _
  · exact St.crashed_lim h _
theorem St.sync_lim {s : St} (h : s.ok) : s.sync.1.lim ≤ s.lim := by
  unfold St.sync
  split
  · exact Nat.le_refl _
  · split
    · exact Nat.le_refl _
    · show K.wt s.seen + 2 * 0 ≤ _
      have := h.wtSeen
      omega
theorem St.fuse_lim (s : St) (k : Int) : (s.fuse k).1.lim ≤ s.lim := by
  unfold St.fuse
  split
  · exact Nat.le_refl _
  · split <;> exact Nat.le_refl _
end Go.Proofs.Ytfmigkmkdhciiaa.K
