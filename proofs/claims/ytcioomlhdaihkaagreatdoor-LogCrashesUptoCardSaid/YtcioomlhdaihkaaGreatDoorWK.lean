/-
  Disks: plain mathematics of files, units, steps, fuses and crashes.
-/
import Derived.Test.YtcioomlhdaihkaaGreatDoorProg
import Derived.Test.YtcioomlhdaihkaaGreatDoorLater
import Derived.WalkKit
import Derived.Outline
import Derived.Maps.OwnSet
import Derived.Maps.RangeWalk
import Derived.Sort.KeysCollected
import Derived.Lib.Hide
namespace Go.Proofs.YtcioomlhdaihkaaGreatDoor.K
set_option linter.unusedVariables false
set_option linter.unusedSimpArgs false

abbrev Str := List UInt8
/-- Files, by rising names. -/
abbrev Fs := List (Str × Str)

def get : Fs → Str → Option Str
  | [], _ => none
  | (n, c) :: r, s => if n = s then some c else get r s
def put (s c : Str) : Fs → Fs
  | [] => [(s, c)]
  | (n, d) :: r => if s = n then (s, c) :: r else if s < n then (s, c) :: (n, d) :: r else (n, d) :: put s c r
def del (s : Str) (f : Fs) : Fs := f.filter (fun p => p.1 != s)
def used (f : Fs) : Nat := (f.map (fun p => p.2.length)).sum
def wt (f : Fs) : Nat := (f.map (fun p => 1 + p.2.length)).sum
def names (f : Fs) : List Str := f.map (·.1)
def Sorted (f : Fs) : Prop := f.Pairwise (fun a b => a.1 < b.1)

theorem lt_irrefl (a : Str) : ¬ a < a := List.lt_irrefl a
theorem lt_trans {a b c : Str} (h : a < b) (k : b < c) : a < c := List.lt_trans h k
theorem lt_total {a b : Str} (h : ¬ a = b) (k : ¬ a < b) : b < a := by
  rcases Classical.em (b < a) with h1 | h1
  · exact h1
  · exact absurd (List.le_antisymm (List.not_lt.1 h1) (List.not_lt.1 k)) h

theorem get_mem {f : Fs} {s c : Str} (h : get f s = some c) : (s, c) ∈ f := by
  induction f with
  | nil => cases h
  | cons p r ih =>
    obtain ⟨n, d⟩ := p
    unfold get at h
    split at h
    · rename_i e; subst e; cases h; exact List.mem_cons_self ..
    · exact List.mem_cons_of_mem _ (ih h)
theorem get_of_mem {f : Fs} (hs : Sorted f) {s c : Str} (h : (s, c) ∈ f) : get f s = some c := by
  induction f with
  | nil => cases h
  | cons p r ih =>
    obtain ⟨n, d⟩ := p
    obtain ⟨h1, h2⟩ := List.pairwise_cons.1 hs
    unfold get
    rcases List.mem_cons.1 h with h3 | h3
    · cases h3; simp
    · have := h1 _ h3
      have hne : ¬ n = s := fun e => by rw [e] at this; exact lt_irrefl _ this
      rw [if_neg hne]
      exact ih h2 h3
theorem get_none {f : Fs} {s : Str} : get f s = none ↔ ∀ c, (s, c) ∉ f := by
  induction f with
  | nil => simp [get]
  | cons p r ih =>
    obtain ⟨n, d⟩ := p
    unfold get
    by_cases e : n = s
    · subst e
      rw [if_pos rfl]
      exact ⟨fun h => (by cases h), fun h => absurd (List.mem_cons_self ..) (h d)⟩
    · rw [if_neg e, ih]
      have e' : ¬ s = n := fun h => e h.symm
      simp [e']
theorem get_put_same (s c : Str) (f : Fs) : get (put s c f) s = some c := by
  induction f with
  | nil => simp [put, get]
  | cons p r ih =>
    obtain ⟨n, d⟩ := p
    unfold put
    split
    · simp [get]
    · rename_i h1
      split
      · simp [get]
      · rw [get, if_neg (fun e => h1 e.symm)]; exact ih
theorem get_put_other {s t : Str} (h : s ≠ t) (c : Str) (f : Fs) : get (put s c f) t = get f t := by
  induction f with
  | nil => simp [put, get, h]
  | cons p r ih =>
    obtain ⟨n, d⟩ := p
    unfold put
    split
    · rename_i e; subst e; simp [get, h]
    · split
      · rw [get, if_neg h]
      · rw [get, get, ih]
theorem get_del_same (s : Str) (f : Fs) : get (del s f) s = none := by
  rw [get_none]
  intro c h
  have := (List.mem_filter.1 h).2
  simp at this
theorem get_del_other {s t : Str} (h : s ≠ t) (f : Fs) : get (del s f) t = get f t := by
  induction f with
  | nil => rfl
  | cons p r ih =>
    obtain ⟨n, d⟩ := p
    unfold del at *
    by_cases e : n = s
    · subst e
      rw [List.filter_cons_of_neg (by simp), ih, get, if_neg h]
    · rw [List.filter_cons_of_pos (by simpa using e), get, get, ih]
theorem mem_put {s c : Str} {f : Fs} {p : Str × Str} (h : p ∈ put s c f) : p = (s, c) ∨ p ∈ f := by
  induction f with
  | nil => simpa [put] using h
  | cons q r ih =>
    obtain ⟨n, d⟩ := q
    unfold put at h
    split at h
    · rcases List.mem_cons.1 h with h | h
      · exact .inl h
      · exact .inr (List.mem_cons_of_mem _ h)
    · split at h
      · rcases List.mem_cons.1 h with h | h
        · exact .inl h
        · exact .inr h
      · rcases List.mem_cons.1 h with h | h
        · exact .inr (h ▸ List.mem_cons_self ..)
        · rcases ih h with h | h
          · exact .inl h
          · exact .inr (List.mem_cons_of_mem _ h)
theorem sorted_put {s c : Str} {f : Fs} (hs : Sorted f) : Sorted (put s c f) := by
  induction f with
  | nil => simp [put, Sorted]
  | cons q r ih =>
    obtain ⟨n, d⟩ := q
    obtain ⟨h1, h2⟩ := List.pairwise_cons.1 hs
    unfold put
    split
    · rename_i e; subst e
      exact List.pairwise_cons.2 ⟨h1, h2⟩
    · rename_i hne
      split
      · rename_i hlt
        refine List.pairwise_cons.2 ⟨fun p hp => ?_, hs⟩
        rcases List.mem_cons.1 hp with rfl | hp
        · exact hlt
        · exact lt_trans hlt (h1 p hp)
      · rename_i hnl
        refine List.pairwise_cons.2 ⟨fun p hp => ?_, ih h2⟩
        rcases mem_put hp with rfl | hp
        · exact lt_total hne hnl
        · exact h1 p hp
theorem sorted_del {s : Str} {f : Fs} (hs : Sorted f) : Sorted (del s f) := hs.filter _

theorem used_le_wt (f : Fs) : used f ≤ wt f := by
  unfold used wt
  induction f with
  | nil => simp
  | cons p r ih => simp only [List.map_cons, List.sum_cons]; omega
theorem len_le_wt (f : Fs) : f.length ≤ wt f := by
  unfold wt
  induction f with
  | nil => simp
  | cons p r ih => simp only [List.map_cons, List.sum_cons, List.length_cons]; omega
theorem wt_mem {f : Fs} {s c : Str} (h : get f s = some c) : 1 + c.length ≤ wt f := by
  have := get_mem h
  unfold wt
  induction f with
  | nil => cases this
  | cons p r ih =>
    simp only [List.map_cons, List.sum_cons]
    rcases List.mem_cons.1 this with rfl | h2
    · have : (s, c).2.length = c.length := rfl
      omega
    · unfold get at h
      split at h
      · rename_i e; cases h; omega
      · have := ih h h2; omega
theorem wt_del (s : Str) (f : Fs) : wt (del s f) ≤ wt f := by
  unfold wt del
  induction f with
  | nil => simp
  | cons p r ih =>
    rw [List.filter_cons]
    split
    · simp only [List.map_cons, List.sum_cons]; omega
    · simp only [List.map_cons, List.sum_cons]; omega
theorem wt_del_get {s c : Str} {f : Fs} (hg : get f s = some c) : wt (del s f) + (1 + c.length) ≤ wt f := by
  induction f with
  | nil => cases hg
  | cons p r ih =>
    obtain ⟨n, d⟩ := p
    unfold get at hg
    have e : wt ((n, d) :: r) = (1 + d.length) + wt r := by simp [wt]
    by_cases h : n = s
    · rw [if_pos h] at hg
      cases hg
      subst h
      have e2 : del n ((n, c) :: r) = del n r := by unfold del; rw [List.filter_cons_of_neg (by simp)]
      rw [e, e2]
      have := wt_del n r
      omega
    · rw [if_neg h] at hg
      have e2 : del s ((n, d) :: r) = (n, d) :: del s r := by unfold del; rw [List.filter_cons_of_pos (by simpa using h)]
      have e3 : wt ((n, d) :: del s r) = (1 + d.length) + wt (del s r) := by simp [wt]
      rw [e, e2, e3]
      have := ih hg
      omega
theorem wt_put (s c : Str) (f : Fs) : wt (put s c f) ≤ wt f + (1 + c.length) := by
  induction f with
  | nil => simp [put, wt]
  | cons p r ih =>
    obtain ⟨n, d⟩ := p
    unfold put
    have e : wt ((n, d) :: r) = (1 + d.length) + wt r := by simp [wt]
    split
    · have e3 : wt ((s, c) :: r) = (1 + c.length) + wt r := by simp [wt]
      rw [e3, e]; omega
    · split
      · have e3 : wt ((s, c) :: (n, d) :: r) = (1 + c.length) + ((1 + d.length) + wt r) := by simp [wt]
        rw [e3, e]; omega
      · have e3 : wt ((n, d) :: put s c r) = (1 + d.length) + wt (put s c r) := by simp [wt]
        rw [e3, e]; omega
theorem wt_put_get {s c d : Str} {f : Fs} (hs : Sorted f) (hg : get f s = some d) : wt (put s c f) + d.length ≤ wt f + c.length := by
  induction f with
  | nil => cases hg
  | cons p r ih =>
    obtain ⟨n, x⟩ := p
    obtain ⟨h1, h2⟩ := List.pairwise_cons.1 hs
    unfold get at hg
    have e : wt ((n, x) :: r) = (1 + x.length) + wt r := by simp [wt]
    unfold put
    by_cases h : n = s
    · rw [if_pos h] at hg
      cases hg
      rw [if_pos h.symm]
      have e3 : wt ((s, c) :: r) = (1 + c.length) + wt r := by simp [wt]
      rw [e3, e]; omega
    · rw [if_neg h] at hg
      rw [if_neg (fun e => h e.symm)]
      split
      · rename_i hlt
        exact absurd (lt_trans hlt (h1 _ (get_mem hg))) (lt_irrefl _)
      · have e3 : wt ((n, x) :: put s c r) = (1 + x.length) + wt (put s c r) := by simp [wt]
        have := ih h2 hg
        rw [e3, e]; omega

/-! ### units -/
inductive U where
  | mk (n : Str)
  | byte (n : Str) (c : UInt8)
  | del (n : Str)
  | ren (a b : Str)
def U.run : U → Fs → Fs
  | .mk n, f => put n [] f
  | .byte n c, f => put n ((get f n).getD [] ++ [c]) f
  | .del n, f => K.del n f
  | .ren a b, f => put b ((get f a).getD []) (K.del a f)
def runs (us : List U) (f : Fs) : Fs := us.foldl (fun f u => u.run f) f
theorem runs_append (a b : List U) (f : Fs) : runs (a ++ b) f = runs b (runs a f) := List.foldl_append
theorem U.sorted (u : U) {f : Fs} (h : Sorted f) : Sorted (u.run f) := by
  cases u with
  | mk n => exact sorted_put h
  | byte n c => exact sorted_put h
  | del n => exact sorted_del h
  | ren a b => exact sorted_put (sorted_del h)
theorem runs_sorted : ∀ (us : List U) {f : Fs}, Sorted f → Sorted (runs us f)
  | [], f, h => h
  | u :: r, f, h => runs_sorted r (u.sorted h)
theorem U.wt (u : U) {f : Fs} (h : Sorted f) : K.wt (u.run f) ≤ K.wt f + 2 := by
  cases u with
  | mk n => exact Nat.le_trans (wt_put n [] f) (by simp)
  | byte n c =>
    show K.wt (put n ((get f n).getD [] ++ [c]) f) ≤ _
    cases hg : get f n with
    | none => exact Nat.le_trans (wt_put n _ f) (by simp)
    | some d =>
      have := wt_put_get (c := (some d).getD [] ++ [c]) h hg
      simp at this ⊢
      omega
  | del n => exact Nat.le_trans (wt_del n f) (by omega)
  | ren a b =>
    show K.wt (put b ((get f a).getD []) (K.del a f)) ≤ _
    have h1 := wt_put b ((get f a).getD []) (K.del a f)
    cases hg : get f a with
    | none => rw [hg] at h1; have := wt_del a f; simp at h1 ⊢; omega
    | some d => rw [hg] at h1; have := wt_del_get hg; simp at h1 ⊢; omega
theorem runs_wt : ∀ (us : List U) {f : Fs}, Sorted f → K.wt (runs us f) ≤ K.wt f + 2 * us.length
  | [], f, h => by simp [runs]
  | u :: r, f, h => by
    have h1 := runs_wt r (u.sorted h)
    have h2 := u.wt h
    show K.wt (runs r (u.run f)) ≤ _
    simp only [List.length_cons]
    omega

/-! ### disks -/
structure St where
  room : Nat
  synced : Fs
  seen : Fs
  steps : List (List U)
  units : Nat
  left : Nat
  down : Bool
def noFuse : Nat := 9223372036854775807
def St.pend (s : St) : List U := s.steps.flatten
def may (n : Str) : Bool := decide (n ≠ []) && decide (n.length ≤ 32)
def new (room : Nat) : St := ⟨room, [], [], [], 0, noFuse, false⟩
/-- The error of a step with these names, before it is known what it is about. -/
def St.refuse (s : St) (ns : List Str) : Nat := if ns.all may then (if s.down then 70 else 0) else 2
def St.burn (s : St) (k : Nat) : St := { s with left := s.left - min k s.left, down := decide (min k s.left < k) }
def St.act (s : St) (us : List U) : St :=
  if 0 < min us.length s.left then { s.burn us.length with seen := runs (us.take (min us.length s.left)) s.seen, steps := s.steps ++ [us], units := s.units + min us.length s.left } else s.burn us.length
def St.actE (s : St) (us : List U) : Nat := if min us.length s.left < us.length then 70 else 0
def appendUs (n c : Str) (there : Bool) : List U := (if there then [] else [U.mk n]) ++ c.map (U.byte n)
def St.append (s : St) (n c : Str) : St × Nat :=
  if s.refuse [n] ≠ 0 then (s, s.refuse [n])
  else if s.room < K.used s.seen + c.length then (s, 6)
  else (s.act (appendUs n c (K.get s.seen n).isSome), s.actE (appendUs n c (K.get s.seen n).isSome))
def St.remove (s : St) (n : Str) : St × Nat :=
  if s.refuse [n] ≠ 0 then (s, s.refuse [n])
  else if (K.get s.seen n).isSome = false then (s, 7)
  else (s.act [.del n], s.actE [.del n])
def St.rename (s : St) (a b : Str) : St × Nat :=
  if s.refuse [a, b] ≠ 0 then (s, s.refuse [a, b])
  else if (K.get s.seen a).isSome = false then (s, 7)
  else (s.act [.ren a b], s.actE [.ren a b])
def St.settle (s : St) : St := { s with synced := s.seen, steps := [], units := 0 }
def St.sync (s : St) : St × Nat :=
  if s.refuse [] ≠ 0 then (s, s.refuse [])
  else if min 1 s.left = 0 then (s.burn 1, 70)
  else ((s.burn 1).settle, 0)
def St.crashed (s : St) (k : Nat) : St := ⟨s.room, runs (s.pend.take (min k s.units)) s.synced, runs (s.pend.take (min k s.units)) s.synced, [], 0, noFuse, false⟩
def St.crash (s : St) (k : Int) : St × Nat := if k < 0 then (s, 2) else (s.crashed k.toNat, 0)
def St.fuse (s : St) (k : Int) : St × Nat := if k < 0 then (s, 2) else if s.down then (s, 70) else ({ s with left := k.toNat }, 0)
def St.read (s : St) (n : Str) : Str × Nat := if may n then (match K.get s.seen n with | some c => (c, 0) | none => ([], 7)) else ([], 2)

/-- What is seen is what was synced, with all units applied to it. -/
structure St.ok (s : St) : Prop where
  sorted : Sorted s.synced
  seen : s.seen = runs (s.pend.take s.units) s.synced
  units : s.units ≤ s.pend.length
  up : s.down = false → s.units = s.pend.length
theorem St.ok.sortedSeen {s : St} (h : s.ok) : Sorted s.seen := h.seen ▸ runs_sorted _ h.sorted
/-- How much a disk holds, at most. -/
def St.lim (s : St) : Nat := K.wt s.synced + 2 * s.pend.length
theorem St.ok.wtSeen {s : St} (h : s.ok) : K.wt s.seen ≤ s.lim := by
  rw [h.seen]
  have := runs_wt (s.pend.take s.units) h.sorted
  have h2 : (s.pend.take s.units).length ≤ s.pend.length := List.length_take_le' _ _
  unfold St.lim
  omega
theorem new_ok (room : Nat) : (new room).ok := ⟨List.Pairwise.nil, rfl, Nat.le_refl _, fun _ => rfl⟩

theorem St.burn_ok {s : St} (h : s.ok) (k : Nat) (hd : s.down = false) : (s.burn k).ok := ⟨h.sorted, h.seen, h.units, fun _ => h.up hd⟩
theorem St.act_ok {s : St} (h : s.ok) (us : List U) (hd : s.down = false) : (s.act us).ok := by
  unfold St.act
  by_cases h0 : 0 < min us.length s.left
  · rw [if_pos h0]
    have e : ({ s.burn us.length with seen := runs (us.take (min us.length s.left)) s.seen, steps := s.steps ++ [us], units := s.units + min us.length s.left } : St).pend = s.pend ++ us := by simp [St.pend]
    have hu := h.up hd
    refine ⟨h.sorted, ?_, ?_, fun hd2 => ?_⟩
    · rw [e]
      show runs _ s.seen = runs _ s.synced
      rw [h.seen, ← runs_append]
      congr 1
      show _ = List.take (s.units + min us.length s.left) _
      rw [hu, List.take_length_add_append, List.take_length]
    · rw [e, List.length_append]
      show s.units + _ ≤ _
      omega
    · rw [e, List.length_append]
      show s.units + _ = _
      have : ¬ min us.length s.left < us.length := of_decide_eq_false hd2
      omega
  · rw [if_neg h0]
    exact St.burn_ok h _ hd
theorem St.settle_ok {s : St} (h : s.ok) : s.settle.ok := ⟨h.sortedSeen, rfl, Nat.le_refl _, fun _ => rfl⟩
theorem St.crashed_ok {s : St} (h : s.ok) (k : Nat) : (s.crashed k).ok := ⟨runs_sorted _ h.sorted, rfl, Nat.le_refl _, fun _ => rfl⟩
theorem St.refuse_down {s : St} {ns : List Str} (h : ¬ s.refuse ns ≠ 0) : s.down = false := by
  unfold St.refuse at h
  split at h
  · cases hd : s.down with
    | false => rfl
    | true => rw [hd] at h; simp at h
  · simp at h
theorem St.append_ok {s : St} (h : s.ok) (n c : Str) : (s.append n c).1.ok := by
  unfold St.append
  split
  · exact h
  · rename_i hr
    split
    · exact h
    · exact St.act_ok h _ (St.refuse_down hr)
theorem St.remove_ok {s : St} (h : s.ok) (n : Str) : (s.remove n).1.ok := by
  unfold St.remove
  split
  · exact h
  · rename_i hr
    split
    · exact h
    · exact St.act_ok h _ (St.refuse_down hr)
theorem St.rename_ok {s : St} (h : s.ok) (a b : Str) : (s.rename a b).1.ok := by
  unfold St.rename
  split
  · exact h
  · rename_i hr
    split
    · exact h
    · exact St.act_ok h _ (St.refuse_down hr)
theorem St.sync_ok {s : St} (h : s.ok) : s.sync.1.ok := by
  unfold St.sync
  split
  · exact h
  · rename_i hr
    split
    · exact St.burn_ok h _ (St.refuse_down hr)
    · exact St.settle_ok (St.burn_ok h 1 (St.refuse_down hr))
theorem St.crash_ok {s : St} (h : s.ok) (k : Int) : (s.crash k).1.ok := by
  unfold St.crash
  split
  · exact h
  · exact St.crashed_ok h _
theorem St.fuse_ok {s : St} (h : s.ok) (k : Int) : (s.fuse k).1.ok := by
  unfold St.fuse
  split
  · exact h
  · split
    · exact h
    · exact ⟨h.sorted, h.seen, h.units, h.up⟩

/-! ### how much a disk holds -/
theorem St.act_lim (s : St) (us : List U) : (s.act us).lim ≤ s.lim + 2 * us.length := by
  unfold St.act
  split
  · show K.wt s.synced + 2 * (List.flatten (s.steps ++ [us])).length ≤ K.wt s.synced + 2 * s.pend.length + _
    simp only [List.flatten_append, List.length_append, St.pend]
    simp
    omega
  · show K.wt s.synced + 2 * s.pend.length ≤ _
    unfold St.lim
    omega
theorem St.append_lim (s : St) (n c : Str) : (s.append n c).1.lim ≤ s.lim + 2 * (1 + c.length) := by
  unfold St.append
  split
  · exact Nat.le_add_right ..
  · split
    · exact Nat.le_add_right ..
    · refine Nat.le_trans (s.act_lim _) ?_
      unfold appendUs
      split <;> simp <;> omega
theorem St.remove_lim (s : St) (n : Str) : (s.remove n).1.lim ≤ s.lim + 2 := by
  unfold St.remove
  split
  · exact Nat.le_add_right ..
  · split
    · exact Nat.le_add_right ..
    · exact s.act_lim _
theorem St.rename_lim (s : St) (a b : Str) : (s.rename a b).1.lim ≤ s.lim + 2 := by
  unfold St.rename
  split
  · exact Nat.le_add_right ..
  · split
    · exact Nat.le_add_right ..
    · exact s.act_lim _
theorem St.crashed_lim {s : St} (h : s.ok) (k : Nat) : (s.crashed k).lim ≤ s.lim := by
  show K.wt (runs _ s.synced) + 2 * 0 ≤ K.wt s.synced + 2 * s.pend.length
  have := runs_wt (s.pend.take (min k s.units)) h.sorted
  have h2 : (s.pend.take (min k s.units)).length ≤ s.pend.length := List.length_take_le' _ _
  omega
theorem St.crash_lim {s : St} (h : s.ok) (k : Int) : (s.crash k).1.lim ≤ s.lim := by
  unfold St.crash
  split
  · exact Nat.le_refl _
  · exact St.crashed_lim h _
theorem St.sync_lim {s : St} (h : s.ok) : s.sync.1.lim ≤ s.lim := by
  unfold St.sync
  split
  · exact Nat.le_refl _
  · split
    · exact Nat.le_refl _
    · show K.wt s.seen + 2 * 0 ≤ _
      have := h.wtSeen
      omega
theorem St.fuse_lim (s : St) (k : Int) : (s.fuse k).1.lim ≤ s.lim := by
  unfold St.fuse
  split
  · exact Nat.le_refl _
  · split <;> exact Nat.le_refl _
end Go.Proofs.YtcioomlhdaihkaaGreatDoor.K

namespace Go.Proofs.YtcioomlhdaihkaaGreatDoor.K
set_option linter.unusedVariables false
set_option linter.unusedSimpArgs false
open Go Go.RowKit Go.Maps Go.MapKept Go.ChangeMaps

set_option maxRecDepth 100000
set_option linter.unusedVariables false
set_option linter.unusedSimpArgs false
abbrev strV (l : Str) : Value := .string ⟨l.toArray⟩
/-- An element reads as itself. -/
def hv (v : Value) : Option (DataW Value × List MemPlace) := some (.held v, [])
theorem strK : Keyed Tryz.prog 9 := string_keyed Tryz.underlying9
theorem keyS {s : Str} (h : s.length ≤ maxLen) : keyOf Tryz.prog 9 (strV s) = some (.string s) := by
  have h2 : (⟨s.toArray⟩ : ByteArray).size ≤ maxLen := by simpa [ByteArray.size] using h
  unfold keyOf
  rw [Tryz.underlying9]
  simp [mapKey, Tryz.underlying9, h2]
theorem isKey {s : Str} (h : s.length ≤ maxLen) : WideAt.IsKeyLit (.string s) := strK.key (keyS h)

/-- Block m is a map of at most n files; f tells of each name which slice it has. -/
def MapAt (w : World) (m n : Nat) (f : Str → Option Value) : Prop :=
  ∃ D : DataW Value, w.ownsMap Tryz.prog 9 hv m n D ∧ ∀ s : Str, s.length ≤ maxLen → (f s = none → Maps.has D (.string s) = false) ∧ ∀ v, f s = some v → Maps.has D (.string s) = true ∧ ∀ z, D.atKey (.string s) z = .held v

theorem zeroS (w : World) : (zeroValue 83).run Tryz.prog w = .ok (.slice none 0 0) w := Tryz.zeroValue83 w

theorem MapAt.lt {w : World} {m n : Nat} {f : Str → Option Value} (h : MapAt w m n f) : m < w.heap.size := by obtain ⟨D, h, _⟩ := h; exact h.lt
theorem MapAt.mono {w : World} {m n n' : Nat} {f : Str → Option Value} (h : MapAt w m n f) (hn : n ≤ n') : MapAt w m n' f := by obtain ⟨D, h, h2⟩ := h; exact ⟨D, h.mono hn, h2⟩
theorem MapAt.keep {w w' : World} {m n : Nat} {f : Str → Option Value} (h : MapAt w m n f) (hb : w'.heap[m]? = w.heap[m]?) : MapAt w' m n f := by
  obtain ⟨D, ⟨es, clock, h1, h2⟩, r⟩ := h
  exact ⟨D, ⟨es, clock, hb.trans h1, h2⟩, r⟩
theorem MapAt.congr {w : World} {m n : Nat} {f g : Str → Option Value} (h : MapAt w m n f) (hfg : ∀ s, s.length ≤ maxLen → f s = g s) : MapAt w m n g := by
  obtain ⟨D, h1, h2⟩ := h
  exact ⟨D, h1, fun s hs => by rw [← hfg s hs]; exact h2 s hs⟩
theorem map_made (w : World) : MapAt (w.alloc (.map #[] 0)) w.heap.size 0 (fun _ => none) :=
  ⟨.map [], World.ownsMap_made _ _ _ _, fun s _ => ⟨fun _ => by simp [Maps.has], fun v h => by cases h⟩⟩

theorem MapAt.look_ok {w : World} {m n : Nat} {f : Str → Option Value} (h : MapAt w m n f) {s : Str} (hs : s.length ≤ maxLen) :
    (Instr.lookup 50 (.map (some m)) (strV s) true).run Tryz.prog w = .ok (.tuple #[(f s).getD (.slice none 0 0), .bool (f s).isSome]) w := by
  obtain ⟨D, h1, h2⟩ := h
  obtain ⟨v, ps, hr, hv⟩ := h1.look_ok strK Tryz.underlying50 (zeroS w) (zd := .held (.slice none 0 0)) (zp := []) rfl (keyS hs)
  rw [hr]
  cases hf : f s with
  | none =>
    have h3 := (h2 s hs).1 hf
    rw [atKey_of_not_has h3] at hv
    have : v = .slice none 0 0 := (show v = .slice none 0 0 ∧ ps = [] by simpa [K.hv] using hv).1
    rw [this, h3]; rfl
  | some c =>
    obtain ⟨h3, h4⟩ := (h2 s hs).2 c hf
    rw [h4] at hv
    have : v = c := (show v = c ∧ ps = [] by simpa [K.hv] using hv).1
    rw [this, h3]; rfl
theorem MapAt.look {w : World} {m n : Nat} {f : Str → Option Value} (h : MapAt w m n f) {s : Str} (hs : s.length ≤ maxLen) :
    (Instr.lookup 50 (.map (some m)) (strV s) false).run Tryz.prog w = .ok ((f s).getD (.slice none 0 0)) w := by
  obtain ⟨D, h1, h2⟩ := h
  obtain ⟨v, ps, hr, hv⟩ := h1.lookup strK Tryz.underlying50 (zeroS w) (zd := .held (.slice none 0 0)) (zp := []) rfl (keyS hs)
  rw [hr]
  cases hf : f s with
  | none =>
    have h3 := (h2 s hs).1 hf
    rw [atKey_of_not_has h3] at hv
    have : v = .slice none 0 0 := (show v = .slice none 0 0 ∧ ps = [] by simpa [K.hv] using hv).1
    rw [this]; rfl
  | some c =>
    obtain ⟨h3, h4⟩ := (h2 s hs).2 c hf
    rw [h4] at hv
    have : v = c := (show v = c ∧ ps = [] by simpa [K.hv] using hv).1
    rw [this]; rfl

def upd (f : Str → Option Value) (s : Str) (v : Value) : Str → Option Value := fun t => if t = s then some v else f t
def strike (f : Str → Option Value) (s : Str) : Str → Option Value := fun t => if t = s then none else f t

theorem MapAt.store {w : World} {m n : Nat} {f : Str → Option Value} (h : MapAt w m n f) (hn : n < maxLen) {s : Str} (hs : s.length ≤ maxLen) (v : Value) :
    ∃ w', (Instr.mapUpdate 50 (.map (some m)) (strV s) v).run Tryz.prog w = .ok () w' ∧ MapAt w' m (n + 1) (upd f s v) ∧ w.mapTurned w' m := by
  obtain ⟨D, h1, h2⟩ := h
  obtain ⟨w', hr, h3, h4⟩ := h1.store (d := .held v) (ps := []) strK Tryz.underlying50 hn (keyS hs) rfl
  refine ⟨w', hr, ⟨_, h3, fun t ht => ?_⟩, h4⟩
  unfold upd
  by_cases e : t = s
  · subst e
    rw [if_pos rfl]
    exact ⟨fun h => (by cases h), fun u hu => by cases hu; exact ⟨has_put_same h1.isMap (isKey ht) _, fun z => atKey_put_same h1.isMap (isKey ht) _ _⟩⟩
  · rw [if_neg e]
    have e' : (Lit.string t) ≠ .string s := fun h => e (by injection h)
    rw [has_put_other e']
    exact ⟨(h2 t ht).1, fun u hu => ⟨((h2 t ht).2 u hu).1, fun z => by rw [atKey_put_other e']; exact ((h2 t ht).2 u hu).2 z⟩⟩
theorem MapAt.drop {w : World} {m n : Nat} {f : Str → Option Value} (h : MapAt w m n f) {s : Str} (hs : s.length ≤ maxLen) (ty : TypeId) :
    ∃ w', (Builtin.delete_ #[50, 9] ty #[.map (some m), strV s]).run Tryz.prog w = .ok (.tuple #[]) w' ∧ MapAt w' m n (strike f s) ∧ w.mapTurned w' m := by
  obtain ⟨D, h1, h2⟩ := h
  obtain ⟨w', hr, h3, h4⟩ := h1.drop strK Tryz.underlying50 (keyS hs) ty
  refine ⟨w', hr, ⟨_, h3, fun t ht => ?_⟩, h4⟩
  unfold strike
  by_cases e : t = s
  · subst e
    rw [if_pos rfl]
    exact ⟨fun _ => has_del_same, fun u hu => by cases hu⟩
  · rw [if_neg e]
    have e' : (Lit.string t) ≠ .string s := fun h => e (by injection h)
    rw [has_del_other e']
    exact ⟨(h2 t ht).1, fun u hu => ⟨((h2 t ht).2 u hu).1, fun z => by rw [atKey_del_other e']; exact ((h2 t ht).2 u hu).2 z⟩⟩

/-- The names that a map has are those of the files. -/
def Same (f : Str → Option Value) (fs : Fs) : Prop := (∀ p ∈ fs, p.1.length ≤ 1099511627776) ∧ ∀ s, s.length ≤ maxLen → (f s).isSome = (get fs s).isSome
theorem names_nodup {fs : Fs} (hs : Sorted fs) : (names fs).Nodup :=
  List.pairwise_map.2 (hs.imp (fun {a b} h (e : a.1 = b.1) => lt_irrefl b.1 (by rw [e] at h; exact h)))
theorem mem_names {fs : Fs} {s : Str} : s ∈ names fs ↔ (get fs s).isSome = true := by
  rw [Option.isSome_iff_exists]
  constructor
  · intro h
    obtain ⟨p, hp, rfl⟩ := List.mem_map.1 h
    cases hg : get fs p.1 with
    | none => exact absurd hp (get_none.1 hg p.2)
    | some c => exact ⟨c, rfl⟩
  · rintro ⟨c, hc⟩
    exact List.mem_map.2 ⟨_, get_mem hc, rfl⟩
theorem MapAt.keys {w : World} {m n : Nat} {D : DataW Value} (h1 : w.ownsMap Tryz.prog 9 hv m n D) {f : Str → Option Value}
    (h2 : ∀ s : Str, s.length ≤ maxLen → (f s = none → Maps.has D (.string s) = false) ∧ ∀ v, f s = some v → Maps.has D (.string s) = true ∧ ∀ z, D.atKey (.string s) z = .held v)
    {fs : Fs} (hs : Sorted fs) (hf : Same f fs) : (names fs).Perm (strKeys D) := by
  have hle := strKeys_le h1 Tryz.underlying9
  obtain ⟨es, rfl, hp, hk⟩ := h1.entries strK
  obtain ⟨es', e, hk'⟩ := h1.keysOf
  cases e
  have hkS : ∀ p ∈ es, ∃ x, p.1 = .string x ∧ x.length ≤ maxLen := fun p hp => by
    obtain ⟨v, hv⟩ := hk' p hp
    obtain ⟨x, _, hx, hx2⟩ := Maps.keyOf_str Tryz.underlying9 hv
    exact ⟨x, hx, hx2⟩
  refine perm_strKeys hp (fun p hp => by obtain ⟨x, hx, _⟩ := hkS p hp; exact ⟨x, hx⟩) (names_nodup hs) (fun x => ?_)
  rw [mem_names]
  constructor
  · intro hg
    obtain ⟨c, hc⟩ := Option.isSome_iff_exists.1 hg
    have hx : x.length ≤ maxLen := Nat.le_trans (hf.1 _ (get_mem hc)) (by unfold maxLen; omega)
    have h3 := hf.2 x hx
    rw [hg] at h3
    obtain ⟨v, hv⟩ := Option.isSome_iff_exists.1 h3
    exact ((h2 x hx).2 v hv).1
  · intro hh
    rw [Maps.has_eq, List.any_eq_true] at hh
    obtain ⟨p, hp1, hp2⟩ := hh
    obtain ⟨y, hy, hyl⟩ := hkS p hp1
    have e : p.1 = .string x := WideAt.sameKey_eq hp2
    rw [hy] at e
    obtain rfl : y = x := by injection e
    cases hfx : f y with
    | none =>
      have := (h2 y hyl).1 hfx
      rw [Maps.has_eq] at this
      have h5 := List.any_eq_false.1 this p hp1
      rw [hp2] at h5
      exact absurd rfl h5
    | some v => rw [← hf.2 y hyl, hfx]; rfl
theorem size_keys (D : DataW Value) : Maps.size D = (strKeys D).length := by cases D <;> simp [Maps.size, strKeys]
/-- The bound is how many files there are. -/
theorem MapAt.tight {w : World} {m n : Nat} {f : Str → Option Value} (h : MapAt w m n f) {fs : Fs} (hs : Sorted fs) (hf : Same f fs) : MapAt w m fs.length f := by
  obtain ⟨D, h1, h2⟩ := h
  have hp := MapAt.keys h1 h2 hs hf
  have hl : fs.length = Maps.size D := by rw [size_keys, ← hp.length_eq, names, List.length_map]
  refine ⟨D, ?_, h2⟩
  obtain ⟨es, clock, hb, F, _, hD⟩ := h1
  refine ⟨es, clock, hb, F, ?_, hD⟩
  rw [hl, hD]
  simp [Maps.size, length_sorted]

theorem grown_of_turned {w w' : World} {m : Nat} (h : w.mapTurned w' m) : w'.os = w.os ∧ w'.tape = w.tape ∧ w'.output = w.output ∧ w'.heap.size = w.heap.size ∧ ∀ b, b ≠ m → w'.heap[b]? = w.heap[b]? := by
  obtain ⟨es, clock, es', clock', hb, rfl⟩ := h
  exact ⟨rfl, rfl, rfl, by simp [setBlock], fun b hne => heap_setBlock_other hb _ hne⟩

/-! ### what belongs to whom -/
/-- A block is free, or stays as it is for good, or is somebody's, who changes no cell below g. -/
inductive Cls where
  | free
  | fixed
  | own (t g : Nat)
abbrev Gh := Nat → Cls

/-- New blocks are nobody's; tags are below twice the count of blocks. -/
def Dom (A : Gh) (w : World) : Prop := (∀ b, A b ≠ .free → b < w.heap.size) ∧ ∀ b t g, A b = .own t g → t < 2 * w.heap.size
/-- Whoever has the tags T works: only blocks of these tags change, and new ones come; X: blocks that change besides. -/
structure Ext (T X : Nat → Prop) (A : Gh) (w : World) (A' : Gh) (w' : World) : Prop where
  os : w'.os = w.os
  tape : w'.tape = w.tape
  output : w'.output = w.output
  size : w.heap.size ≤ w'.heap.size
  keep : ∀ b, b < w.heap.size → ¬ X b → (∀ t g, A b = .own t g → ¬ T t) → w'.heap[b]? = w.heap[b]?
  gh : ∀ b, b < w.heap.size → (∀ t g, A b = .own t g → ¬ T t) → A' b = A b
  own : ∀ b t g, b < w.heap.size → A b = .own t g → T t → ∃ g', g ≤ g' ∧ A' b = .own t g' ∧ ∀ i, i < g → w'.cell? ⟨b, i, none⟩ = w.cell? ⟨b, i, none⟩
  dom : Dom A w → Dom A' w'

abbrev noX : Nat → Prop := fun _ => False

theorem Ext.refl (T X : Nat → Prop) (A : Gh) (w : World) : Ext T X A w A w :=
  ⟨rfl, rfl, rfl, Nat.le_refl _, fun _ _ _ _ => rfl, fun _ _ _ => rfl, fun b t g _ h _ => ⟨g, Nat.le_refl _, h, fun _ _ => rfl⟩, fun h => h⟩
theorem Ext.trans {T X : Nat → Prop} {A B C : Gh} {a b c : World} (h : Ext T X A a B b) (k : Ext T X B b C c) : Ext T X A a C c := by
  have e1 : ∀ i, i < a.heap.size → (∀ t g, A i = .own t g → ¬ T t) → (∀ t g, B i = .own t g → ¬ T t) := fun i hi hA t g hB => hA t g ((h.gh i hi hA) ▸ hB)
  refine ⟨k.os.trans h.os, k.tape.trans h.tape, k.output.trans h.output, Nat.le_trans h.size k.size, fun i hi hx hA => ?_, fun i hi hA => ?_, fun i t g hi hA hT => ?_, fun hd => k.dom (h.dom hd)⟩
  · exact (k.keep i (Nat.lt_of_lt_of_le hi h.size) hx (e1 i hi hA)).trans (h.keep i hi hx hA)
  · exact (k.gh i (Nat.lt_of_lt_of_le hi h.size) (e1 i hi hA)).trans (h.gh i hi hA)
  · obtain ⟨g1, hg1, hB, hc1⟩ := h.own i t g hi hA hT
    obtain ⟨g2, hg2, hC, hc2⟩ := k.own i t g1 (Nat.lt_of_lt_of_le hi h.size) hB hT
    exact ⟨g2, Nat.le_trans hg1 hg2, hC, fun j hj => (hc2 j (by omega)).trans (hc1 j hj)⟩
theorem Ext.mono {T T' X X' : Nat → Prop} {A B : Gh} {a b : World} (h : Ext T X A a B b) (hT : ∀ t, T t → T' t) (hX : ∀ i, X i → X' i) (hf : ∀ i, X i → ∀ t g, A i ≠ .own t g) : Ext T' X' A a B b := by
  refine ⟨h.os, h.tape, h.output, h.size, fun i hi hx hA => h.keep i hi (fun hx' => hx (hX i hx')) (fun t g e ht => hA t g e (hT t ht)), fun i hi hA => h.gh i hi (fun t g e ht => hA t g e (hT t ht)), fun i t g hi hA hT' => ?_, h.dom⟩
  by_cases ht : T t
  · exact h.own i t g hi hA ht
  · have hn : ∀ t' g', A i = .own t' g' → ¬ T t' := fun t' g' e => by rw [hA] at e; cases e; exact ht
    exact ⟨g, Nat.le_refl _, (h.gh i hi hn).trans hA, fun j _ => World.cell?_of_block (a := ⟨i, j, none⟩) (h.keep i hi (fun hx => hf i hx t g hA) hn)⟩
theorem Ext.mono0 {T T' X' : Nat → Prop} {A B : Gh} {a b : World} (h : Ext T noX A a B b) (hT : ∀ t, T t → T' t) : Ext T' X' A a B b := h.mono hT (fun _ h => h.elim) (fun _ h => h.elim)
theorem Ext.of_below {T X : Nat → Prop} {A : Gh} {w w' : World} (h : Below w.heap.size w w') : Ext T X A w A w' :=
  ⟨h.os, h.tape, h.output, h.size, fun b hb _ _ => h.block b hb, fun _ _ _ => rfl, fun b t g hb hA _ => ⟨g, Nat.le_refl _, hA, fun i _ => h.cell (p := ⟨b, i, none⟩) hb⟩, fun hd => ⟨fun b hb => Nat.lt_of_lt_of_le (hd.1 b hb) h.size, fun b t g e => by have := hd.2 b t g e; have := h.size; omega⟩⟩
/-- Nobody's blocks changed. -/
theorem Ext.below {T : Nat → Prop} {A B : Gh} {w w' : World} {N : Nat} (h : Ext T noX A w B w') (hN : N ≤ w.heap.size) (hf : ∀ b, b < N → ∀ t g, A b = .own t g → ¬ T t) : Below N w w' :=
  ⟨h.os, h.tape, h.output, h.size, fun b hb => h.keep b (by omega) (fun x => x) (hf b hb)⟩

/-- The cells of block b below n stay as they are, whoever works. -/
def Lies (A : Gh) (b n : Nat) : Prop := A b ≠ .free ∧ ∀ t g, A b = .own t g → n ≤ g
theorem Lies.cell {T X : Nat → Prop} {A B : Gh} {w w' : World} (h : Ext T X A w B w') (hX : ∀ i, X i → A i = .free) {b n : Nat} (hl : Lies A b n) (hb : b < w.heap.size) : (∀ i, i < n → w'.cell? ⟨b, i, none⟩ = w.cell? ⟨b, i, none⟩) ∧ Lies B b n := by
  by_cases ht : ∃ t g, A b = .own t g ∧ T t
  · obtain ⟨t, g, hA, hT⟩ := ht
    obtain ⟨g', hg, hB, hc⟩ := h.own b t g hb hA hT
    have := hl.2 t g hA
    exact ⟨fun i hi => hc i (by omega), by rw [hB]; simp, fun t' g'' e => by rw [hB] at e; cases e; omega⟩
  · have hn : ∀ t g, A b = .own t g → ¬ T t := fun t g hA hT => ht ⟨t, g, hA, hT⟩
    have e := h.gh b hb hn
    refine ⟨fun i _ => World.cell?_of_block (a := ⟨b, i, none⟩) (h.keep b hb (fun hx => hl.1 (hX b hx)) hn), ?_, ?_⟩
    · rw [e]; exact hl.1
    · rw [e]; exact hl.2
/-- A block that is not T's is as it was. -/
theorem Ext.same {T X : Nat → Prop} {A B : Gh} {w w' : World} (h : Ext T X A w B w') (hX : ∀ i, X i → A i = .free) {b : Nat} (hb : b < w.heap.size) (hf : A b ≠ .free) (hn : ∀ t g, A b = .own t g → ¬ T t) : w'.heap[b]? = w.heap[b]? ∧ B b = A b :=
  ⟨h.keep b hb (fun hx => hf (hX b hx)) hn, h.gh b hb hn⟩

/-! ### slices of bytes -/
/-- A slice has these bytes; nobody changes them. -/
def BytesV (A : Gh) (w : World) (v : Value) (c : Str) : Prop :=
  (v = .slice none 0 0 ∧ c = []) ∨ ∃ g cap, v = .slice (some ⟨g, 0, none⟩) c.length cap ∧ 0 < c.length ∧ c.length ≤ cap ∧ cap ≤ maxLen ∧ g < w.heap.size ∧ Lies A g c.length ∧ ∀ i (x : UInt8), c[i]? = some x → w.cell? ⟨g, i, none⟩ = some (.int .u8 (x.toNat : Int))
/-- What lies behind the bytes of a slice is t's. -/
def OwnV (t : Nat) (A : Gh) (w : World) (v : Value) : Prop :=
  ∀ g n cap, v = .slice (some ⟨g, 0, none⟩) n cap → n < cap → A g = .own t n ∧ ∃ cur : Array Value, w.heap[g]? = some (.cells cur 5 (0, 0)) ∧ cur.size = cap
theorem BytesV.ext {T X : Nat → Prop} {A B : Gh} {w w' : World} (h : Ext T X A w B w') (hX : ∀ i, X i → A i = .free) {v : Value} {c : Str} (hv : BytesV A w v c) : BytesV B w' v c := by
  rcases hv with hv | ⟨g, cap, e, h0, h1, h2, h3, h4, h5⟩
  · exact .inl hv
  · obtain ⟨hc, hl⟩ := h4.cell h hX h3
    exact .inr ⟨g, cap, e, h0, h1, h2, Nat.lt_of_lt_of_le h3 h.size, hl, fun i x hx => (hc i (List.getElem?_eq_some_iff.1 hx).1).trans (h5 i x hx)⟩
theorem OwnV.ext {T X : Nat → Prop} {A B : Gh} {w w' : World} {t : Nat} (h : Ext T X A w B w') (hX : ∀ i, X i → A i = .free) (hT : ¬ T t) {v : Value} (hv : OwnV t A w v) : OwnV t B w' v := by
  intro g n cap e hn
  obtain ⟨h1, cur, h2, h3⟩ := hv g n cap e hn
  have hg := (Array.getElem?_eq_some_iff.1 h2).1
  obtain ⟨h4, h5⟩ := h.same hX hg (by rw [h1]; simp) (fun t' g' e' => by rw [h1] at e'; cases e'; exact hT)
  exact ⟨h5.trans h1, cur, h4.trans h2, h3⟩
theorem BytesV.len {A : Gh} {w : World} {v : Value} {c : Str} (h : BytesV A w v c) : c.length ≤ maxLen := by
  rcases h with ⟨_, rfl⟩ | ⟨g, cap, _, _, h1, h2, _⟩
  · simp
  · omega

/-- The slices of a map have these files' bytes. -/
def Holds (A : Gh) (w : World) (f : Str → Option Value) (fs : Fs) : Prop := ∀ s c, get fs s = some c → ∃ v, f s = some v ∧ BytesV A w v c
/-- The map at block m has the files; what lies behind them is t's, each its own. -/
structure Files (t : Nat) (A : Gh) (w : World) (m : Nat) (fs : Fs) (f : Str → Option Value) : Prop where
  sorted : Sorted fs
  map : MapAt w m fs.length f
  same : Same f fs
  holds : Holds A w f fs
  own : ∀ s v, s.length ≤ maxLen → f s = some v → OwnV t A w v
  alone : ∀ s s' g n cap n' cap', s.length ≤ maxLen → s'.length ≤ maxLen → f s = some (.slice (some ⟨g, 0, none⟩) n cap) → f s' = some (.slice (some ⟨g, 0, none⟩) n' cap') → n < cap → n' < cap' → s = s'
theorem Files.ext {T X : Nat → Prop} {A B : Gh} {w w' : World} {t m : Nat} {fs : Fs} {f : Str → Option Value} (hF : Files t A w m fs f) (h : Ext T X A w B w') (hX : ∀ i, X i → A i = .free) (hT : ¬ T t) (hm : A m ≠ .free) (hmT : ∀ t g, A m = .own t g → ¬ T t) : Files t B w' m fs f :=
  ⟨hF.sorted, hF.map.keep (h.same hX hF.map.lt hm hmT).1, hF.same, fun s c hc => by obtain ⟨v, h1, h2⟩ := hF.holds s c hc; exact ⟨v, h1, h2.ext h hX⟩, fun s v hs hv => (hF.own s v hs hv).ext h hX hT, hF.alone⟩
end Go.Proofs.YtcioomlhdaihkaaGreatDoor.K
