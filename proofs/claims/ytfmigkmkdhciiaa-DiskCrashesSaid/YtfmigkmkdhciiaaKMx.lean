/-
  Disks: what acts keep.
-/
import Derived.Test.YtfmigkmkdhciiaaKD0
namespace Go.Proofs.Ytfmigkmkdhciiaa.K
set_option linter.unusedVariables false
set_option linter.unusedSimpArgs false
open Go Go.RowKit

theorem act_steps (s : St) (us : List U) : (s.act us).steps.length ≤ s.steps.length + 1 := by
  unfold St.act
  split
  · simp
  · exact Nat.le_add_right ..
theorem doM_ok {s : St} (h : s.ok) (x : ActM) : (doM s x).ok := by
  unfold doM
  repeat' split
  · exact St.append_ok h _ _
  · exact St.remove_ok h _
  · exact St.rename_ok h _ _
  · exact St.sync_ok h
  · exact St.fuse_ok h _
  · exact St.crash_ok h _
theorem doM_lim {s : St} (h : s.ok) (x : ActM) : (doM s x).lim ≤ s.lim + 2 * (1 + x.c.length) := by
  unfold doM
  repeat' split
  · exact s.append_lim _ _
  · have := s.remove_lim x.b; omega
  · have := s.rename_lim x.b x.c; omega
  · have := St.sync_lim h; omega
  · have := s.fuse_lim x.k; omega
  · have := St.crash_lim h x.k; omega
theorem doM_steps (s : St) (x : ActM) : (doM s x).steps.length ≤ s.steps.length + 1 := by
  unfold doM
  repeat' split
  · unfold St.append
    repeat' split
    · exact Nat.le_add_right ..
    · exact Nat.le_add_right ..
    · exact act_steps _ _
  · unfold St.remove
    repeat' split
    · exact Nat.le_add_right ..
    · exact Nat.le_add_right ..
    · exact act_steps _ _
  · unfold St.rename
    repeat' split
    · exact Nat.le_add_right ..
    · exact Nat.le_add_right ..
    · exact act_steps _ _
  · unfold St.sync
    repeat' split
    · exact Nat.le_add_right ..
    · exact Nat.le_add_right ..
    · exact Nat.zero_le _
  · unfold St.fuse
    repeat' split
    · exact Nat.le_add_right ..
    · exact Nat.le_add_right ..
    · exact Nat.le_add_right ..
  · unfold St.crash
    repeat' split
    · exact Nat.le_add_right ..
    · exact Nat.zero_le _

/-- Behind a base: nothing was synced, the disk is up, more units are there. -/
structure Beh (b s : St) (N : Nat) : Prop where
  ok : s.ok
  synced : s.synced = b.synced
  down : s.down = false
  pend : ∃ r, s.pend = b.pend ++ r
  left : noFuse ≤ s.left + N
theorem Beh.refl {b : St} (h : b.ok) (hd : b.down = false) (hl : b.left = noFuse) : Beh b b 0 := ⟨h, rfl, hd, ⟨[], by simp⟩, by omega⟩
theorem Beh.act {b s : St} {N : Nat} (h : Beh b s N) (us : List U) (hu : us.length ≤ 2000) (hN : N ≤ 1000000) : Beh b (s.act us) (N + us.length) := by
  have hl := h.left
  unfold noFuse at hl
  have hm : min us.length s.left = us.length := by omega
  have hdn : (s.act us).down = false := by
    unfold St.act
    split <;> (show decide (min us.length s.left < us.length) = false; exact decide_eq_false (by omega))
  refine ⟨St.act_ok h.ok us h.down, ?_, hdn, ?_, ?_⟩
  · unfold St.act
    split <;> exact h.synced
  · obtain ⟨r, hr⟩ := h.pend
    unfold St.act
    split
    · refine ⟨r ++ us, ?_⟩
      show (s.steps ++ [us]).flatten = _
      have : s.steps.flatten = b.pend ++ r := hr
      rw [List.flatten_append, this]
      simp
    · exact ⟨r, hr⟩
  · unfold noFuse
    have : (s.act us).left = s.left - min us.length s.left := by unfold St.act; split <;> rfl
    rw [this]
    omega
theorem Beh.mono {b s : St} {N M : Nat} (h : Beh b s N) (hm : N ≤ M) : Beh b s M := ⟨h.ok, h.synced, h.down, h.pend, by have := h.left; omega⟩
theorem Beh.doM {b s : St} {N : Nat} (h : Beh b s N) (x : ActM) (hx : x.a % 7 < 4) (hx0 : 0 ≤ x.a) (hc : x.c.length ≤ 1000) (hN : N ≤ 900000) : Beh b (K.doM s x) (N + 1001) := by
  have h7 : x.a % 7 = 0 ∨ x.a % 7 = 1 ∨ x.a % 7 = 2 ∨ x.a % 7 = 3 := by omega
  have hap : Beh b (s.append x.b x.c).1 (N + 1001) := by
    unfold St.append
    repeat' split
    · exact h.mono (by omega)
    · exact h.mono (by omega)
    · have hlen : (appendUs x.b x.c (K.get s.seen x.b).isSome).length ≤ 1001 := by unfold appendUs; split <;> simp <;> omega
      exact (h.act _ (by omega) (by omega)).mono (by omega)
  unfold K.doM
  rcases h7 with e | e | e | e
  · rw [if_pos (.inl e)]; exact hap
  · rw [if_pos (.inr e)]; exact hap
  · rw [if_neg (by omega), if_pos e]
    unfold St.remove
    repeat' split
    · exact h.mono (by omega)
    · exact h.mono (by omega)
    · exact (h.act [.del x.b] (by simp) (by omega)).mono (by simp)
  · rw [if_neg (by omega), if_neg (by omega), if_pos e]
    unfold St.rename
    repeat' split
    · exact h.mono (by omega)
    · exact h.mono (by omega)
    · exact (h.act [.ren x.b x.c] (by simp) (by omega)).mono (by simp)
theorem Beh.units {b s : St} {N : Nat} (h : Beh b s N) : s.units = s.pend.length := h.ok.up h.down

/-- A crash of late, as of early. -/
theorem crash_early {b s : St} {N : Nat} (hb : b.ok) (hbd : b.down = false) (h : Beh b s N) (k : Nat) (hk : k ≤ b.units) : (s.crashed k).seen = (b.crashed k).seen := by
  obtain ⟨r, hr⟩ := h.pend
  have hu := h.units
  have hbu := hb.up hbd
  show runs (s.pend.take (min k s.units)) s.synced = runs (b.pend.take (min k b.units)) b.synced
  rw [h.synced, hr]
  have e1 : s.units = b.pend.length + r.length := by rw [hu, hr, List.length_append]
  congr 1
  rw [Nat.min_eq_left hk, Nat.min_eq_left (by omega), List.take_append_of_le_length (by omega)]
theorem crash_all {s : St} (h : s.ok) : (s.crashed s.units).seen = s.seen := by
  show runs (s.pend.take (min s.units s.units)) s.synced = s.seen
  rw [Nat.min_self]
  exact h.seen.symm
theorem crash_zero (s : St) : (s.crashed 0).seen = s.synced := by
  show runs (s.pend.take (min 0 s.units)) s.synced = s.synced
  rw [Nat.zero_min]
  rfl
end Go.Proofs.Ytfmigkmkdhciiaa.K
