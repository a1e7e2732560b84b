/-
  The law of crashes: what an act comes to.
-/
import Derived.Test.YtcioomlhdaihkaaGreatDoorNS1
namespace Go.Proofs.YtcioomlhdaihkaaGreatDoor.L
set_option linter.unusedVariables false
set_option linter.unusedSimpArgs false
set_option maxRecDepth 100000
open Go Go.RowKit Go.Maps Go.MapKept Go.ChangeMaps Go.Shelf Wire
open K (Gh Ext Dom noX Jd Steady)

/-- A log behind an act: what a crash would keep begins these strings. -/
structure Aft (N : Nat) (P : List Bs) (z : Z) : Prop where
  ok : z.1.ok
  hist : HistG (Good N z.2.synced P) z.1
  syn : z.2.synced ≤ z.2.texts.length
  up : z.1.down = false → ∃ A dr, Up N A dr z
section
variable {N : Nat} {A : List Sg} {dr : Option Bs} {z : Z} {S P : List Bs}
theorem Up.aft {M : Nat} (h : Up N A dr z) (hm : N ≤ M) (hp : z.2.texts <+: P) : Aft M P z :=
  ⟨h.core.ok, h.hist.mono (fun f hf => hf.mono hm hp), h.syn, fun _ => ⟨A, dr, h.mono hm⟩⟩
theorem Dn.aft (h : Dn N P z) : Aft N P z := ⟨h.ok, h.hist, h.syn, fun hd => by rw [h.down] at hd; cases hd⟩
theorem app_aft (h : Up N A dr z) (hN : N + 1 < 100) (hW : wgt (z.2.texts ++ S) ≤ 900) : Tame 2200 z.1 (mApp (nums A) S z).1.1 ∧ Aft (N + 1) (z.2.texts ++ S) (mApp (nums A) S z).1 ∧ (mApp (nums A) S z).1.2.synced = z.2.synced ∧ (mApp (nums A) S z).1.2.limit = z.2.limit ∧
    (((mApp (nums A) S z).2 = 0 ∧ (mApp (nums A) S z).1.2.texts = z.2.texts ++ S) ∨ ((mApp (nums A) S z).2 = 6 ∧ (mApp (nums A) S z).1.2.texts = z.2.texts) ∨ ((mApp (nums A) S z).2 = 70 ∧ (mApp (nums A) S z).1.2.texts = z.2.texts)) := by
  have hpre : z.2.texts <+: z.2.texts ++ S := List.prefix_append _ _
  by_cases hS : S = []
  · subst hS
    rw [app_nil h.nb]
    exact ⟨(Tame.refl _).mono (by omega), h.aft (Nat.le_succ _) hpre, rfl, rfl, .inl ⟨rfl, by simp⟩⟩
  · obtain ⟨t, hc⟩ := app_up h hN hW hS
    refine ⟨t.mono (by omega), ?_⟩
    rcases hc with ⟨h0, A', k, c', _, h2, h3⟩ | ⟨h0, h1, _⟩ | ⟨h0, h1, h2, h3, h4, h5, _⟩
    · refine ⟨h2.aft (Nat.le_refl _) ?_, by rw [h3], by rw [h3], .inl ⟨h0, by rw [h3]⟩⟩
      rw [h3]
      exact List.prefix_refl _
    · rw [h1]
      exact ⟨h.aft (Nat.le_succ _) hpre, rfl, rfl, .inr (.inl ⟨h0, rfl⟩)⟩
    · exact ⟨h1.aft, h3, h5, .inr (.inr ⟨h0, h2⟩)⟩
theorem sync_aft (h : Up N A dr z) : Tame 2200 z.1 (mSyncL z).1.1 ∧ Aft (N + 1) z.2.texts (mSyncL z).1 ∧ z.2.synced ≤ (mSyncL z).1.2.synced ∧ (mSyncL z).1.2.limit = z.2.limit ∧ (mSyncL z).1.2.texts = z.2.texts := by
  obtain ⟨t, hc⟩ := sync_up h
  refine ⟨t.mono (by omega), ?_⟩
  rcases hc with ⟨h0, h1, h2, h3⟩ | ⟨h0, h1, h2, h3, h4, h5, _⟩
  · refine ⟨h1.aft (Nat.le_succ _) (by rw [h2]; exact List.prefix_refl _), by rw [h2]; exact h.syn, by rw [h2], by rw [h2]⟩
  · have := h1.aft
    exact ⟨⟨this.ok, this.hist.mono (fun f hf => hf.mono (Nat.le_succ _) (List.prefix_refl _)), this.syn, fun hd => by rw [h1.down] at hd; cases hd⟩, by rw [h3]; exact Nat.le_refl _, h5, h2⟩
theorem snap_aft (h : Up N A dr z) (hN : N + 1 < 100) : Tame 2200 z.1 (mSnap (nextNum (nums A)) (nums A ++ [nextNum (nums A)]) z).1.1 ∧ Aft (N + 1) z.2.texts (mSnap (nextNum (nums A)) (nums A ++ [nextNum (nums A)]) z).1 ∧ z.2.synced ≤ (mSnap (nextNum (nums A)) (nums A ++ [nextNum (nums A)]) z).1.2.synced ∧ (mSnap (nextNum (nums A)) (nums A ++ [nextNum (nums A)]) z).1.2.limit = z.2.limit ∧ (mSnap (nextNum (nums A)) (nums A ++ [nextNum (nums A)]) z).1.2.texts = z.2.texts := by
  obtain ⟨t, hc⟩ := snap_up h hN
  refine ⟨t, ?_⟩
  rcases hc with ⟨h0, h1, h2, h3⟩ | ⟨h0, h1, h2, _⟩ | ⟨h0, h1, h2, h3, h4, h5, _⟩
  · exact ⟨h1.aft (Nat.le_refl _) (by rw [h2]; exact List.prefix_refl _), by rw [h2]; exact h.syn, by rw [h2], by rw [h2]⟩
  · exact ⟨h1.aft (Nat.le_succ _) (by rw [h2]; exact List.prefix_refl _), by rw [h2]; exact Nat.le_refl _, by rw [h2], by rw [h2]⟩
  · exact ⟨h1.aft, h3, h5, h2⟩
theorem fuse_up (h : Up N A dr z) (k : Nat) : (z.1.fuse (k : Int)).2 = 0 ∧ Up N A dr ((z.1.fuse (k : Int)).1, z.2) ∧ (z.1.fuse (k : Int)).1.lim ≤ z.1.lim ∧ (z.1.fuse (k : Int)).1.steps.length = z.1.steps.length := by
  have e : z.1.fuse (k : Int) = ({ z.1 with left := k }, 0) := by
    unfold K.St.fuse
    rw [if_neg (by omega)]
    have hd := h.core.up
    simp [hd]
  have hok := K.St.fuse_ok h.core.ok (k : Int)
  have hl := K.St.fuse_lim z.1 (k : Int)
  rw [e] at hok hl ⊢
  exact ⟨rfl, ⟨⟨hok, h.core.up, h.core.seen, h.core.segs, h.core.drl, h.core.fold, h.core.wt⟩, h.nb, h.syn, h.hist, h.last⟩, hl, rfl⟩
end

/-- Rows of strings that lie among a log's boxes. -/
def Kept (v : Value) (l : List Bs) (R : Bxs) : Prop := ∃ rb, RowB v l rb ∧ ∀ y ∈ rb, y ∈ R
theorem Kept.own {v : Value} {l : List Bs} {R : Bxs} {w0 w : World} {p q : Nat} {z : Z} {ds : List (Nat × K.St)} (h : Kept v l R) (hz : LZ w0 w p q ds R z) : OwnS 0 w v l := by
  obtain ⟨rb, h1, h2⟩ := h
  exact hz.row h1 h2
theorem Kept.more {v : Value} {l : List Bs} {R R' : Bxs} (h : Kept v l R) (hs : ∀ y ∈ R, y ∈ R') : Kept v l R' := by
  obtain ⟨rb, h1, h2⟩ := h
  exact ⟨rb, h1, fun y hy => hs y (h2 y hy)⟩
/-- How much a log bears behind so many acts. -/
structure Lms (k : Nat) (s : K.St) : Prop where
  lim : s.lim ≤ 4400 * k
  steps : s.steps.length ≤ 2200 * k
theorem Lms.rm {k : Nat} {s : K.St} (h : Lms k s) (ho : s.ok) (hk : k ≤ 40) : Room s := ⟨ho, by have := h.lim; omega, by have := h.steps; omega⟩
theorem Lms.tame {k : Nat} {s s' : K.St} (h : Lms k s) (t : Tame 2200 s s') : Lms (k + 1) s' := ⟨by have := h.lim; have := t.lim; omega, by have := h.steps; have := t.steps; omega⟩
/-- Ahead of an act: the log, and all that was appended. -/
def Ahead (w0 w : World) (p q lim k : Nat) (W : Nat) (av : Value) : Prop := ∃ R z A dr, LZ w0 w p q [] R z ∧ Up k A dr z ∧ Lms k z.1 ∧ Kept av z.2.texts R ∧ z.2.limit = lim ∧ wgt z.2.texts ≤ W
/-- Behind an act: the log, all that was appended, and all that was tried. -/
def Mid (w0 w : World) (p q lim k : Nat) (W : Nat) (sy : Nat) (av tv : Value) : Prop := ∃ R z P, LZ w0 w p q [] R z ∧ Aft k P z ∧ Lms k z.1 ∧ Kept av z.2.texts R ∧ Kept tv P R ∧ z.2.limit = lim ∧ z.2.texts <+: P ∧ wgt P ≤ W ∧ sy ≤ z.2.synced
section
variable {w0 w V w' : World} {p q lim k W sy : Nat} {av : Value} {S : List Bs}
/-- A copy of a log's strings is there. -/
theorem keep_copy {R : Bxs} {z : Z} {v : Value} {l : List Bs} (hz : LZ w0 V p q [] R z) (ho : OwnS V.heap.size w' v l) (hb : Below V.heap.size V w') : ∃ R', LZ w0 w' p q [] R' z ∧ Kept v l R' ∧ ∀ y ∈ R, y ∈ R' := by
  obtain ⟨rb, h1, h2⟩ := hz.keep ho hb
  exact ⟨rb ++ R, h2, ⟨rb, h1, fun y hy => List.mem_append_left _ hy⟩, fun y hy => List.mem_append_right _ hy⟩
end
end Go.Proofs.YtcioomlhdaihkaaGreatDoor.L
