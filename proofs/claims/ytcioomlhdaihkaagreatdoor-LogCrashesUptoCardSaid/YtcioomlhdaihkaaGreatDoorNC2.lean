/-
  The law of crashes: acts, and crashes.
-/
import Derived.Test.YtcioomlhdaihkaaGreatDoorNC1
namespace Go.Proofs.YtcioomlhdaihkaaGreatDoor.L
set_option linter.unusedVariables false
set_option linter.unusedSimpArgs false
set_option maxRecDepth 100000
open Go Go.RowKit Go.Maps Go.MapKept Go.ChangeMaps Go.Shelf Wire
open K (Gh Ext Dom noX Jd Steady)
section
variable {w0 V : World} {p q lim k W sy : Nat} {av tv : Value} {S P : List Bs} {R : Bxs} {z : Z} {A : List Sg} {dr : Option Bs}
theorem mid_app (hz : LZ w0 V p q [] R z) (hu : Up k A dr z) (hl : Lms k z.1) (ha : Kept av z.2.texts R) (ht : Kept tv (z.2.texts ++ S) R) (hlim : z.2.limit = lim) (hW : wgt (z.2.texts ++ S) ≤ W) (hW9 : W ≤ 900) (hsy : sy ≤ z.2.synced) (htab : Tab w0) (hk : k ≤ 40) (hli : lim ≤ 1048576) {u : Value} (hv : Q.SV w0 u S) :
    Calls Tryz.prog 13 #[.pointer (some ⟨q, 0, none⟩), u] V fun e w' => (e = .returned (.int .i64 0) ∧ Mid w0 w' p q lim (k + 1) W sy tv tv) ∨ (e = .returned (.int .i64 6) ∧ Mid w0 w' p q lim (k + 1) W sy av tv) ∨ (e = .returned (.int .i64 70) ∧ Mid w0 w' p q lim (k + 1) W sy av tv) := by
  obtain ⟨t, a, h3, h4, hc⟩ := app_aft (S := S) hu (by omega) (by omega)
  refine (call_Append hz hu htab (hl.rm hu.core.ok hk) (by omega) (by omega) (by omega) (fun V zz hV => hv.keep hV.1.low)).mono ?_
  rintro e w' ⟨rfl, hz'⟩
  generalize mApp (nums A) S z = r at *
  obtain ⟨z', n⟩ := r
  simp only at *
  rcases hc with ⟨rfl, htx⟩ | ⟨rfl, htx⟩ | ⟨rfl, htx⟩
  · exact .inl ⟨rfl, R, z', _, hz', a, hl.tame t, by rw [htx]; exact ht, ht, h4.trans hlim, by rw [htx]; exact List.prefix_refl _, hW, by rw [h3]; exact hsy⟩
  · exact .inr (.inl ⟨rfl, R, z', _, hz', a, hl.tame t, by rw [htx]; exact ha, ht, h4.trans hlim, by rw [htx]; exact List.prefix_append _ _, hW, by rw [h3]; exact hsy⟩)
  · exact .inr (.inr ⟨rfl, R, z', _, hz', a, hl.tame t, by rw [htx]; exact ha, ht, h4.trans hlim, by rw [htx]; exact List.prefix_append _ _, hW, by rw [h3]; exact hsy⟩)
theorem mid_sync (hz : LZ w0 V p q [] R z) (hu : Up k A dr z) (hl : Lms k z.1) (ha : Kept av z.2.texts R) (ht : Kept tv z.2.texts R) (hlim : z.2.limit = lim) (hW : wgt z.2.texts ≤ W) (hsy : sy ≤ z.2.synced) (hk : k ≤ 40) :
    Calls Tryz.prog 14 #[.pointer (some ⟨q, 0, none⟩)] V fun e w' => ∃ n : Nat, e = .returned (.int .i64 (n : Nat)) ∧ Mid w0 w' p q lim (k + 1) W sy av tv := by
  obtain ⟨t, a, h3, h4, h5⟩ := sync_aft hu
  refine (call_Sync hz (hl.rm hu.core.ok hk)).mono ?_
  rintro e w' ⟨rfl, hz'⟩
  generalize mSyncL z = r at *
  obtain ⟨z', n⟩ := r
  simp only at *
  exact ⟨n, rfl, R, z', _, hz', a, hl.tame t, by rw [h5]; exact ha, ht, h4.trans hlim, by rw [h5]; exact List.prefix_refl _, hW, by omega⟩
theorem mid_snap (hz : LZ w0 V p q [] R z) (hu : Up k A dr z) (hl : Lms k z.1) (ha : Kept av z.2.texts R) (ht : Kept tv z.2.texts R) (hlim : z.2.limit = lim) (hW : wgt z.2.texts ≤ W) (hsy : sy ≤ z.2.synced) (htab : Tab w0) (hk : k ≤ 40) :
    Calls Tryz.prog 15 #[.pointer (some ⟨q, 0, none⟩)] V fun e w' => ∃ n : Nat, e = .returned (.int .i64 (n : Nat)) ∧ Mid w0 w' p q lim (k + 1) W sy av tv := by
  obtain ⟨t, a, h3, h4, h5⟩ := snap_aft hu (by omega)
  refine (call_Snapshot hz hu htab (hl.rm hu.core.ok hk) (by omega)).mono ?_
  rintro e w' ⟨rfl, hz'⟩
  generalize mSnap (nextNum (nums A)) (nums A ++ [nextNum (nums A)]) z = r at *
  obtain ⟨z', n⟩ := r
  simp only at *
  exact ⟨n, rfl, R, z', _, hz', a, hl.tame t, by rw [h5]; exact ha, ht, h4.trans hlim, by rw [h5]; exact List.prefix_refl _, hW, by omega⟩
theorem call_Fuse (hz : LZ w0 V p q [] R z) (hu : Up k A dr z) (hl : Lms k z.1) (n : Int) (h0 : 0 ≤ n) (h1 : n ≤ 1000000) :
    Calls Tryz.prog 12 #[.pointer (some ⟨p, 0, none⟩), .int .i64 n] V fun e w' => e = .returned (.int .i64 0) ∧ ∃ z', LZ w0 w' p q [] R z' ∧ Up k A dr z' ∧ Lms k z'.1 ∧ z'.2 = z.2 := by
  obtain ⟨m, rfl⟩ : ∃ m : Nat, n = m := ⟨n.toNat, by omega⟩
  obtain ⟨f1, f2, f3, f4⟩ := fuse_up hu m
  have hc := lz_call (e0 := 0) (s' := (z.1.fuse (m : Int)).1) hz (fun bs hS => by
    have := K.sys_Fuse hS (m : Int) (by omega) (by omega)
    rw [f1] at this
    exact this)
  refine hc.mono ?_
  rintro e w' ⟨rfl, hz'⟩
  exact ⟨rfl, _, hz', f2, ⟨Nat.le_trans f3 hl.lim, by rw [f4]; exact hl.steps⟩, rfl⟩
theorem call_Down (hz : LZ w0 V p q [] R z) : Calls Tryz.prog 18 #[.pointer (some ⟨p, 0, none⟩)] V fun e w' => e = .returned (.bool z.1.down) ∧ V = w' := by
  obtain ⟨bs, hS⟩ := hz.1.sys
  exact K.sys_Down hS
/-- A log that was opened behind a crash. -/
def Newly (w0 w : World) (p q lim k W sy : Nat) (tv : Value) (P : List Bs) : Prop := ∃ R z A dr, LZ w0 w p q [] R z ∧ Up k A dr z ∧ Lms k z.1 ∧ z.2.synced = z.2.texts.length ∧ z.2.limit = lim ∧ z.2.texts <+: P ∧ sy ≤ z.2.texts.length ∧ Kept tv P R ∧ wgt z.2.texts ≤ W
theorem mid_crash (hz : LZ w0 V p q [] R z) (ha : Aft k P z) (hl : Lms k z.1) (ht : Kept tv P R) (hlim : z.2.limit = lim) (hW : wgt P ≤ W) (hW9 : W ≤ 900) (htab : Tab w0) (hk : k ≤ 40) (hl1 : 1 ≤ lim) (hl2 : lim ≤ 1048576) (n : Int) (h0 : 0 ≤ n) (h1 : n ≤ 1000000) :
    Calls Tryz.prog 19 #[.pointer (some ⟨p, 0, none⟩), .int .i64 n] V fun e w1 => e = .returned (.int .i64 0) ∧ Below w0.heap.size w0 w1 ∧
      Calls Tryz.prog 10 #[.pointer (some ⟨p, 0, none⟩), .int .i64 (lim : Nat)] w1 fun e w2 => ∃ q2, e = .returned (.tuple #[.pointer (some ⟨q2, 0, none⟩), .int .i64 0]) ∧ Newly w0 w2 p q2 lim k W z.2.synced tv P := by
  obtain ⟨m, rfl⟩ : ∃ m : Nat, n = m := ⟨n.toNat, by omega⟩
  have ec : z.1.crash (m : Int) = (z.1.crashed m, 0) := by unfold K.St.crash; rw [if_neg (by omega)]; simp
  obtain ⟨A, dr, T, c1, c2, c3, c4, c5, c6, c7, c8⟩ := crash_open ha.ok ha.hist (by omega) m p lim
  have hlms : Lms k (z.1.crashed m) := ⟨Nat.le_trans (K.St.crashed_lim ha.ok m) hl.lim, Nat.zero_le _⟩
  have hc := lz_call (e0 := 0) (s' := z.1.crashed m) hz (fun bs hS => by
    have := K.sys_Crash hS (m : Int) (by omega) (by omega) (by have := hl.lim; omega) (by have := hl.steps; omega)
    rw [ec] at this
    exact this)
  refine hc.mono ?_
  rintro e w1 ⟨rfl, hz1⟩
  refine ⟨rfl, hz1.1.low, ?_⟩
  obtain ⟨lv, lb, _, _, hS, hN⟩ := hz1.boxes
  have hTw : wgt T ≤ W := by obtain ⟨r, rfl⟩ := c6; rw [wgt_app] at hW; omega
  refine (call_Open hS hN htab c7.core (hlms.rm c7.core.ok hk) (by omega) lim hl1 hl2).mono ?_
  rintro e w2 ⟨q2, rfl, hz2⟩
  refine ⟨q2, rfl, _, _, A, dr, hz2, c7, hlms, c8, rfl, c6, c5, ht.more (fun y hy => List.mem_cons_of_mem _ (List.mem_append_right _ hy)), hTw⟩
theorem sv_pre {W0 : World} {ta : Option Addr} {tc n : Nat} {T : List Bs} (h : OwnS 0 W0 (.slice ta n tc) P) (hp : T <+: P) : Q.SV W0 (.slice ta T.length tc) T := by
  obtain ⟨ad, len, cap, e, hI⟩ := Q.OutV.sv h
  cases e
  obtain ⟨r, rfl⟩ := hp
  have h1 := hI.hlen
  have h2 := hI.hle
  rw [List.length_append] at h1
  exact ⟨_, _, _, rfl, rfl, by omega, hI.hmax, fun h0 => (by obtain ⟨g1, g2⟩ := hI.hnil h0; exact ⟨by omega, g2⟩), fun i y hy => hI.hcell i y (by rw [List.getElem?_append_left (List.getElem?_eq_some_iff.1 hy).1]; exact hy)⟩
end
end Go.Proofs.YtcioomlhdaihkaaGreatDoor.L
