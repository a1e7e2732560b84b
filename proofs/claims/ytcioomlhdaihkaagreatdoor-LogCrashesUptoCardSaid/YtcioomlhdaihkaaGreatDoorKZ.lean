/-
  Disks: files copied; what is seen becomes what is synced.
-/
import Derived.Test.YtcioomlhdaihkaaGreatDoorKO
import Derived.Test.YtcioomlhdaihkaaGreatDoorKX
namespace Go.Proofs.YtcioomlhdaihkaaGreatDoor.K
set_option linter.unusedVariables false
set_option linter.unusedSimpArgs false
set_option maxRecDepth 100000
open Go Go.RowKit Go.Maps Go.MapKept Go.ChangeMaps

set_option maxRecDepth 100000
set_option linter.unusedVariables false
set_option linter.unusedSimpArgs false
def clipF (f : Str → Option Value) : Str → Option Value := fun s => (f s).map clipV
theorem clip_slice {v : Value} {g n cap : Nat} (h : clipV v = .slice (some ⟨g, 0, none⟩) n cap) : cap = n := by
  cases v with
  | slice ad m c => unfold clipV at h; cases h; rfl
  | _ => cases h
theorem clipF_clip (f : Str → Option Value) : Clip (clipF f) := by
  intro s v h g n cap e hn
  unfold clipF at h
  cases hf : f s with
  | none => rw [hf] at h; cases h
  | some x =>
    rw [hf] at h
    have : clipV x = v := Option.some.inj h
    rw [e] at this
    have := clip_slice this
    omega
theorem BytesV.clip {A : Gh} {w : World} {v : Value} {c : Str} (h : BytesV A w v c) : BytesV A w (clipV v) c := by
  rcases h with ⟨rfl, rfl⟩ | ⟨g, cap, rfl, h0, h1, h2, h3, h4, h5⟩
  · exact .inl ⟨rfl, rfl⟩
  · exact .inr ⟨g, c.length, rfl, h0, Nat.le_refl _, by omega, h3, h4, h5⟩
theorem files_form {t : Nat} {A : Gh} {w : World} {m : Nat} {fs : Fs} {f : Str → Option Value} (h : Files t A w m fs f) : ∀ s v, s.length ≤ maxLen → f s = some v → Form v := by
  intro s v hs hv
  have := h.same.2 s hs
  rw [hv] at this
  obtain ⟨c, hc⟩ := Option.isSome_iff_exists.1 this.symm
  obtain ⟨v', h1, h2⟩ := h.holds s c hc
  rw [hv] at h1
  cases h1
  exact h2.form.1
theorem files_copied {t t' : Nat} {A : Gh} {w w' : World} {m : Nat} {fs : Fs} {f : Str → Option Value} (hF : Files t A w m fs f) (hB : Below w.heap.size w w') (hma : MapAt w' w.heap.size fs.length (clipF f)) (c : Cls) (hc : ∀ t g, c = .own t g → t < 2 * w'.heap.size) :
    Ext none_ noX A w (setG A w.heap.size c) w' ∧ Files t' (setG A w.heap.size c) w' w.heap.size fs (clipF f) := by
  have hE : Ext (fun _ => False) noX A w (setG A w.heap.size c) w' := Ext.newG hB (Nat.le_refl _) hma.lt c hc
  refine ⟨hE, hF.sorted, hma, ⟨hF.same.1, fun s hs => ?_⟩, fun s b hb => ?_, fun s v hs hv g n cap e hn => absurd hn (clipF_clip f s v hv g n cap e), fun s s' g n cap n' cap' _ _ h1 _ h3 _ => absurd h3 (clipF_clip f s _ h1 g n cap rfl)⟩
  · rw [← hF.same.2 s hs]
    unfold clipF
    cases f s <;> rfl
  · obtain ⟨v, h1, h2⟩ := hF.holds s b hb
    exact ⟨clipV v, by unfold clipF; rw [h1]; rfl, (h2.ext hE (fun _ h => h.elim)).clip⟩

/-- What is seen is synced: a new map. -/
theorem Parts.settled {A : Gh} {w w' : World} {p : Nat} {fs fv : Fs} {ss : List (List U)} {k : Dk} (hd : Parts A w p fs fv ss k) (hp : p < w.heap.size) (hB : Below w.heap.size w w') (hma : MapAt w' w.heap.size fv.length (clipF k.fV)) :
    Ext none_ noX A w (setG A w.heap.size .fixed) w' ∧ Parts (setG A w.heap.size .fixed) w' p fv fv [] ⟨w.heap.size, k.mv, .slice none 0 0, [], clipF k.fV, k.fV⟩ := by
  obtain ⟨hE, hF⟩ := files_copied (t' := 2 * p) hd.seen hB hma .fixed (fun t g e => by cases e)
  have hd2 := hd.ext hE hp (fun h => h) (fun h => h)
  exact ⟨hE, hd2.own, setG_same .., hd2.mv, clipF_clip _, hF, hd2.seen, .inl ⟨rfl, rfl⟩, rfl, fun i x us hx => by simp at hx⟩

set_option maxHeartbeats 1000000 in
theorem disk_settle {A : Gh} {w : World} {p : Nat} {fs fv : Fs} {ss : List (List U)} {k : Dk} {room units left : Nat} {down : Bool} (hc : w.heap[p]? = some (.cells (dcells room (.map (some k.ms)) (.map (some k.mv)) k.vs units left down) 53 (0, 0))) (hP : Parts A w p fs fv ss k) (hwt : wt fv ≤ 1099511627776) :
    Calls Tryz.prog 45 #[.pointer (some ⟨p, 0, none⟩)] w fun e w' => (∃ v, e = .returned v) ∧ ∃ A' k', Ext (Tp p) noX A w A' w' ∧ w'.heap[p]? = some (.cells (dcells room (.map (some k'.ms)) (.map (some k'.mv)) k'.vs 0 left down) 53 (0, 0)) ∧ Parts A' w' p fv fv [] k' := by
  have hp := (Array.getElem?_eq_some_iff.1 hc).1
  have h2 : w.cell? ⟨p, 2, none⟩ = some (.map (some k.mv)) := cell_row hc 2
  have hcp := disk_copied hP.seen.map (by have := len_le_wt fv; unfold maxLen; omega) (files_form hP.seen)
  have hfin : ∀ w1 : World, MapAt w1 w.heap.size fv.length (clipF k.fV) → Below w.heap.size w w1 → w1.heap[p]? = some (.cells (dcells room (.map (some k.ms)) (.map (some k.mv)) k.vs units left down) 53 (0, 0)) ∧
      ∃ A' k', Ext (Tp p) noX A w A' (((w1.setCell ⟨p, 1, none⟩ (.map (some w.heap.size))).setCell ⟨p, 3, none⟩ (.slice none 0 0)).setCell ⟨p, 4, none⟩ (.int .i64 0)) ∧
        (((w1.setCell ⟨p, 1, none⟩ (.map (some w.heap.size))).setCell ⟨p, 3, none⟩ (.slice none 0 0)).setCell ⟨p, 4, none⟩ (.int .i64 0)).heap[p]? = some (.cells (dcells room (.map (some k'.ms)) (.map (some k'.mv)) k'.vs 0 left down) 53 (0, 0)) ∧
        Parts A' (((w1.setCell ⟨p, 1, none⟩ (.map (some w.heap.size))).setCell ⟨p, 3, none⟩ (.slice none 0 0)).setCell ⟨p, 4, none⟩ (.int .i64 0)) p fv fv [] k' := by
    intro w1 hma hB
    have hc1 := (hB.block p hp).trans hc
    obtain ⟨hE, hP1⟩ := hP.settled hp hB hma
    obtain ⟨w4, hw4⟩ : ∃ w4, ((w1.setCell ⟨p, 1, none⟩ (.map (some w.heap.size))).setCell ⟨p, 3, none⟩ (.slice none 0 0)).setCell ⟨p, 4, none⟩ (.int .i64 0) = w4 := ⟨_, rfl⟩
    have hc4 : w4.heap[p]? = some (.cells (dcells room (.map (some w.heap.size)) (.map (some k.mv)) (.slice none 0 0) 0 left down) 53 (0, 0)) := by
      rw [← hw4, set_row (set_row (set_row hc1 _) _) _]
      rfl
    obtain ⟨hE4, hP4⟩ := hP1.set (w' := w4) hc1 (by rw [← hw4]; rfl) (by rw [← hw4]; rfl) (by rw [← hw4]; rfl) (by rw [← hw4, set_size, set_size, set_size]) (fun b hb => by rw [← hw4, Below.heap_setCell _ _ _ _ (by simpa using hb), Below.heap_setCell _ _ _ _ (by simpa using hb), Below.heap_setCell _ _ _ _ (by simpa using hb)])
    rw [hw4]
    exact ⟨hc1, _, _, (hE.mono0 (fun t h => h.elim)).trans (hE4.mono0 (fun t h => .inr h)), hc4, hP4⟩
  have HF := Lib.hid hfin
  clear hfin hP hwt hc
  go_enter Tryz.func45, Tryz.ntmps45
  go_wp2_with (go_at_call 42; refine hcp.mono ?_; rintro e w1 ⟨rfl, hma, hB⟩; obtain ⟨hc1, hdone⟩ := HF.out w1 hma hB; clear hma hB; have g1 : w1.cell? ⟨p, 1, none⟩ = some (.map (some k.ms)) := cell_row hc1 1; have g3 : w1.cell? ⟨p, 3, none⟩ = some k.vs := cell_row hc1 3; have g4 : w1.cell? ⟨p, 4, none⟩ = some (.int .i64 (units : Int)) := cell_row hc1 4; have hf1 : w1.frozen? ⟨p, 1, none⟩ = false := (by simp [World.frozen?, hc1]); have hf3 : w1.frozen? ⟨p, 3, none⟩ = false := (by simp [World.frozen?, hc1]); have hf4 : w1.frozen? ⟨p, 4, none⟩ = false := (by simp [World.frozen?, hc1]); clear hc1)
  go_end0
  exact ⟨⟨_, rfl⟩, hdone⟩

set_option maxHeartbeats 1000000 in
theorem disk_Sync {A : Gh} {w : World} {p : Nat} {s : St} (hd : DiskAt A w p s) (hlim : s.lim ≤ 549755813888) :
    Calls Tryz.prog 57 #[.pointer (some ⟨p, 0, none⟩)] w fun e w' => e = .returned (.int .i64 (s.sync.2 : Int)) ∧ Done A w p s.sync.1 w' := by
  obtain ⟨k, hd⟩ := hd
  have hR := disk_refuses hd (v := .slice none 0 0) (ns := []) (.inl ⟨rfl, rfl⟩) (Nat.zero_le _) (fun n hn => by cases hn)
  have hr : s.refuse [] = if s.down then 70 else 0 := rfl
  cases hdn : s.down with
  | true =>
    have e1 : s.sync = (s, 70) := by unfold St.sync; rw [hr, hdn]; rfl
    rw [e1]
    rw [hr, hdn] at hR
    have hfin : Done A w p s w := ⟨A, Ext.refl _ _ _ _, k, hd⟩
    clear hd e1 hr
    go_enter Tryz.func57, Tryz.ntmps57
    go_wp2_with (go_at_call 52; refine hR.mono ?_; rintro e w' ⟨rfl, rfl⟩)
    go_ret
    exact ⟨rfl, hfin⟩
  | false =>
    rw [hr, hdn] at hR
    obtain ⟨hE1, hd1⟩ := burn_ext hd 1 hdn
    have hB := disk_burn hd 1 (by omega)
    obtain ⟨w1, hw1⟩ : ∃ w1, (w.setCell ⟨p, 5, none⟩ (.int .i64 ((s.left - min 1 s.left : Nat) : Int))).setCell ⟨p, 6, none⟩ (.bool (decide (min 1 s.left < 1))) = w1 := ⟨_, rfl⟩
    rw [hw1] at hE1 hd1 hB
    by_cases h0 : min 1 s.left = 0
    · have e1 : s.sync = (s.burn 1, 70) := by unfold St.sync; rw [hr, hdn, if_neg (by decide), if_pos h0]
      rw [e1]
      have hfin : Done A w p (s.burn 1) w1 := ⟨A, hE1.mono0 (fun t h => .inr h), k, hd1⟩
      rw [h0] at hB
      clear hd e1 hr hE1 hd1 hw1
      go_enter Tryz.func57, Tryz.ntmps57
      go_wp2_with (first
        | (go_at_call 52; refine hR.mono ?_; rintro e w' ⟨rfl, rfl⟩)
        | (go_at_call 80; refine hB.mono ?_; rintro e w' ⟨rfl, rfl⟩))
      go_ret
      exact ⟨rfl, hfin⟩
    · have e1 : s.sync = ((s.burn 1).settle, 0) := by unfold St.sync; rw [hr, hdn, if_neg (by decide), if_neg h0]
      rw [e1]
      have h1 : min 1 s.left = 1 := by omega
      have hst := disk_settle hd1.cells hd1.parts (by have := hd.ok.wtSeen; show wt s.seen ≤ _; omega)
      have hok := St.settle_ok (St.burn_ok hd.ok 1 hdn)
      have hfin : ∀ (w2 : World) (A' : Gh) (k' : Dk), Ext (Tp p) noX A w1 A' w2 → w2.heap[p]? = some (.cells (dcells (s.burn 1).room (.map (some k'.ms)) (.map (some k'.mv)) k'.vs 0 (s.burn 1).left (s.burn 1).down) 53 (0, 0)) → Parts A' w2 p (s.burn 1).seen (s.burn 1).seen [] k' → Done A w p (s.burn 1).settle w2 :=
        fun w2 A' k' hE2 hc2 hP2 => ⟨A', (hE1.mono0 (fun t h => .inr h)).trans hE2, k', hc2, hP2, hok, Nat.le_trans (Nat.sub_le _ _) hd.left, hd.room, Nat.zero_le _⟩
      have HF := Lib.hid hfin
      rw [h1] at hB
      clear hd e1 hr hE1 hd1 hw1 hok hfin
      go_enter Tryz.func57, Tryz.ntmps57
      go_wp2_with (first
        | (go_at_call 52; refine hR.mono ?_; rintro e w' ⟨rfl, rfl⟩)
        | (go_at_call 80; refine hB.mono ?_; rintro e w' ⟨rfl, rfl⟩)
        | (go_at_call 45; refine hst.mono ?_; rintro e w2 ⟨⟨v, rfl⟩, A', k', hE2, hc2, hP2⟩; have hdone := HF.out w2 A' k' hE2 hc2 hP2; clear hE2 hc2 hP2))
      go_ret
      exact ⟨rfl, hdone⟩
end Go.Proofs.YtcioomlhdaihkaaGreatDoor.K
