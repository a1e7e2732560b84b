/-
  Logs: a snapshot.
-/
import Derived.Test.YtcioomlhdaihkaaGreatDoorWF
namespace Go.Proofs.YtcioomlhdaihkaaGreatDoor.L
set_option linter.unusedVariables false
set_option linter.unusedSimpArgs false
set_option maxRecDepth 100000
open Go Go.RowKit Go.Maps Go.MapKept Go.ChangeMaps Go.Shelf Wire
open K (Gh Ext Dom noX Jd Steady)

theorem rmList_lim : ∀ (l : List Bs) (s : K.St), (rmList l s).1.lim ≤ s.lim + 2 * l.length
  | [], s => by simp [rmList]
  | n :: r, s => by
    rw [rmList_cons]
    have h1 := K.St.remove_lim s n
    split
    · simp only [List.length_cons]; omega
    · have := rmList_lim r (s.remove n).1
      simp only [List.length_cons]; omega
theorem rmList_steps : ∀ (l : List Bs) (s : K.St), (rmList l s).1.steps.length ≤ s.steps.length + l.length
  | [], s => by simp [rmList]
  | n :: r, s => by
    rw [rmList_cons]
    have h1 := remove_steps s n
    split
    · simp only [List.length_cons]; omega
    · have := rmList_steps r (s.remove n).1
      simp only [List.length_cons]; omega
theorem rmList_ok : ∀ (l : List Bs) {s : K.St}, s.ok → (rmList l s).1.ok
  | [], s, h => h
  | n :: r, s, h => by
    rw [rmList_cons]
    have h1 := K.St.remove_ok h n
    split
    · exact h1
    · exact rmList_ok r h1
theorem othersOf_len (ks : List Nat) (n : Nat) : (othersOf ks n).length ≤ ks.length := by
  unfold othersOf
  rw [List.length_map]
  exact List.length_filter_le _ _

/-- A log's row of strings, and what a snapshot writes. -/
structure Fits (x : Lg) : Prop where
  len : x.texts.length ≤ 400000
  small : ∀ t ∈ x.texts, t.length ≤ 65536
  row : (rowOf true x.texts.length x.texts).length ≤ 900000
/-- What a disk bears. -/
structure Room (s : K.St) : Prop where
  ok : s.ok
  lim : s.lim ≤ 1000000000
  steps : s.steps.length ≤ 1000000000
def snapZ5 (n : Nat) (z : Z) : Z := (mSync (mRename (nm n) (mSync (mWrDraft (mRmDraft z).1).1).1).1).1
/-- The five first steps went well. -/
def snapOk5 (n : Nat) (z : Z) : Prop :=
  (mRmDraft z).2 = 0 ∧ (mWrDraft (mRmDraft z).1).2 = 0 ∧ (mSync (mWrDraft (mRmDraft z).1).1).2 = 0 ∧ (mRename (nm n) (mSync (mWrDraft (mRmDraft z).1).1).1).2 = 0 ∧ (mSync (mRename (nm n) (mSync (mWrDraft (mRmDraft z).1).1).1).1).2 = 0
def snapSteps (n : Nat) (ks5 : List Nat) : List (Z → Z × Nat) := [mRmDraft, mWrDraft, mSync, mRename (nm n), mSync, mRmOthers (othersOf ks5 n), mSync]
def mSnap (n : Nat) (ks5 : List Nat) (z : Z) : Z × Nat :=
  if z.2.broken then (z, 9)
  else if (runL (snapSteps n ks5) z).2 = 0 then (((runL (snapSteps n ks5) z).1.1, { (runL (snapSteps n ks5) z).1.2 with last := [] }), 0)
  else (brk (runL (snapSteps n ks5) z), (runL (snapSteps n ks5) z).2)
def rmV (q : Nat) : Value := .func (.func 35) #[.pointer (some ⟨q, 0, none⟩)] #[]
def wrV (q : Nat) : Value := .func (.func 36) #[.pointer (some ⟨q, 0, none⟩)] #[]
def s1V (b0 b1 : Nat) : Value := .func (.func 37) #[] #[.pointer (some ⟨b0, 0, none⟩), .pointer (some ⟨b1, 0, none⟩)]
def s2V (b0 b1 : Nat) : Value := .func (.func 39) #[] #[.pointer (some ⟨b0, 0, none⟩), .pointer (some ⟨b1, 0, none⟩)]
def snapV (q b0 b1 : Nat) : List Value := [rmV q, wrV q, syncV q, s1V b0 b1, syncV q, s2V b0 b1, syncV q]

section
variable {w0 w : World} {p q : Nat} {z : Z} {ds : List (Nat × K.St)} {Rb : Bxs}
theorem snap_chain (htab : Tab w0) (hf : Fits z.2) (hr : Room z.1) {b0 b1 n : Nat} (hn : n < 100) (hb0 : (b0, ptrO q) ∈ Rb) (hb1 : (b1, strO (nm n)) ∈ Rb) {ks5 : List Nat} {dr5 : Bool} (h5 : snapOk5 n z → NamesOk (snapZ5 n z).1.seen ks5 dr5 ∧ ks5.length ≤ 100) :
    Chn (fun V z => LZ w0 V p q ds Rb z) (snapV q b0 b1) z (runL (snapSteps n ks5) z) := by
  have hl := hr.lim
  have hs := hr.steps
  have hrow := hf.row
  have l1 : (mRmDraft z).1.1.lim ≤ z.1.lim + 2 := K.St.remove_lim z.1 draft
  have s1 : (mRmDraft z).1.1.steps.length ≤ z.1.steps.length + 1 := remove_steps z.1 draft
  have o1 : (mRmDraft z).1.1.ok := K.St.remove_ok hr.ok draft
  have x1 : (mRmDraft z).1.2 = z.2 := rfl
  unfold snapOk5 snapZ5 at h5
  unfold snapV snapSteps
  refine chn_cons (fun w h => ⟨_, _, _, rfl, enters_of Tryz.func35 (by kernel_rfl) rfl, log_removeDraft h (by omega) (by omega)⟩) (fun e1 => ?_)
  generalize (mRmDraft z).1 = z1 at *
  have l2 : (mWrDraft z1).1.1.lim ≤ z1.1.lim + 2 * (1 + (rowOf true z1.2.texts.length z1.2.texts).length) := K.St.append_lim z1.1 draft _
  have s2 : (mWrDraft z1).1.1.steps.length ≤ z1.1.steps.length + 1 := append_steps z1.1 draft _
  have o2 : (mWrDraft z1).1.1.ok := K.St.append_ok o1 draft _
  rw [x1] at l2
  refine chn_cons (fun w h => ⟨_, _, _, rfl, enters_of Tryz.func36 (by kernel_rfl) rfl, log_writeDraft h htab (by rw [x1]; exact hf.len) (by rw [x1]; exact hf.small) (by rw [x1]; exact hrow) (by rw [x1]; omega) (by omega)⟩) (fun e2 => ?_)
  generalize (mWrDraft z1).1 = z2 at *
  have l3 : (mSync z2).1.1.lim ≤ z2.1.lim := K.St.sync_lim o2
  have s3 : (mSync z2).1.1.steps.length ≤ z2.1.steps.length := sync_steps z2.1
  have o3 : (mSync z2).1.1.ok := K.St.sync_ok o2
  refine chn_cons (callsV_sync (by omega)) (fun e3 => ?_)
  generalize (mSync z2).1 = z3 at *
  have l4 : (mRename (nm n) z3).1.1.lim ≤ z3.1.lim + 2 := K.St.rename_lim z3.1 draft (nm n)
  have s4 : (mRename (nm n) z3).1.1.steps.length ≤ z3.1.steps.length + 1 := rename_steps z3.1 draft (nm n)
  have o4 : (mRename (nm n) z3).1.1.ok := K.St.rename_ok o3 draft (nm n)
  have hnl : (nm n).length ≤ 1000 := by have := (nm_fin ⟨n, hn⟩).1; simp only at this; omega
  refine chn_cons (fun w h => ⟨_, _, _, rfl, enters_of Tryz.func37 (by kernel_rfl) rfl, log_Snapshot1 h hb0 hb1 hnl (by omega) (by omega)⟩) (fun e4 => ?_)
  generalize (mRename (nm n) z3).1 = z4 at *
  have l5 : (mSync z4).1.1.lim ≤ z4.1.lim := K.St.sync_lim o4
  have s5 : (mSync z4).1.1.steps.length ≤ z4.1.steps.length := sync_steps z4.1
  have o5 : (mSync z4).1.1.ok := K.St.sync_ok o4
  refine chn_cons (callsV_sync (by omega)) (fun e5 => ?_)
  obtain ⟨hk5, hk5l⟩ := h5 ⟨e1, e2, e3, e4, e5⟩
  generalize (mSync z4).1 = z5 at *
  have l6 : (mRmOthers (othersOf ks5 n) z5).1.1.lim ≤ z5.1.lim + 2 * (othersOf ks5 n).length := rmList_lim _ _
  have h6 := othersOf_len ks5 n
  refine chn_cons (fun w h => ⟨_, _, _, rfl, enters_of Tryz.func39 (by kernel_rfl) rfl, log_Snapshot2 h hb0 hb1 (by omega) (by omega) hk5 hk5l hn⟩) (fun e6 => ?_)
  generalize (mRmOthers (othersOf ks5 n) z5).1 = z6 at *
  exact chn_cons (callsV_sync (by omega)) (fun _ => .nil _)

set_option maxHeartbeats 2000000 in
theorem log_Snapshot (h : LZ w0 w p q ds Rb z) (htab : Tab w0) (hf : Fits z.2) (hr : Room z.1) {ks : List Nat} {dr : Bool} (hk : NamesOk z.1.seen ks dr) {n : Nat} (hn : n = nextNum ks) (hlt : n < 100) {ks5 : List Nat} {dr5 : Bool} (h5 : snapOk5 n z → NamesOk (snapZ5 n z).1.seen ks5 dr5 ∧ ks5.length ≤ 100) :
    Calls Tryz.prog 15 #[.pointer (some ⟨q, 0, none⟩)] w fun e w' => e = .returned (.int .i64 ((mSnap n ks5 z).2 : Nat)) ∧ LZ w0 w' p q ds Rb (mSnap n ks5 z).1 := by
  have hz0 : LZ w0 (w.alloc (.cells #[.pointer (some ⟨q, 0, none⟩)] 33)) p q ds ((w.heap.size, ptrO q) :: Rb) z :=
    ⟨h.1.more ((Below.refl _ w).alloc (Nat.le_refl _) _) (Nat.le_refl _) (heap_alloc_last w _), h.2⟩
  have hrf := log_refuses hz0.1
  unfold mSnap
  cases hb : z.2.broken with
  | true =>
    rw [hb] at hrf
    simp only [if_true] at hrf ⊢
    have HZ0 := hid hz0
    clear hz0 h
    go_enter Tryz.func15, Tryz.ntmps15
    go_wp2_with (go_at_call 26; refine hrf.mono ?_; rintro e w' ⟨rfl, rfl⟩)
    go_ret
    exact ⟨rfl, HZ0.out.1.drop (fun y hy => List.mem_cons_of_mem _ hy) (List.sublist_cons_self _ _), HZ0.out.2⟩
  | false =>
    rw [hb] at hrf
    simp only [Bool.false_eq_true, if_false] at hrf ⊢
    obtain ⟨bs, hS0⟩ := hz0.1.sys
    have hnn := log_nextName hS0 (by have := hr.lim; omega) hk (by omega)
    rw [← hn] at hnn
    have c0 := hz0.1.cel.choose_spec.1.c0
    rw [show z.2.disk = p from hz0.2] at c0
    have hq := World.block_lt_of_cell? _ _ c0
    have hbl : (w.alloc (.cells #[.pointer (some ⟨q, 0, none⟩)] 33)).cell? ⟨w.heap.size, 0, none⟩ = some (.pointer (some ⟨q, 0, none⟩)) := hz0.ptr (List.mem_cons_self ..)
    have HZ0 := hid hz0
    have hchain := fun (b1 : Nat) => snap_chain (w0 := w0) (p := p) (q := q) (z := z) (ds := ds) (Rb := Rb)
    clear hS0 hz0 h hk
    obtain ⟨o, ho⟩ : ∃ o, runL (snapSteps n ks5) z = o := ⟨_, rfl⟩
    -- the steps, at the boxes
    have hex : ∀ w1, Below (w.alloc (.cells #[.pointer (some ⟨q, 0, none⟩)] 33)).heap.size (w.alloc (.cells #[.pointer (some ⟨q, 0, none⟩)] 33)) w1 →
        Calls Tryz.prog 28 #[.pointer (some ⟨q, 0, none⟩), .slice (some ⟨w1.heap.size + 1, 0, none⟩) 7 7] ((w1.alloc (.cells #[.string (ba (nm n))] 9)).alloc (.cells #[rmV q, wrV q, syncV q, s1V w.heap.size w1.heap.size, syncV q, s2V w.heap.size w1.heap.size, syncV q] 42)) fun e w' => e = .returned (.int .i64 (o.2 : Nat)) ∧ LZ w0 w' p q ds ((w1.heap.size + 1, .cells (snapV q w.heap.size w1.heap.size).toArray 42 (0, 0)) :: (w1.heap.size, strO (nm n)) :: (w.heap.size, ptrO q) :: Rb) (brk o) := by
      intro w1 hb1
      have hz1 := HZ0.out.below hb1
      have hz2 : LZ w0 (w1.alloc (.cells #[.string (ba (nm n))] 9)) p q ds ((w1.heap.size, strO (nm n)) :: (w.heap.size, ptrO q) :: Rb) z := ⟨hz1.1.more ((Below.refl _ w1).alloc (Nat.le_refl _) _) (Nat.le_refl _) (heap_alloc_last w1 _), hz1.2⟩
      have hlast := heap_alloc_last (w1.alloc (.cells #[.string (ba (nm n))] 9)) (.cells #[rmV q, wrV q, syncV q, s1V w.heap.size w1.heap.size, syncV q, s2V w.heap.size w1.heap.size, syncV q] 42)
      have hz3 : LZ w0 ((w1.alloc (.cells #[.string (ba (nm n))] 9)).alloc (.cells #[rmV q, wrV q, syncV q, s1V w.heap.size w1.heap.size, syncV q, s2V w.heap.size w1.heap.size, syncV q] 42)) p q ds ((w1.heap.size + 1, .cells (snapV q w.heap.size w1.heap.size).toArray 42 (0, 0)) :: (w1.heap.size, strO (nm n)) :: (w.heap.size, ptrO q) :: Rb) z :=
        ⟨hz2.1.more ((Below.refl _ _).alloc (Nat.le_refl _) _) (by simp) (by rw [World.size_alloc] at hlast; exact hlast), hz2.2⟩
      have hch := snap_chain (w0 := w0) (p := p) (q := q) (ds := ds) (Rb := (w1.heap.size + 1, .cells (snapV q w.heap.size w1.heap.size).toArray 42 (0, 0)) :: (w1.heap.size, strO (nm n)) :: (w.heap.size, ptrO q) :: Rb) htab hf hr (b0 := w.heap.size) (b1 := w1.heap.size) hlt (by simp) (by simp) h5
      rw [ho] at hch
      exact log_execute (w1.heap.size + 1) (snapV q w.heap.size w1.heap.size) (by simp [snapV]) (List.mem_cons_self ..) hz3 hch
    rw [ho]
    have HEX := hid hex
    clear hex hchain h5
    have HN := hid hn
    clear hn
    have hdrop : ∀ (V w1 : World) (zz : Z), LZ w0 V p q ds ((w1.heap.size + 1, .cells (snapV q w.heap.size w1.heap.size).toArray 42 (0, 0)) :: (w1.heap.size, strO (nm n)) :: (w.heap.size, ptrO q) :: Rb) zz → LZ w0 V p q ds Rb zz := fun V w1 zz hz =>
      ⟨hz.1.drop (fun y hy => List.mem_cons_of_mem _ (List.mem_cons_of_mem _ (List.mem_cons_of_mem _ hy))) (((List.sublist_cons_self _ _).trans (List.sublist_cons_self _ _)).trans (List.sublist_cons_self _ _)), hz.2⟩
    have HDR := hid hdrop
    clear hdrop
    obtain ⟨⟨so, xo⟩, en⟩ := o
    simp only at *
    unfold rmV wrV syncV s1V s2V at HEX
    by_cases h0 : en = 0
    · subst h0
      simp only [if_true]
      go_enter Tryz.func15, Tryz.ntmps15
      go_wp2_with (first
        | (go_at_call 26; refine hrf.mono ?_; rintro e w' ⟨rfl, rfl⟩)
        | (go_at_call 34; refine hnn.mono ?_; rintro e w1 ⟨rfl, hb1⟩; have hcal := HEX.out w1 hb1; have hbl2 := (hb1.cell (p := ⟨w.heap.size, 0, none⟩) (by simp)).trans hbl; have hbl3 : ∀ o, (w1.alloc o).cell? ⟨w.heap.size, 0, none⟩ = some (.pointer (some ⟨q, 0, none⟩)) := (fun o => (World.cell?_of_block (a := ⟨w.heap.size, 0, none⟩) (Below.heap_alloc w1 o w.heap.size (by have := hb1.size; simp at this; omega))).trans hbl2))
        | (go_at_call 28; refine hcal.mono ?_; rintro e w2 ⟨rfl, hz⟩; have hbz := hz.ptr (b := w.heap.size) (by simp); have hfz := hz.1.cel.choose_spec.1.fz 4; have c4 := hz.1.cel.choose_spec.1.c4; have HZ := hid (HDR.out _ w1 _ hz); clear hz))
      go_ret
      have hbk : brk ((so, xo), 0) = (so, xo) := rfl
      rw [hbk] at HZ
      exact ⟨rfl, HZ.out.1.set rfl (fun tv => rfl), HZ.out.2⟩
    · simp only [if_neg h0]
      have hq1 : ((en : Int) != 0) = true := by simp; omega
      have hq2 : ((en : Int) == 0) = false := by simp; omega
      clear h0
      go_enter Tryz.func15, Tryz.ntmps15
      go_wp2_with (first
        | (go_at_call 26; refine hrf.mono ?_; rintro e w' ⟨rfl, rfl⟩)
        | (go_at_call 34; refine hnn.mono ?_; rintro e w1 ⟨rfl, hb1⟩; have hcal := HEX.out w1 hb1; have hbl2 := (hb1.cell (p := ⟨w.heap.size, 0, none⟩) (by simp)).trans hbl; have hbl3 : ∀ o, (w1.alloc o).cell? ⟨w.heap.size, 0, none⟩ = some (.pointer (some ⟨q, 0, none⟩)) := (fun o => (World.cell?_of_block (a := ⟨w.heap.size, 0, none⟩) (Below.heap_alloc w1 o w.heap.size (by have := hb1.size; simp at this; omega))).trans hbl2))
        | (go_at_call 28; refine hcal.mono ?_; rintro e w2 ⟨rfl, hz⟩; have HZ := hid (HDR.out _ w1 _ hz); clear hz))
      go_ret
      exact ⟨rfl, HZ.out⟩
end
end Go.Proofs.YtcioomlhdaihkaaGreatDoor.L

namespace Go.Proofs.YtcioomlhdaihkaaGreatDoor.L
set_option linter.unusedVariables false
set_option linter.unusedSimpArgs false
set_option maxRecDepth 100000
open Go Go.RowKit Go.Maps Go.MapKept Go.ChangeMaps Go.Shelf Wire
open K (Gh Ext Dom noX Jd Steady)

/-- The segment's name, and what is appended to it. -/
def mPlace (ks : List Nat) (x : Lg) (S : List Bs) : Bs × Bs := if x.last = [] then (nm (nextNum ks), rowOf false x.texts.length S) else (x.last, Q.rowB S)
section
variable {w0 w : World} {p q : Nat} {z : Z} {ds : List (Nat × K.St)} {Rb : Bxs}
theorem ba_isEmpty (l : Bs) : (ba l).toList.isEmpty = decide (l = []) := by
  rw [Lib.toList_data, ba_list]
  cases l <;> rfl
set_option maxHeartbeats 2000000 in
theorem log_placed (h : LZ w0 w p q ds Rb z) (htab : Tab w0) (hlim : z.1.lim ≤ 549755813888) {ks : List Nat} {dr : Bool} (hk : NamesOk z.1.seen ks dr) (hlt : nextNum ks < 100) {v : Value} {S : List Bs} (hv : Q.SV w v S) (hlen : z.2.texts.length ≤ 400000) (hSl : S.length ≤ 400000) (hsm : ∀ t ∈ S, t.length ≤ 65536) (hrow1 : (Q.rowB S).length ≤ 900000) (hrow2 : (rowOf false z.2.texts.length S).length ≤ 900000) :
    Calls Tryz.prog 27 #[.pointer (some ⟨q, 0, none⟩), v] w fun e w' => e = .returned (.tuple #[.string (ba (mPlace ks z.2 S).1), .string (ba (mPlace ks z.2 S).2), .int .i64 0]) ∧ Below w.heap.size w w' := by
  obtain ⟨tv, ⟨c0, c1, c2, c3, c4, c5, fz⟩, hO⟩ := h.1.cel
  rw [h.2] at c0
  have hem := ba_isEmpty z.2.last
  have HSV := hid hv
  obtain ⟨ad, len, cap, rfl, hI⟩ := hv
  clear hI
  by_cases hl : z.2.last = []
  · have e : mPlace ks z.2 S = (nm (nextNum ks), rowOf false z.2.texts.length S) := by unfold mPlace; rw [if_pos hl]
    rw [e]
    simp only
    rw [hl] at c4
    have hem2 : (ba []).toList.isEmpty = true := by rw [ba_isEmpty]; rfl
    obtain ⟨bs, hS⟩ := h.1.sys
    have hnn := log_nextName hS hlim hk hlt
    obtain ⟨vp, vc, rfl⟩ := Q.out_form hO
    have hhd := fun V hV => log_headOf false z.2.texts.length (by omega) V hV
    have hk0 : kindB false = [70, 58] := rfl
    rw [hk0] at hhd
    have htw := h.1.tab htab
    have HTW := hid htw
    have HHL := hdB_len false z.2.texts.length (by omega)
    have hput : ∀ V v, Q.SV V v (hdB false z.2.texts.length :: S) → Calls Tryz.prog 49 #[v] V fun e w' => e = .returned (.tuple #[.string (ba (rowOf false z.2.texts.length S)), .int .i64 0]) ∧ Below V.heap.size V w' := fun V v hv =>
      Q.record_Put_ok _ v V hv (fun t ht => by rcases List.mem_cons.1 ht with rfl | ht; omega; exact hsm t ht) hrow2
    have HPUT := hid hput
    have hqlt : q < w.heap.size := World.block_lt_of_cell? w _ c0
    have hq2 : ∀ V, Below w.heap.size w V → V.cell? ⟨q, 2, none⟩ = some (.slice vp z.2.texts.length vc) := fun V hV => (hV.cell (p := ⟨q, 2, none⟩) hqlt).trans c2
    have HQ2 := hid hq2
    have HL := hid hSl
    clear hS h hk hl e hput hq2 hO hk0 hSl htw
    generalize rowOf false z.2.texts.length S = row at *
    generalize hdB false z.2.texts.length = hd at *
    generalize nm (nextNum ks) = nn at *
    go_enter Tryz.func27, Tryz.ntmps27
    go_wp2_with (first
      | (go_at_call 34; refine hnn.mono ?_; rintro e w1 ⟨rfl, hb1⟩; have HB1 := hid hb1; have k2 := HQ2.out w1 hb1; have htw1 := HTW.out.below hb1; clear hb1)
      | (go_at_call 50; refine (hhd _ htw1).mono ?_; rintro e w2 ⟨rfl, hb2⟩; have HB2 := hid (below_next HB1.out hb2); have hcc := concat_two w2 hd _ _ (HSV.out.keep HB2.out) HL.out; clear hb2)
      | (go_at_call 51; refine hcc.mono ?_; rintro e w3 ⟨v, rfl, hs3, hb3⟩; have hpp := HPUT.out w3 v hs3; have HB3 := hid (HB2.out.trans (hb3.mono HB2.out.size)); clear hb3 hs3)
      | (go_at_call 49; refine hpp.mono ?_; rintro e w4 ⟨rfl, hb4⟩; have HB4 := hid (below_next HB3.out hb4); clear hb4))
    exact bodyPost_ret (results_tmp3 rfl _ _ _) rfl ⟨rfl, HB4.out⟩
  · have e : mPlace ks z.2 S = (z.2.last, Q.rowB S) := by unfold mPlace; rw [if_neg hl]
    rw [e]
    simp only
    rw [decide_eq_false hl] at hem
    have hpp := Q.record_Put_ok S _ w HSV.out hsm hrow1
    have hqlt : q < w.heap.size := World.block_lt_of_cell? w _ c0
    clear h hk hl e
    generalize Q.rowB S = row at *
    generalize z.2.last = nn at *
    go_enter Tryz.func27, Tryz.ntmps27
    go_wp2_with (go_at_call 49; refine hpp.mono ?_; rintro e w1 ⟨rfl, hb1⟩; have k4 := (hb1.cell (p := ⟨q, 4, none⟩) hqlt).trans c4; have HB1 := hid hb1; clear hb1)
    exact bodyPost_ret (results_tmp3 rfl _ _ _) rfl ⟨rfl, HB1.out⟩
end
end Go.Proofs.YtcioomlhdaihkaaGreatDoor.L

namespace Go.Proofs.YtcioomlhdaihkaaGreatDoor.L
set_option linter.unusedVariables false
set_option linter.unusedSimpArgs false
set_option maxRecDepth 100000
open Go Go.RowKit Go.Maps Go.MapKept Go.ChangeMaps Go.Shelf Wire
open K (Gh Ext Dom noX Jd Steady)

/-- What the file that was appended to holds then: is the segment full? -/
def full (x : Lg) (s : K.St) (n : Bs) : Bs := if x.limit ≤ (s.read n).1.length then [] else n
/-- Strings are appended. -/
def mApp (ks : List Nat) (S : List Bs) (z : Z) : Z × Nat :=
  if z.2.broken then (z, 9)
  else if S = [] then (z, 0)
  else
    let nr := mPlace ks z.2 S
    let o := mAppend nr.1 nr.2 z
    if o.2 = 0 then ((o.1.1, { o.1.2 with texts := o.1.2.texts ++ S, last := full o.1.2 o.1.1 nr.1 }), 0) else (brk o, o.2)
def apV (b0 b1 b2 : Nat) : Value := .func (.func 29) #[] #[.pointer (some ⟨b0, 0, none⟩), .pointer (some ⟨b1, 0, none⟩), .pointer (some ⟨b2, 0, none⟩)]

section
variable {w0 w : World} {p q : Nat} {z : Z} {ds : List (Nat × K.St)} {Rb : Bxs}
/-- Nothing is appended: the log is broken, or there is nothing. -/
theorem log_Append_none (h : LZ w0 w p q ds Rb z) {v : Value} {S : List Bs} (hv : Q.SV w v S) (hno : z.2.broken = true ∨ S = []) (ks : List Nat) :
    Calls Tryz.prog 13 #[.pointer (some ⟨q, 0, none⟩), v] w fun e w' => e = .returned (.int .i64 ((mApp ks S z).2 : Nat)) ∧ LZ w0 w' p q ds Rb (mApp ks S z).1 := by
  have hz0 : LZ w0 (w.alloc (.cells #[.pointer (some ⟨q, 0, none⟩)] 33)) p q ds ((w.heap.size, ptrO q) :: Rb) z :=
    ⟨h.1.more ((Below.refl _ w).alloc (Nat.le_refl _) _) (Nat.le_refl _) (heap_alloc_last w _), h.2⟩
  have hrf := log_refuses hz0.1
  have HZ0 := hid hz0
  obtain ⟨ad, len, cap, rfl, hI⟩ := hv
  have hlen := hI.hlen
  clear hz0 h hI
  unfold mApp
  cases hb : z.2.broken with
  | true =>
    rw [hb] at hrf
    simp only [if_true] at hrf ⊢
    go_enter Tryz.func13, Tryz.ntmps13
    go_wp2_with (go_at_call 26; refine hrf.mono ?_; rintro e w' ⟨rfl, rfl⟩)
    go_ret
    exact ⟨rfl, HZ0.out.1.drop (fun y hy => List.mem_cons_of_mem _ hy) (List.sublist_cons_self _ _), HZ0.out.2⟩
  | false =>
    have hS : S = [] := hno.resolve_left (by rw [hb]; simp)
    subst hS
    rw [hb] at hrf
    simp at hlen
    subst hlen
    simp only [Bool.false_eq_true, if_false, if_true] at hrf ⊢
    go_enter Tryz.func13, Tryz.ntmps13
    go_wp2_with (go_at_call 26; refine hrf.mono ?_; rintro e w' ⟨rfl, rfl⟩)
    go_ret
    exact ⟨rfl, HZ0.out.1.drop (fun y hy => List.mem_cons_of_mem _ hy) (List.sublist_cons_self _ _), HZ0.out.2⟩

/-- Boxes of an append. -/
def apR (w : World) (q : Nat) (w1 : World) (n c : Bs) (Rb : Bxs) : Bxs := (w1.heap.size + 2, .cells #[apV w.heap.size w1.heap.size (w1.heap.size + 1)] 42 (0, 0)) :: (w1.heap.size + 1, strO c) :: (w1.heap.size, strO n) :: (w.heap.size, ptrO q) :: Rb
theorem ap_drop {V w1 : World} {n c : Bs} {zz : Z} (hz : LZ w0 V p q ds (apR w q w1 n c Rb) zz) : LZ w0 V p q ds Rb zz :=
  ⟨hz.1.drop (fun y hy => by unfold apR; simp [hy]) ((((List.sublist_cons_self _ _).trans (List.sublist_cons_self _ _)).trans (List.sublist_cons_self _ _)).trans (List.sublist_cons_self _ _)), hz.2⟩
theorem ap_execute (h : LZ w0 (w.alloc (.cells #[.pointer (some ⟨q, 0, none⟩)] 33)) p q ds ((w.heap.size, ptrO q) :: Rb) z) {n c : Bs} (hn : n.length ≤ 1000) (hc : c.length ≤ 900000) (hr : Room z.1) (w1 : World) (hb1 : Below (w.alloc (.cells #[.pointer (some ⟨q, 0, none⟩)] 33)).heap.size (w.alloc (.cells #[.pointer (some ⟨q, 0, none⟩)] 33)) w1) :
    Calls Tryz.prog 28 #[.pointer (some ⟨q, 0, none⟩), .slice (some ⟨w1.heap.size + 2, 0, none⟩) 1 1] (((w1.alloc (.cells #[.string (ba n)] 9)).alloc (.cells #[.string (ba c)] 9)).alloc (.cells #[apV w.heap.size w1.heap.size (w1.heap.size + 1)] 42)) fun e w' => e = .returned (.int .i64 ((mAppend n c z).2 : Nat)) ∧ LZ w0 w' p q ds (apR w q w1 n c Rb) (brk (mAppend n c z)) := by
  have hz1 := h.below hb1
  have hz2 : LZ w0 (w1.alloc (.cells #[.string (ba n)] 9)) p q ds ((w1.heap.size, strO n) :: (w.heap.size, ptrO q) :: Rb) z := ⟨hz1.1.more ((Below.refl _ w1).alloc (Nat.le_refl _) _) (Nat.le_refl _) (heap_alloc_last w1 _), hz1.2⟩
  have hl3 := heap_alloc_last (w1.alloc (.cells #[.string (ba n)] 9)) (.cells #[.string (ba c)] 9)
  rw [World.size_alloc] at hl3
  have hz3 : LZ w0 ((w1.alloc (.cells #[.string (ba n)] 9)).alloc (.cells #[.string (ba c)] 9)) p q ds ((w1.heap.size + 1, strO c) :: (w1.heap.size, strO n) :: (w.heap.size, ptrO q) :: Rb) z := ⟨hz2.1.more ((Below.refl _ _).alloc (Nat.le_refl _) _) (by simp) hl3, hz2.2⟩
  have hl4 := heap_alloc_last ((w1.alloc (.cells #[.string (ba n)] 9)).alloc (.cells #[.string (ba c)] 9)) (.cells #[apV w.heap.size w1.heap.size (w1.heap.size + 1)] 42)
  rw [World.size_alloc, World.size_alloc] at hl4
  have hz4 : LZ w0 (((w1.alloc (.cells #[.string (ba n)] 9)).alloc (.cells #[.string (ba c)] 9)).alloc (.cells #[apV w.heap.size w1.heap.size (w1.heap.size + 1)] 42)) p q ds (apR w q w1 n c Rb) z := ⟨hz3.1.more ((Below.refl _ _).alloc (Nat.le_refl _) _) (by simp) hl4, hz3.2⟩
  have hch : Chn (fun V z => LZ w0 V p q ds (apR w q w1 n c Rb) z) [apV w.heap.size w1.heap.size (w1.heap.size + 1)] z (runL [mAppend n c] z) :=
    chn_cons (fun V hV => ⟨_, _, _, rfl, enters_of Tryz.func29 (by kernel_rfl) rfl, log_Append1 hV (by simp [apR]) (by simp [apR]) (by simp [apR]) hn (by have := hr.lim; omega) (by have := hr.steps; omega)⟩) (fun _ => .nil _)
  rw [runL_one] at hch
  exact log_execute (w1.heap.size + 2) [apV w.heap.size w1.heap.size (w1.heap.size + 1)] (by simp) (List.mem_cons_self ..) hz4 hch

theorem l_some {P : Program} {ops : Array Oper} {Q : Exit → Act → World → Prop} {turn : List Nat} {Ph : Nat → (Nat → Value) → World → Prop} {V : Nat → (Nat → Value) → Value} {a0 : Act} {k : Nat} {op : Oper} {p : Nat} (hi : turn.idxOf? k = some p) (hg : op.guard = none)
    (h : ∀ u (a : Act) w, R.BaseA ops a0 a → (∀ i, (R.needOf op).testBit i = true → R.valAt ops a i = V i u) → Ph p u w → ∃ v w', (execOp a.eval op).run P w = .ok (.value v) w' ∧ Ph (p + 1) (R.updU u p v) w' ∧ R.vOf op v = V k (R.updU u p v)) : R.StepC P ops Q turn Ph V a0 k op :=
  R.turns_of hi fun u a w hb hP hn => ⟨R.wanted_none hg, fun K hK => by
    obtain ⟨v, w', hr, h1, h2⟩ := h u a w hb hn hP
    unfold Oper.wp
    rw [hr]
    exact hK v w' h1 h2⟩
/-- A round of the loop: one string is appended. -/
def ApP (w0 wr : World) (p q : Nat) (ds : List (Nat × K.St)) (Rb : Bxs) (s1 : K.St) (x : Lg) (y : Bs) (tv : Value) : Nat → (Nat → Value) → World → Prop
  | 0, _, V => Below wr.heap.size wr V
  | 1, _, V => Below wr.heap.size wr V
  | 2, u, V => Below wr.heap.size wr V ∧ ∃ g, u 1 = .slice (some ⟨g, 0, none⟩) 1 1 ∧ V.cell? ⟨g, 0, none⟩ = some (.string (ba y))
  | 3, u, V => ∃ rb, RowB (u 2) (x.texts ++ [y]) rb ∧ K.Sys w0 V ((p, s1) :: ds) ((q, sobj x tv) :: (rb ++ Rb)) ∧ Nd ((q, sobj x tv) :: (rb ++ Rb)) ∧ ∃ a n c, u 2 = .slice a n c
  | _, _, V => LZ w0 V p q ds Rb (s1, { x with texts := x.texts ++ [y] })
theorem cell_one' {w1 : World} {a : Addr} {v : Value} (h : w1.cell? a = some v) (o : Obj) : (w1.alloc o).cell? a = some v :=
  (World.cell?_of_block (a := a) (Below.heap_alloc w1 o a.block (World.block_lt_of_cell? w1 _ h))).trans h
theorem cell_two' {w1 : World} {a : Addr} {v : Value} (h : w1.cell? a = some v) (o o' : Obj) : ((w1.alloc o).alloc o').cell? a = some v := cell_one' (cell_one' h o) o'
theorem ap_below {w0 wr V : World} {p q : Nat} {ds : List (Nat × K.St)} {Rb : Bxs} {s1 : K.St} {x : Lg} {y : Bs} {tv : Value} {k : Nat} {u : Nat → Value} (hk : k ≤ 2) (h : ApP w0 wr p q ds Rb s1 x y tv k u V) : Below wr.heap.size wr V := by
  match k, hk, h with
  | 0, _, h => exact h
  | 1, _, h => exact h
  | 2, _, h => exact h.1
theorem ap_box {w0 w wr V w1 : World} {p q : Nat} {ds : List (Nat × K.St)} {Rb : Bxs} {s1 : K.St} {x : Lg} {y n c : Bs} {tv : Value} {k : Nat} {u : Nat → Value} (hk : k ≤ 3) (hb : wr.cell? ⟨w.heap.size, 0, none⟩ = some (.pointer (some ⟨q, 0, none⟩))) (hlt : w.heap.size < wr.heap.size) (h : ApP w0 wr p q ds (apR w q w1 n c Rb) s1 x y tv k u V) :
    V.cell? ⟨w.heap.size, 0, none⟩ = some (.pointer (some ⟨q, 0, none⟩)) := by
  rcases Nat.lt_or_ge k 3 with hk3 | hk3
  · exact ((ap_below (by omega) h).cell (p := ⟨w.heap.size, 0, none⟩) hlt).trans hb
  · obtain rfl : k = 3 := by omega
    obtain ⟨rb, h1, ⟨A, hS⟩, _⟩ := h
    have := (hS.boxes (w.heap.size, ptrO q) (List.mem_cons_of_mem _ (List.mem_append_right _ (by simp [apR])))).2
    exact (K.cell_row this 0).trans rfl
theorem ap_row {w0 wr V : World} {p q : Nat} {ds : List (Nat × K.St)} {Rb rb : Bxs} {s1 : K.St} {x : Lg} {y : Bs} {tv : Value} {T : List Bs} {u : Nat → Value} {g : Nat} (hS : K.Sys w0 wr ((p, s1) :: ds) ((q, sobj x tv) :: (rb ++ Rb))) (hn : Nd ((q, sobj x tv) :: (rb ++ Rb))) (hrb : RowB tv x.texts rb) (hl : T.length ≤ 900000) (hT : x.texts = T)
    (hP : Below wr.heap.size wr V) (hg : V.cell? ⟨g, 0, none⟩ = some (.string (ba y))) :
    ∃ v' w', (Builtin.append_ #[36, 36] 36 #[tv, .slice (some ⟨g, 0, none⟩) 1 1]).run Tryz.prog V = .ok v' w' ∧ ApP w0 wr p q ds Rb s1 x y tv 3 (R.updU u 2 v') w' := by
  have hS' := hS.below hP
  have hown : OwnS 0 V tv x.texts := hrb.own (fun z hz => by obtain ⟨A, hS2⟩ := hS'; exact (hS2.boxes z (List.mem_cons_of_mem _ (List.mem_append_left _ hz))).2)
  obtain ⟨ad, len, cap, e, hI⟩ := sv_one hg
  obtain ⟨v', w', hrun, hO, hG, hB, hL⟩ := strs_append hown (Nat.zero_le _) hI (by rw [hT]; omega) (by simp)
  obtain ⟨rb', h1, h2, h3⟩ := sys_row hS' hn hrb hG hO hB hL
  cases e
  refine ⟨v', w', hrun, rb', by simpa [R.updU] using h1, h2, h3, ?_⟩
  obtain ⟨a, c, rfl⟩ := Q.out_form hO
  exact ⟨_, _, _, by simp [R.updU]; exact ⟨rfl, rfl, rfl⟩⟩
theorem ap_store {w0 V : World} {p q : Nat} {ds : List (Nat × K.St)} {Rb rb : Bxs} {s1 : K.St} {x : Lg} {y : Bs} {tv v : Value} (hd : x.disk = p) (hrb : RowB v (x.texts ++ [y]) rb) (hS : K.Sys w0 V ((p, s1) :: ds) ((q, sobj x tv) :: (rb ++ Rb))) (hn : Nd ((q, sobj x tv) :: (rb ++ Rb))) :
    LZ w0 (V.setCell ⟨q, 2, none⟩ v) p q ds Rb (s1, { x with texts := x.texts ++ [y] }) := by
  obtain ⟨h1, h2⟩ := sys_setcell (i := 2) hS hn v
  have e : (lcells x tv).setIfInBounds 2 v = lcells { x with texts := x.texts ++ [y] } v := rfl
  rw [e] at h1 h2
  exact ⟨⟨v, rb, hrb, h1, h2⟩, hd⟩
set_option maxHeartbeats 4000000 in
theorem log_Append_some (h : LZ w0 w p q ds Rb z) (htab : Tab w0) (hr : Room z.1) {ks : List Nat} {dr : Bool} (hk : NamesOk z.1.seen ks dr) (hlt : nextNum ks < 100) {v : Value} {S : List Bs} (hv : ∀ V zz, LZ w0 V p q ds Rb zz → Q.SV V v S) (hlen : z.2.texts.length ≤ 400000) (hSl : S.length ≤ 400000) (hsm : ∀ t ∈ S, t.length ≤ 65536) (hrow1 : (Q.rowB S).length ≤ 900000) (hrow2 : (rowOf false z.2.texts.length S).length ≤ 900000)
    (hnb : z.2.broken = false) (hS0 : S ≠ []) (hlast : z.2.last.length ≤ 1000) (hlimit : z.2.limit ≤ 1048576)
    (hfull : (mAppend (mPlace ks z.2 S).1 (mPlace ks z.2 S).2 z).2 = 0 → ∃ c', (mAppend (mPlace ks z.2 S).1 (mPlace ks z.2 S).2 z).1.1.read (mPlace ks z.2 S).1 = (c', 0) ∧ c'.length ≤ 1000000) :
    Calls Tryz.prog 13 #[.pointer (some ⟨q, 0, none⟩), v] w fun e w' => e = .returned (.int .i64 ((mApp ks S z).2 : Nat)) ∧ LZ w0 w' p q ds Rb (mApp ks S z).1 := by
  have hz0 : LZ w0 (w.alloc (.cells #[.pointer (some ⟨q, 0, none⟩)] 33)) p q ds ((w.heap.size, ptrO q) :: Rb) z :=
    ⟨h.1.more ((Below.refl _ w).alloc (Nat.le_refl _) _) (Nat.le_refl _) (heap_alloc_last w _), h.2⟩
  have hrf := log_refuses hz0.1
  rw [hnb] at hrf
  simp only [Bool.false_eq_true, if_false] at hrf
  have hpl := log_placed hz0 htab (by have := hr.lim; omega) hk hlt ((hv w z h).keep ((Below.refl _ w).alloc (Nat.le_refl _) _)) hlen hSl hsm hrow1 hrow2
  have hnl : (mPlace ks z.2 S).1.length ≤ 1000 := by
    unfold mPlace
    split
    · have := (nm_fin ⟨nextNum ks, hlt⟩).1; simp only at this ⊢; omega
    · exact hlast
  have hcl : (mPlace ks z.2 S).2.length ≤ 900000 := by unfold mPlace; split; exact hrow2; exact hrow1
  have hm : mApp ks S z = (if (mAppend (mPlace ks z.2 S).1 (mPlace ks z.2 S).2 z).2 = 0 then (((mAppend (mPlace ks z.2 S).1 (mPlace ks z.2 S).2 z).1.1, { (mAppend (mPlace ks z.2 S).1 (mPlace ks z.2 S).2 z).1.2 with texts := (mAppend (mPlace ks z.2 S).1 (mPlace ks z.2 S).2 z).1.2.texts ++ S, last := full (mAppend (mPlace ks z.2 S).1 (mPlace ks z.2 S).2 z).1.2 (mAppend (mPlace ks z.2 S).1 (mPlace ks z.2 S).2 z).1.1 (mPlace ks z.2 S).1 }), 0)
      else (brk (mAppend (mPlace ks z.2 S).1 (mPlace ks z.2 S).2 z), (mAppend (mPlace ks z.2 S).1 (mPlace ks z.2 S).2 z).2)) := by
    unfold mApp
    rw [hnb, if_neg (by simp), if_neg hS0]
  rw [hm]
  clear hm
  generalize (mPlace ks z.2 S).1 = n at *
  generalize (mPlace ks z.2 S).2 = c at *
  have hex := fun w1 hb1 => ap_execute hz0 hnl hcl hr w1 hb1
  have HEX := hid hex
  have HV := hid hv
  have hS1 := (hv w z h)
  obtain ⟨ad, len, cap, rfl, hI⟩ := hS1
  have hln := hI.hlen
  have hle := hI.hle
  have hmx := hI.hmax
  have hbl : (w.alloc (.cells #[.pointer (some ⟨q, 0, none⟩)] 33)).cell? ⟨w.heap.size, 0, none⟩ = some (.pointer (some ⟨q, 0, none⟩)) := hz0.ptr (List.mem_cons_self ..)
  have hpos : 0 < len := by rw [← hln]; exact List.length_pos_iff.2 hS0
  have hl9 : len ≤ 9223372036854775807 := by unfold maxLen at hmx; omega
  have HLN := hid hln
  have HSL := hid hSl
  have HSM := hid hsm
  have HTL := hid hlen
  have hdisk := h.2
  have HDK := hid hdisk
  have HNL := hid hnl
  clear hex hI hv hk hz0 h hS0 hsm hrow1 hrow2 hln hle hmx hSl hlen hdisk hnl
  by_cases h0 : (mAppend n c z).2 = 0
  · rw [if_pos h0]
    rw [h0] at HEX
    have hbk : brk (mAppend n c z) = (mAppend n c z).1 := by unfold brk; rw [if_pos h0]
    rw [hbk] at HEX
    obtain ⟨c', hrd, hcl'⟩ := hfull h0
    have hx1 : (mAppend n c z).1.2 = z.2 := rfl
    have hl1 : (mAppend n c z).1.1.lim ≤ 549755813888 := by have := K.St.append_lim z.1 n c; have := hr.lim; show (z.1.append n c).1.lim ≤ _; omega
    generalize hz1 : (mAppend n c z).1 = z1 at *
    have HZ1 := hid hz1
    obtain ⟨s1, x1⟩ := z1
    simp only at hx1 hrd hl1
    subst hx1
    have HRD := hid hrd
    have HL1 := hid hl1
    clear hbk hfull hz1 h0 hrd hl1
    unfold apV at HEX
    go_enter Tryz.func13, Tryz.ntmps13
    go_wp2_with (first
      | (go_at_call 26; refine hrf.mono ?_; rintro e w' ⟨rfl, rfl⟩)
      | (go_at_call 27; refine hpl.mono ?_; rintro e w1 ⟨rfl, hb1⟩; have hcal := HEX.out w1 hb1; have hbl2 := (hb1.cell (p := ⟨w.heap.size, 0, none⟩) (by simp)).trans hbl; have hbl3 := cell_two' hbl2)
      | (go_at_call 28; refine hcal.mono ?_; rintro e w2 ⟨rfl, hz⟩; have HZ := hid hz; clear hz))
    go_loopw [38] (fun i wr => ∃ k : Nat, k ≤ len ∧ i = .int .i64 k ∧ Hid (LZ w0 wr p q ds (apR w q w1 n c Rb) (s1, { z.2 with texts := z.2.texts ++ S.take k }))) (fun i _ => len - (intOf i).toNat)
    case atStart => exact ⟨0, Nat.zero_le _, rfl, hid (by rw [List.take_zero, List.append_nil]; exact HZ.out)⟩
    case round =>
      obtain ⟨k, hk, rfl, HW⟩ := hrel
      by_cases hlt2 : k < len
      · have hsv := HV.out wr _ (ap_drop HW.out)
        obtain ⟨ad', len', cap', ee, hI⟩ := hsv
        cases ee
        cases ad with
        | none => have := (hI.hnil rfl).1; omega
        | some ad =>
          obtain ⟨y, hy, hcy⟩ := hI.at hlt2
          have hyl : y.length ≤ 65536 := HSM.out y (List.mem_of_getElem? hy)
          have hst : S.take (k + 1) = S.take k ++ [y] := by rw [List.take_add_one, hy]; rfl
          have hxl : (S.take k).length ≤ S.length := List.length_take_le' _ _
          have HST := hid hst
          have HLX : Hid ((z.2.texts ++ S.take k).length ≤ 900000) := hid (by rw [List.length_append]; have := HTL.out; have := HSL.out; omega)
          clear hI hy hst hxl
          obtain ⟨xk, hxk⟩ : ∃ xk : Lg, { z.2 with texts := z.2.texts ++ S.take k } = xk := ⟨_, rfl⟩
          have hxkt : xk.texts = z.2.texts ++ S.take k := by rw [← hxk]
          rw [hxk] at HW
          have HXT := hid hxkt
          have HXK := hid hxk
          clear hxk hxkt
          obtain ⟨⟨tv, rb, hrb, hS, hn⟩, hdk⟩ := HW.out
          have hsc : wr.heap[q]? = some (sobj xk tv) := hS.at
          have hcel := cel_of hsc
          have hbx := HW.out.ptr (b := w.heap.size) (by simp [apR])
          have hltb := World.block_lt_of_cell? wr _ hbx
          have hltq := World.block_lt_of_cell? wr _ hcel.c0
          obtain ⟨vp, vn, vc, rfl⟩ : ∃ a n c, tv = .slice a n c := by
            rcases hrb with ⟨rfl, _⟩ | ⟨g, cp, cur, rfl, _⟩ <;> exact ⟨_, _, _, rfl⟩
          have HRB := hid hrb
          have HSY := hid hS
          have HND := hid hn
          have HCE := hid hcel
          have HDKK := hid hdk
          have HSC := hid hsc
          clear hrb hS hn hcel hdk hsc
          have hcl := fun V => K.clone_str y (by omega) V
          have HOWN := hid (show OwnS 0 wr (.slice vp vn vc) xk.texts from HRB.out.own (fun z hz => by obtain ⟨A, hS⟩ := HSY.out; exact (hS.boxes z (List.mem_cons_of_mem _ (List.mem_append_left _ hz))).2))
          have c2 := HCE.out.c2
          go_wp2
          refine R.wp_chain [6, 7, 8, 11] (ApP w0 wr p q ds (apR w q w1 n c Rb) s1 xk y (.slice vp vn vc))
            (fun i u => [.pointer (some ⟨q, 0, none⟩), .pointer (some ⟨q, 0, none⟩), .pointer (some ⟨q, 0, none⟩), .pointer (some ⟨q, 2, none⟩), .slice vp vn vc, .string (ba y), .string (ba y), u 1, u 2, .pointer (some ⟨q, 0, none⟩), .pointer (some ⟨q, 2, none⟩), undef].getD i undef) (fun _ => undef) 60 (by kernel_rfl) (by kernel_rfl) rfl (by kernel_rfl) (by kernel_rfl) ?_ ?_ ((Below.refl _ wr).drew) ?_
          · simp only [R.HVs, R.HV]
            repeat' (first | trivial | refine And.intro ?_ ?_ | exact fun _ _ _ => rfl | exact fun h _ _ => absurd (h.symm.trans (show _ = false by kernel_rfl)) (by simp))
          · refine ⟨?_, ?_, ?_, ?_, ?_, ?_, ?_, ?_, ?_, ?_, ?_, ?_, trivial⟩
            · refine R.l_load _ _ (fun _ => ⟨w.heap.size, 0, none⟩) rfl (by kernel_rfl) rfl rfl Tryz.underlying33 rfl (R.ev_base (by kernel_rfl) rfl) (fun k u V _ hhi hP => ?_)
              have hh : k ≤ 3 := hhi
              exact ap_box hh hbx hltb hP
            · refine R.l_load _ _ (fun _ => ⟨w.heap.size, 0, none⟩) rfl (by kernel_rfl) rfl rfl Tryz.underlying33 rfl (R.ev_base (by kernel_rfl) rfl) (fun k u V _ hhi hP => ?_)
              have hh : k ≤ 2 := hhi
              exact ap_box (by omega) hbx hltb hP
            · refine R.l_read (by kernel_rfl) rfl rfl (fun k u a V _ _ hb hv hP => ?_)
              have e1 : a.eval (.tmp 43) = .pointer (some ⟨q, 0, none⟩) := (R.eval_at (i := 1) rfl).trans (hv 1 (by kernel_rfl))
              unfold execOp
              simp only [e1]
              first | rfl | simp [go_sem]
            · refine R.l_read (by kernel_rfl) rfl rfl (fun k u a V _ _ hb hv hP => ?_)
              have e1 : a.eval (.tmp 44) = .pointer (some ⟨q, 0, none⟩) := (R.eval_at (i := 2) rfl).trans (hv 2 (by kernel_rfl))
              unfold execOp
              simp only [e1]
              first | rfl | simp [go_sem]
            · refine R.l_load _ _ (fun _ => ⟨q, 2, none⟩) rfl (by kernel_rfl) rfl rfl Tryz.underlying36 rfl (R.ev_at (i := 3) rfl (by kernel_rfl)) (fun k u V _ hhi hP => ?_)
              have hh : k ≤ 2 := hhi
              exact ((ap_below hh hP).cell (p := ⟨q, 2, none⟩) hltq).trans c2
            · exact R.l_move _ (.inl rfl) (by kernel_rfl) rfl rfl (R.ev_base (by kernel_rfl) rfl)
            · refine R.l_call (p := 0) (by kernel_rfl) rfl (fun u a V hb hv hP => ?_)
              have e1 : a.eval (.tmp 47) = .string (ba y) := (R.eval_at (i := 5) rfl).trans (hv 5 (by kernel_rfl))
              refine ⟨_, _, by unfold execOp; simp only [resolve, invoke, Sem.run_bind, Sem.run_pure, Result.andThen_ok, List.map_toArray, List.map_cons, List.map_nil, e1]; rfl, ?_⟩
              refine (hcl V).mono ?_
              rintro e w' ⟨rfl, hb'⟩
              exact ⟨_, rfl, Below.trans (show Below wr.heap.size wr V from hP) (hb'.mono (Below.size (show Below wr.heap.size wr V from hP))), rfl⟩
            · refine l_some (p := 1) (by kernel_rfl) rfl (fun u a V hb hv hP => ?_)
              have e1 : a.eval (.tmp 48) = .string (ba y) := (R.eval_at (i := 6) rfl).trans (hv 6 (by kernel_rfl))
              have hP' : Below wr.heap.size wr V := hP
              refine ⟨.slice (some ⟨V.heap.size, 0, none⟩) 1 1, V.alloc (.cells #[.string (ba y)] 9), ?_, ⟨hP'.alloc hP'.size _, V.heap.size, rfl, (K.cell_row (heap_alloc_last V _) 0).trans rfl⟩, rfl⟩
              have e1' : a.tmps[48]?.getD undef = .string (ba y) := by simpa [Act.eval] using e1
              unfold execOp
              simp [go_sem, e1']
            · refine l_some (p := 2) (by kernel_rfl) rfl (fun u a V hb hv hP => ?_)
              obtain ⟨hP', g, hu1, hcg⟩ := hP
              have e1 : a.eval (.tmp 46) = .slice vp vn vc := (R.eval_at (i := 4) rfl).trans (hv 4 (by kernel_rfl))
              have e2 : a.eval (.tmp 49) = .slice (some ⟨g, 0, none⟩) 1 1 := (R.eval_at (i := 7) rfl).trans ((hv 7 (by kernel_rfl)).trans hu1)
              obtain ⟨v', w', hrun, hF⟩ := ap_row HSY.out HND.out HRB.out HLX.out (HXT.out) hP' hcg
              refine ⟨v', w', ?_, hF, rfl⟩
              unfold execOp
              simp only [resolve, invoke, Sem.run_bind, Sem.run_pure, Result.andThen_ok, List.map_toArray, List.map_cons, List.map_nil, e1, e2]
              simp only [builtin, Sem.run_bind, hrun, Result.andThen_ok]
              rfl
            · refine R.l_read (by kernel_rfl) rfl rfl (fun k u a V _ _ hb hv hP => ?_)
              have e1 : a.eval (.tmp 42) = .pointer (some ⟨q, 0, none⟩) := (R.eval_at (i := 0) rfl).trans (hv 0 (by kernel_rfl))
              unfold execOp
              simp only [e1]
              first | rfl | simp [go_sem]
            · refine R.l_read (by kernel_rfl) rfl rfl (fun k u a V _ _ hb hv hP => ?_)
              have e1 : a.eval (.tmp 51) = .pointer (some ⟨q, 0, none⟩) := (R.eval_at (i := 9) rfl).trans (hv 9 (by kernel_rfl))
              unfold execOp
              simp only [e1]
              first | rfl | simp [go_sem]
            · refine R.l_skip (p := 3) (by kernel_rfl) rfl (fun u a V hb hv hP => ?_)
              have e1 : a.eval (.tmp 52) = .pointer (some ⟨q, 2, none⟩) := (R.eval_at (i := 10) rfl).trans (hv 10 (by kernel_rfl))
              have e2 : a.eval (.tmp 50) = u 2 := (R.eval_at (i := 8) rfl).trans (hv 8 (by kernel_rfl))
              obtain ⟨rb', hr1, hS1, hn1, va, vb, vcc, hu2⟩ := hP
              rw [hu2] at e2 hr1
              have hsc := cel_of hS1.at
              have d2 := hsc.c2
              have f2 := hsc.fz 2
              refine ⟨V.setCell ⟨q, 2, none⟩ (.slice va vb vcc), ?_, ap_store HDKK.out hr1 hS1 hn1, rfl⟩
              unfold execOp
              simp only [e1, e2]
              simp [go_sem, d2, f2]
          · intro u V hP
            have hz2 : LZ w0 V p q ds (apR w q w1 n c Rb) (s1, { xk with texts := xk.texts ++ [y] }) := hP
            have hz3 : LZ w0 V p q ds (apR w q w1 n c Rb) (s1, { z.2 with texts := z.2.texts ++ S.take (k + 1) }) := by
              rw [HST.out, ← List.append_assoc, ← HXT.out]
              rw [← HXK.out] at hz2 ⊢
              exact hz2
            have HZ3 := hid hz3
            clear hz2 hz3 hP
            simp only [R.fill, List.getD_cons_zero, List.getD_cons_succ, List.setIfInBounds_toArray, List.set_cons_zero, List.set_cons_succ]
            simp only [Exit.inBlock, Exit.then]
            go_at_K
            go_wp2
            go_roundw
            case rel => exact ⟨k + 1, by omega, by go_num, HZ3⟩
            case measure => simp [intOf]; omega
      · have hke : k = len := by omega
        subst hke
        have HE := hid (show S.take k = S from by rw [← HLN.out]; exact List.take_length)
        have hZ := HW.out
        rw [HE.out] at hZ
        have hbx := hZ.ptr (b := w.heap.size) (by simp [apR])
        have hbn := hZ.str (b := w1.heap.size) (n := n) (by simp [apR])
        have hltb := World.block_lt_of_cell? wr _ hbx
        have hltn := World.block_lt_of_cell? wr _ hbn
        have huf : ∀ V, Below wr.heap.size wr V → Calls Tryz.prog 32 #[.pointer (some ⟨q, 0, none⟩), .string (ba n)] V fun e w' => e = .returned (.string (ba (full z.2 s1 n))) ∧ V = w' := fun V hV => by
          have h9 := log_unlessFull (hZ.below hV).1 (hZ.below hV).2 HL1.out n HNL.out c' HRD.out hcl' hlimit
          unfold full
          rw [HRD.out]
          exact h9
        have hfin : ∀ V, Below wr.heap.size wr V → V.cell? ⟨q, 4, none⟩ = some (.string (ba z.2.last)) ∧ V.frozen? ⟨q, 4, none⟩ = false ∧ LZ w0 (V.setCell ⟨q, 4, none⟩ (.string (ba (full z.2 s1 n)))) p q ds Rb (s1, { z.2 with texts := z.2.texts ++ S, last := full z.2 s1 n }) := fun V hV => by
          have hZV := hZ.below hV
          obtain ⟨tv, hcel, _⟩ := hZV.1.cel
          exact ⟨hcel.c4, hcel.fz 4, ap_drop ⟨hZV.1.set rfl (fun tv => rfl), hZV.2⟩⟩
        have HUF := hid huf
        have HFIN := hid hfin
        clear huf hfin hZ HW HE
        go_wp2
        refine R.wp_chain [3, 6] (fun k _ V => match k with | 0 => Below wr.heap.size wr V | 1 => Below wr.heap.size wr V | _ => LZ w0 V p q ds Rb (s1, { z.2 with texts := z.2.texts ++ S, last := full z.2 s1 n }))
          (fun i _ => [.pointer (some ⟨q, 0, none⟩), .pointer (some ⟨q, 0, none⟩), .string (ba n), .string (ba (full z.2 s1 n)), .pointer (some ⟨q, 0, none⟩), .pointer (some ⟨q, 4, none⟩), undef].getD i undef) (fun _ => undef) 60 (by kernel_rfl) (by kernel_rfl) rfl (by kernel_rfl) (by kernel_rfl) ?_ ?_ ((Below.refl _ wr).drew) ?_
        · simp only [R.HVs, R.HV]
          repeat' (first | trivial | refine And.intro ?_ ?_ | exact fun _ _ _ => rfl)
        · refine ⟨?_, ?_, ?_, ?_, ?_, ?_, ?_, trivial⟩
          · refine R.l_load _ _ (fun _ => ⟨w.heap.size, 0, none⟩) rfl (by kernel_rfl) rfl rfl Tryz.underlying33 rfl (R.ev_base (by kernel_rfl) rfl) (fun k u V _ hhi hP => ?_)
            have hh : k ≤ 1 := hhi
            have hP' : Below wr.heap.size wr V := by rcases (show k = 0 ∨ k = 1 by omega) with rfl | rfl <;> exact hP
            exact (hP'.cell (p := ⟨w.heap.size, 0, none⟩) hltb).trans hbx
          · refine R.l_load _ _ (fun _ => ⟨w.heap.size, 0, none⟩) rfl (by kernel_rfl) rfl rfl Tryz.underlying33 rfl (R.ev_base (by kernel_rfl) rfl) (fun k u V _ hhi hP => ?_)
            have hh : k ≤ 0 := hhi
            have hP' : Below wr.heap.size wr V := by obtain rfl : k = 0 := by omega
                                                     exact hP
            exact (hP'.cell (p := ⟨w.heap.size, 0, none⟩) hltb).trans hbx
          · refine R.l_load _ _ (fun _ => ⟨w1.heap.size, 0, none⟩) rfl (by kernel_rfl) rfl rfl Tryz.underlying9 rfl (R.ev_base (by kernel_rfl) rfl) (fun k u V _ hhi hP => ?_)
            have hh : k ≤ 0 := hhi
            have hP' : Below wr.heap.size wr V := by obtain rfl : k = 0 := by omega
                                                     exact hP
            exact (hP'.cell (p := ⟨w1.heap.size, 0, none⟩) hltn).trans hbn
          · refine R.l_call (p := 0) (by kernel_rfl) rfl (fun u a V hb hv hP => ?_)
            have e1 : a.eval (.tmp 55) = .pointer (some ⟨q, 0, none⟩) := (R.eval_at (i := 1) rfl).trans (hv 1 (by kernel_rfl))
            have e2 : a.eval (.tmp 56) = .string (ba n) := (R.eval_at (i := 2) rfl).trans (hv 2 (by kernel_rfl))
            refine ⟨_, _, by unfold execOp; simp only [resolve, invoke, Sem.run_bind, Sem.run_pure, Result.andThen_ok, List.map_toArray, List.map_cons, List.map_nil, e1, e2]; rfl, ?_⟩
            refine (HUF.out V hP).mono ?_
            rintro e w' ⟨rfl, rfl⟩
            exact ⟨_, rfl, hP, rfl⟩
          · refine R.l_read (by kernel_rfl) rfl rfl (fun k u a V _ _ hb hv hP => ?_)
            have e1 : a.eval (.tmp 54) = .pointer (some ⟨q, 0, none⟩) := (R.eval_at (i := 0) rfl).trans (hv 0 (by kernel_rfl))
            unfold execOp
            simp only [e1]
            first | rfl | simp [go_sem]
          · refine R.l_read (by kernel_rfl) rfl rfl (fun k u a V _ _ hb hv hP => ?_)
            have e1 : a.eval (.tmp 58) = .pointer (some ⟨q, 0, none⟩) := (R.eval_at (i := 4) rfl).trans (hv 4 (by kernel_rfl))
            unfold execOp
            simp only [e1]
            first | rfl | simp [go_sem]
          · refine R.l_skip (p := 1) (by kernel_rfl) rfl (fun u a V hb hv hP => ?_)
            have e1 : a.eval (.tmp 59) = .pointer (some ⟨q, 4, none⟩) := (R.eval_at (i := 5) rfl).trans (hv 5 (by kernel_rfl))
            have e2 : a.eval (.tmp 57) = .string (ba (full z.2 s1 n)) := (R.eval_at (i := 3) rfl).trans (hv 3 (by kernel_rfl))
            obtain ⟨d2, f2, hzf⟩ := HFIN.out V hP
            refine ⟨_, ?_, hzf, rfl⟩
            unfold execOp
            simp only [e1, e2]
            simp [go_sem, d2, f2]
        · intro u V hP
          have HP := hid (show LZ w0 V p q ds Rb (s1, { z.2 with texts := z.2.texts ++ S, last := full z.2 s1 n }) from hP)
          clear hP
          simp only [R.fill, List.getD_cons_zero, List.getD_cons_succ, List.setIfInBounds_toArray, List.set_cons_zero, List.set_cons_succ]
          try simp only [Exit.inBlock]
          try simp only [Exit.then]
          go_at_K
          go_wp2
          go_ret
          have hfin := HP.out
          rw [hnb] at hfin
          exact ⟨rfl, hfin⟩
  · rw [if_neg h0]
    generalize (mAppend n c z).2 = en at *
    have hq1 : ((en : Int) != 0) = true := by simp; omega
    have hq2 : ((en : Int) == 0) = false := by simp; omega
    clear h0
    unfold apV at HEX
    go_enter Tryz.func13, Tryz.ntmps13
    go_wp2_with (first
      | (go_at_call 26; refine hrf.mono ?_; rintro e w' ⟨rfl, rfl⟩)
      | (go_at_call 27; refine hpl.mono ?_; rintro e w1 ⟨rfl, hb1⟩; have hcal := HEX.out w1 hb1; have hbl2 := (hb1.cell (p := ⟨w.heap.size, 0, none⟩) (by simp)).trans hbl; have hbl3 := cell_two' hbl2))
    go_wp2_with (go_at_call 28; refine hcal.mono ?_; rintro e w2 ⟨rfl, hz⟩)
    go_ret
    exact ⟨rfl, ap_drop hz⟩
end
end Go.Proofs.YtcioomlhdaihkaaGreatDoor.L
