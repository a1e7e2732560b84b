/-
  Logs: the steps of what changes one.
-/
import Derived.Test.YtcioomlhdaihkaaGreatDoorWE
namespace Go.Proofs.YtcioomlhdaihkaaGreatDoor.L
set_option linter.unusedVariables false
set_option linter.unusedSimpArgs false
set_option maxRecDepth 100000
open Go Go.RowKit Go.Maps Go.MapKept Go.ChangeMaps Go.Shelf Wire
open K (Gh Ext Dom noX Jd Steady)

/-- A disk and its log. -/
abbrev Z := K.St × Lg
def mSync (z : Z) : Z × Nat := ((z.1.sync.1, if z.1.sync.2 = 0 then { z.2 with synced := z.2.texts.length } else z.2), z.1.sync.2)
def mRmDraft (z : Z) : Z × Nat := (((z.1.remove draft).1, z.2), if (z.1.remove draft).2 = 7 then 0 else (z.1.remove draft).2)
def rowOf (b : Bool) (n : Nat) (l : List Bs) : Bs := Q.rowB (hdB b n :: l)
def mWrDraft (z : Z) : Z × Nat := (((z.1.append draft (rowOf true z.2.texts.length z.2.texts)).1, z.2), (z.1.append draft (rowOf true z.2.texts.length z.2.texts)).2)
def mRename (n : Bs) (z : Z) : Z × Nat := (((z.1.rename draft n).1, z.2), (z.1.rename draft n).2)
def mAppend (n c : Bs) (z : Z) : Z × Nat := (((z.1.append n c).1, z.2), (z.1.append n c).2)
/-- Files are removed, until one tells an error. -/
def rmList : List Bs → K.St → K.St × Nat
  | [], s => (s, 0)
  | n :: r, s => if (s.remove n).2 ≠ 0 then ((s.remove n).1, (s.remove n).2) else rmList r (s.remove n).1
def othersOf (ks : List Nat) (n : Nat) : List Bs := (ks.filter (fun k => decide (k ≠ n))).map nm
def mRmOthers (l : List Bs) (z : Z) : Z × Nat := (((rmList l z.1).1, z.2), (rmList l z.1).2)

/-- A disk and its log in memory. -/
def LZ (w0 w : World) (p q : Nat) (ds : List (Nat × K.St)) (R : Bxs) (z : Z) : Prop := LS w0 w ((p, z.1) :: ds) q z.2 R ∧ z.2.disk = p
section
variable {w0 w : World} {p q : Nat} {z : Z} {ds : List (Nat × K.St)} {R : Bxs}
theorem LZ.below {w' : World} (h : LZ w0 w p q ds R z) (hB : Below w.heap.size w w') : LZ w0 w' p q ds R z := ⟨h.1.below hB, h.2⟩
theorem LZ.turn {w' : World} {s' : K.St} (h : LZ w0 w p q ds R z) (hw : ∀ bs, K.Sys w0 w ((p, z.1) :: ds) bs → K.Sys w0 w' ((p, s') :: ds) bs) : LZ w0 w' p q ds R (s', z.2) := ⟨LS.disk hw h.1, h.2⟩

/-- What a call of the disk does, at a log's. -/
theorem lz_call {f : Nat} {args : Array Value} {s' : K.St} {e0 : Nat} (h : LZ w0 w p q ds R z) (hc : ∀ bs, K.Sys w0 w ((p, z.1) :: ds) bs → Calls Tryz.prog f args w fun e w' => e = .returned (.int .i64 (e0 : Nat)) ∧ K.Sys w0 w' ((p, s') :: ds) bs) :
    Calls Tryz.prog f args w fun e w' => e = .returned (.int .i64 (e0 : Nat)) ∧ LZ w0 w' p q ds R (s', z.2) := by
  obtain ⟨⟨tv, rb, hrb, hS, hn⟩, hd⟩ := h
  refine (hc _ hS).mono ?_
  rintro e w' ⟨rfl, hS'⟩
  exact ⟨rfl, ⟨tv, rb, hrb, hS', hn⟩, hd⟩

theorem log_sync (h : LZ w0 w p q ds R z) (hlim : z.1.lim ≤ 549755813888) :
    Calls Tryz.prog 33 #[.pointer (some ⟨q, 0, none⟩)] w fun e w' => e = .returned (.int .i64 ((mSync z).2 : Nat)) ∧ LZ w0 w' p q ds R (mSync z).1 := by
  have hc := lz_call h (fun bs hS => K.sys_Sync hS hlim)
  obtain ⟨tv, ⟨c0, c1, c2, c3, c4, c5, fz⟩, _⟩ := h.1.cel
  rw [h.2] at c0
  unfold mSync
  clear h
  by_cases h0 : z.1.sync.2 = 0
  · simp only [if_pos h0]
    have HH := hid h0
    rw [h0] at hc
    clear h0
    go_enter Tryz.func33, Tryz.ntmps33
    go_wp2_with (go_at_call 57; refine hc.mono ?_; rintro e w1 ⟨rfl, hz⟩; obtain ⟨tv1, ⟨d0, d1, d2, d3, d4, d5, fz1⟩, hO⟩ := hz.1.cel; have e3 := fz1 3; have HZ := hid hz; obtain ⟨vp, vc, rfl⟩ := Q.out_form hO; clear hz)
    go_ret
    rw [HH.out]
    exact ⟨rfl, HZ.out.1.set rfl (fun tv => rfl), HZ.out.2⟩
  · simp only [if_neg h0]
    generalize z.1.sync.2 = n at *
    have hq1 : ((n : Int) == 0) = false := by simp; omega
    go_enter Tryz.func33, Tryz.ntmps33
    go_wp2_with (go_at_call 57; refine hc.mono ?_; rintro e w1 ⟨rfl, hz⟩)
    go_ret
    exact ⟨rfl, hz⟩
theorem log_removeDraft (h : LZ w0 w p q ds R z) (hlim : z.1.lim + 2 ≤ 549755813888) (hst : z.1.steps.length ≤ 549755813888) :
    Calls Tryz.prog 35 #[.pointer (some ⟨q, 0, none⟩)] w fun e w' => e = .returned (.int .i64 ((mRmDraft z).2 : Nat)) ∧ LZ w0 w' p q ds R (mRmDraft z).1 := by
  have hc := lz_call h (fun bs hS => K.sys_Remove hS draft (by simp [draft]) hlim hst)
  have hc2 : Calls Tryz.prog 60 #[.pointer (some ⟨p, 0, none⟩), .string (ba [108, 111, 103, 46, 110, 101, 119])] w fun e w' => e = .returned (.int .i64 ((z.1.remove draft).2 : Nat)) ∧ LZ w0 w' p q ds R ((z.1.remove draft).1, z.2) := hc
  obtain ⟨tv, ⟨c0, c1, c2, c3, c4, c5, fz⟩, _⟩ := h.1.cel
  rw [h.2] at c0
  unfold mRmDraft
  clear h hc
  generalize (z.1.remove draft).1 = s1 at *
  by_cases h0 : (z.1.remove draft).2 = 7
  · simp only [if_pos h0]
    rw [h0] at hc2
    clear h0
    go_enter Tryz.func35, Tryz.ntmps35
    go_wp2_with (go_at_call 60; refine hc2.mono ?_; rintro e w1 ⟨rfl, hz⟩)
    go_ret
    exact ⟨rfl, hz⟩
  · simp only [if_neg h0]
    generalize (z.1.remove draft).2 = n at *
    have hq1 : ((n : Int) == 7) = false := by simp; omega
    go_enter Tryz.func35, Tryz.ntmps35
    go_wp2_with (go_at_call 60; refine hc2.mono ?_; rintro e w1 ⟨rfl, hz⟩)
    go_ret
    exact ⟨rfl, hz⟩
theorem sv_one {W : World} {g : Nat} {x : Bs} (h : W.cell? ⟨g, 0, none⟩ = some (.string (ba x))) : Q.SV W (.slice (some ⟨g, 0, none⟩) 1 1) [x] :=
  ⟨_, 1, 1, rfl, rfl, Nat.le_refl _, by unfold maxLen; omega, fun h => (by cases h), fun i y hy => by
    cases i with
    | zero => simp at hy; subst hy; exact ⟨_, rfl, by rw [K.add0]; exact h⟩
    | succ i => simp at hy⟩
theorem concat_two (w1 : World) (hd : Bs) (l : List Bs) (v2 : Value) (hv : Q.SV w1 v2 l) (hl : l.length ≤ 400000) :
    Calls Tryz.prog 51 #[.slice (some ⟨w1.heap.size + 1, 0, none⟩) 2 2] ((w1.alloc (.cells #[.string (ba hd)] 9)).alloc (.cells #[.slice (some ⟨w1.heap.size, 0, none⟩) 1 1, v2] 36)) fun e w' => ∃ v, e = .returned v ∧ Q.SV w' v (hd :: l) ∧ Below w1.heap.size w1 w' := by
  have h1 : ((w1.alloc (.cells #[.string (ba hd)] 9)).alloc (.cells #[.slice (some ⟨w1.heap.size, 0, none⟩) 1 1, v2] 36)).heap[w1.heap.size + 1]? = some (.cells #[.slice (some ⟨w1.heap.size, 0, none⟩) 1 1, v2] 36 (0, 0)) := by
    have := heap_alloc_last (w1.alloc (.cells #[.string (ba hd)] 9)) (.cells #[.slice (some ⟨w1.heap.size, 0, none⟩) 1 1, v2] 36)
    rwa [World.size_alloc] at this
  have h2 : ((w1.alloc (.cells #[.string (ba hd)] 9)).alloc (.cells #[.slice (some ⟨w1.heap.size, 0, none⟩) 1 1, v2] 36)).heap[w1.heap.size]? = some (.cells #[.string (ba hd)] 9 (0, 0)) :=
    (Below.heap_alloc _ _ _ (by simp)).trans (heap_alloc_last w1 _)
  have hb : Below w1.heap.size w1 ((w1.alloc (.cells #[.string (ba hd)] 9)).alloc (.cells #[.slice (some ⟨w1.heap.size, 0, none⟩) 1 1, v2] 36)) := ((Below.refl _ w1).alloc (Nat.le_refl _) _).alloc (by simp) _
  refine (sl_Concat (w1.heap.size + 1) _ _ [hd] l (by simp) (by simp; omega) _ ((K.cell_row h1 0).trans rfl) ((K.cell_row h1 1).trans rfl) (sv_one ((K.cell_row h2 0).trans rfl)) (hv.keep hb)).mono ?_
  rintro e w' ⟨v, rfl, hs, hb2⟩
  exact ⟨v, rfl, hs, hb.trans (hb2.mono hb.size)⟩
set_option maxHeartbeats 1000000 in
theorem log_writeDraft (h : LZ w0 w p q ds R z) (htab : Tab w0) (hlen : z.2.texts.length ≤ 400000) (hsm : ∀ t ∈ z.2.texts, t.length ≤ 65536) (hrow : (rowOf true z.2.texts.length z.2.texts).length ≤ 900000) (hlim : z.1.lim + 2 * (1 + (rowOf true z.2.texts.length z.2.texts).length) ≤ 549755813888) (hst : z.1.steps.length ≤ 549755813888) :
    Calls Tryz.prog 36 #[.pointer (some ⟨q, 0, none⟩)] w fun e w' => e = .returned (.int .i64 ((mWrDraft z).2 : Nat)) ∧ LZ w0 w' p q ds R (mWrDraft z).1 := by
  obtain ⟨tv, ⟨c0, c1, c2, c3, c4, c5, fz⟩, hO⟩ := h.1.cel
  have HO := hid hO
  obtain ⟨vp, vc, rfl⟩ := Q.out_form hO
  rw [h.2] at c0
  have hhd := log_headOf true z.2.texts.length (by omega) w (h.1.tab htab)
  have HH := hid h
  have hsvt : Q.SV w (.slice vp z.2.texts.length vc) z.2.texts := Q.OutV.sv hO
  have HSV := hid hsvt
  have HHL := hdB_len true z.2.texts.length (by omega)
  have hcall : ∀ V, LZ w0 V p q ds R z → Calls Tryz.prog 30 #[.pointer (some ⟨p, 0, none⟩), .string (ba [108, 111, 103, 46, 110, 101, 119]), .string (ba (rowOf true z.2.texts.length z.2.texts))] V fun e w' => e = .returned (.int .i64 ((mWrDraft z).2 : Nat)) ∧ LZ w0 w' p q ds R (mWrDraft z).1 := fun V hV =>
    lz_call hV (fun bs hS => K.sys_Append hS draft (rowOf true z.2.texts.length z.2.texts) (by simp [draft]) (by omega) hlim hst)
  have HCALL := hid hcall
  have hput : ∀ V v, Q.SV V v (hdB true z.2.texts.length :: z.2.texts) → Calls Tryz.prog 49 #[v] V fun e w' => e = .returned (.tuple #[.string (ba (rowOf true z.2.texts.length z.2.texts)), .int .i64 0]) ∧ Below V.heap.size V w' := fun V v hv =>
    Q.record_Put_ok _ v V hv (fun t ht => by rcases List.mem_cons.1 ht with rfl | ht; omega; exact hsm t ht) hrow
  have HPUT := hid hput
  have hk : kindB true = [83, 58] := rfl
  rw [hk] at hhd
  have HLEN := hid hlen
  clear hcall hput hsvt hO h hk
  generalize (mWrDraft z).2 = en at *
  generalize (mWrDraft z).1 = zn at *
  generalize rowOf true z.2.texts.length z.2.texts = row at *
  generalize hdB true z.2.texts.length = hd at *
  have hqlt : q < w.heap.size := World.block_lt_of_cell? w _ c0
  have hq0 : ∀ V, Below w.heap.size w V → V.cell? ⟨q, 0, none⟩ = some (.pointer (some ⟨p, 0, none⟩)) := fun V hV => (hV.cell (p := ⟨q, 0, none⟩) hqlt).trans c0
  have hq2 : ∀ V, Below w.heap.size w V → V.cell? ⟨q, 2, none⟩ = some (.slice vp z.2.texts.length vc) := fun V hV => (hV.cell (p := ⟨q, 2, none⟩) hqlt).trans c2
  have HQ0 := hid hq0
  have HQ2 := hid hq2
  clear hq0 hq2
  go_enter Tryz.func36, Tryz.ntmps36
  go_wp2_with (first
    | (go_at_call 50; refine hhd.mono ?_; rintro e w1 ⟨rfl, hb1⟩; have k2 : ∀ o, (w1.alloc o).cell? ⟨q, 2, none⟩ = some (.slice vp z.2.texts.length vc) := (fun o => HQ2.out _ (hb1.alloc hb1.size o)); have hcc := concat_two w1 hd _ _ (HSV.out.keep hb1) HLEN.out; have HB1 := hid hb1; clear hb1)
    | (go_at_call 51; refine hcc.mono ?_; rintro e w2 ⟨v, rfl, hs2, hb2⟩; have hpp := HPUT.out w2 v hs2; have HB2 := hid (HB1.out.trans (hb2.mono HB1.out.size)); clear hb2 hs2)
    | (go_at_call 49; refine hpp.mono ?_; rintro e w3 ⟨rfl, hb3⟩; have HB3 := hid (below_next HB2.out hb3); have k0 := HQ0.out _ HB3.out; have hcal := HCALL.out _ (HH.out.below HB3.out); clear hb3)
    | (go_at_call 30; refine hcal.mono ?_; rintro e w4 ⟨rfl, hz⟩))
  go_ret
  exact ⟨rfl, hz⟩
end
end Go.Proofs.YtcioomlhdaihkaaGreatDoor.L

namespace Go.Proofs.YtcioomlhdaihkaaGreatDoor.L
set_option linter.unusedVariables false
set_option linter.unusedSimpArgs false
set_option maxRecDepth 100000
open Go Go.RowKit Go.Maps Go.MapKept Go.ChangeMaps Go.Shelf Wire
open K (Gh Ext Dom noX Jd Steady)

/-- A function value is called. -/
def CallsV (v : Value) (w : World) (Q : Ending → World → Prop) : Prop :=
  ∃ f b c, v = .func (.func f) b c ∧ (∀ (args : Array Value) (w : World), (callFunc f args).run Tryz.prog w = .ok (.enter f args) w) ∧ Calls Tryz.prog f (b ++ c) w Q
/-- Steps in a row: what comes of them. -/
inductive Chn (Φ : World → Z → Prop) : List Value → Z → Z × Nat → Prop
  | nil (z : Z) : Chn Φ [] z (z, 0)
  | stop {v : Value} {r : List Value} {z z' : Z} {n : Nat} (h : ∀ w, Φ w z → CallsV v w fun e w' => e = .returned (.int .i64 (n : Nat)) ∧ Φ w' z') (hn : n ≠ 0) : Chn Φ (v :: r) z (z', n)
  | step {v : Value} {r : List Value} {z z' : Z} {o : Z × Nat} (h : ∀ w, Φ w z → CallsV v w fun e w' => e = .returned (.int .i64 ((0 : Nat) : Int)) ∧ Φ w' z') (hr : Chn Φ r z' o) : Chn Φ (v :: r) z o
/-- What a log is behind steps. -/
def brk (o : Z × Nat) : Z := if o.2 = 0 then o.1 else (o.1.1, { o.1.2 with broken := decide (o.2 = 70) })

set_option maxHeartbeats 1000000 in
theorem log_execute {w0 w : World} {p q : Nat} {z : Z} {ds : List (Nat × K.St)} {R : Bxs} (g : Nat) (fs : List Value) (hfs : fs.length ≤ 1000) (hg : (g, Obj.cells fs.toArray 42 (0, 0)) ∈ R) (h : LZ w0 w p q ds R z) {o : Z × Nat} (hc : Chn (fun w z => LZ w0 w p q ds R z) fs z o) :
    Calls Tryz.prog 28 #[.pointer (some ⟨q, 0, none⟩), .slice (some ⟨g, 0, none⟩) fs.length fs.length] w fun e w' => e = .returned (.int .i64 (o.2 : Nat)) ∧ LZ w0 w' p q ds R (brk o) := by
  have HG := hid hg
  have HH := hid h
  have HC := hid hc
  clear hg h hc
  generalize hn : fs.length = n at *
  have HN := hid hn
  clear hn
  go_enter Tryz.func28, Tryz.ntmps28
  go_wp2
  go_loopw [10] (fun i wr => ∃ (k : Nat) (zk : Z), k ≤ n ∧ i = .int .i64 k ∧ Hid (LZ w0 wr p q ds R zk) ∧ Hid (Chn (fun w z => LZ w0 w p q ds R z) (fs.drop k) zk o)) (fun i _ => n - (intOf i).toNat)
  case atStart => exact ⟨0, z, Nat.zero_le _, rfl, HH, hid (by rw [List.drop_zero]; exact HC.out)⟩
  case round =>
    obtain ⟨k, zk, hk, rfl, HZ, HK⟩ := hrel
    by_cases hlt : k < n
    · obtain ⟨v, hv⟩ : ∃ v, fs[k]? = some v := ⟨_, List.getElem?_eq_getElem (by rw [HN.out]; exact hlt)⟩
      have hd : fs.drop k = v :: fs.drop (k + 1) := by
        obtain ⟨hk', e⟩ := List.getElem?_eq_some_iff.1 hv
        rw [← e]; exact List.drop_eq_getElem_cons hk'
      have hcell : wr.cell? ⟨g, k, none⟩ = some v := by
        have hb := HZ.out.1.box HG.out
        rw [K.cell_row hb k, List.getElem?_toArray]
        exact hv
      have hch := HK.out
      rw [hd] at hch
      clear hd hv
      cases hch with
      | @stop _ _ _ z' m hs hne =>
        obtain ⟨f, b, c, rfl, hen, hcall⟩ := hs wr HZ.out
        clear hs
        have hbk : brk (z', m) = (z'.1, { z'.2 with broken := decide (m = 70) }) := by unfold brk; rw [if_neg hne]
        have hq1 : ((m : Int) != 0) = true := by simp; omega
        have hq2 : ((m : Int) == 0) = false := by simp; omega
        have hq3 : ((m : Int) == 70) = decide (m = 70) := by
          by_cases e : m = 70
          · simp [e]
          · simp [e]; omega
        generalize hB : decide (m = 70) = B at *
        have HBK := hid hbk
        clear hne hbk hB
        go_wp2
        refine hcall.mono ?_
        rintro e w1 ⟨rfl, hz⟩
        obtain ⟨tv, ⟨c0, c1, c2, c3, c4, c5, fz⟩, _⟩ := hz.1.cel
        have HZ1 := hid hz
        clear hz
        go_wp2
        go_ret
        rw [HBK.out]
        exact ⟨rfl, HZ1.out.1.set rfl (fun tv => by first | rfl | (rw [hq3]; rfl)), HZ1.out.2⟩
      | @step _ _ _ z' _ hs hr =>
        obtain ⟨f, b, c, rfl, hen, hcall⟩ := hs wr HZ.out
        have HR := hid hr
        clear hs hr
        go_wp2
        refine hcall.mono ?_
        rintro e w1 ⟨rfl, hz⟩
        have HZ1 := hid hz
        clear hz
        go_wp2
        go_roundw
        case rel => exact ⟨k + 1, z', by omega, by go_num, HZ1, HR⟩
        case measure => simp [intOf]; omega
    · obtain rfl : k = n := by omega
      have hd : fs.drop k = [] := List.drop_eq_nil_of_le (by rw [HN.out]; exact Nat.le_refl _)
      have hch := HK.out
      rw [hd] at hch
      cases hch
      clear hd
      go_wp2
      go_ret
      exact ⟨rfl, HZ.out⟩
end Go.Proofs.YtcioomlhdaihkaaGreatDoor.L

namespace Go.Proofs.YtcioomlhdaihkaaGreatDoor.L
set_option linter.unusedVariables false
set_option linter.unusedSimpArgs false
set_option maxRecDepth 100000
open Go Go.RowKit Go.Maps Go.MapKept Go.ChangeMaps Go.Shelf Wire
open K (Gh Ext Dom noX Jd Steady)

theorem act_steps (s : K.St) (us : List K.U) : (s.act us).steps.length ≤ s.steps.length + 1 := by
  unfold K.St.act
  split
  · simp
  · exact Nat.le_succ _
theorem remove_steps (s : K.St) (n : Bs) : (s.remove n).1.steps.length ≤ s.steps.length + 1 := by
  unfold K.St.remove
  split
  · exact Nat.le_succ _
  · split
    · exact Nat.le_succ _
    · exact act_steps _ _
theorem rename_steps (s : K.St) (a b : Bs) : (s.rename a b).1.steps.length ≤ s.steps.length + 1 := by
  unfold K.St.rename
  split
  · exact Nat.le_succ _
  · split
    · exact Nat.le_succ _
    · exact act_steps _ _
theorem append_steps (s : K.St) (n c : Bs) : (s.append n c).1.steps.length ≤ s.steps.length + 1 := by
  unfold K.St.append
  split
  · exact Nat.le_succ _
  · split
    · exact Nat.le_succ _
    · exact act_steps _ _
theorem sync_steps (s : K.St) : s.sync.1.steps.length ≤ s.steps.length := by
  unfold K.St.sync
  split
  · exact Nat.le_refl _
  · split
    · exact Nat.le_refl _
    · exact Nat.zero_le _

section
variable {w0 w : World} {p q : Nat} {z : Z} {ds : List (Nat × K.St)} {R : Bxs}
theorem rmList_cons (n : Bs) (r : List Bs) (s : K.St) : rmList (n :: r) s = if (s.remove n).2 ≠ 0 then ((s.remove n).1, (s.remove n).2) else rmList r (s.remove n).1 := rfl
theorem othersOf_cons (k : Nat) (ks : List Nat) (n : Nat) : othersOf (k :: ks) n = if k = n then othersOf ks n else nm k :: othersOf ks n := by
  unfold othersOf
  by_cases h : k = n
  · simp [h]
  · simp [h]
set_option maxHeartbeats 2000000 in
theorem log_removeOthers (h : LZ w0 w p q ds R z) (hlim : z.1.lim + 400 ≤ 549755813888) (hst : z.1.steps.length + 400 ≤ 549755813888) {ks : List Nat} {dr : Bool} (hk : NamesOk z.1.seen ks dr) (hkl : ks.length ≤ 100) (n : Nat) (hn : n < 100) :
    Calls Tryz.prog 40 #[.pointer (some ⟨q, 0, none⟩), .string (ba (nm n))] w fun e w' => e = .returned (.int .i64 ((mRmOthers (othersOf ks n) z).2 : Nat)) ∧ LZ w0 w' p q ds R (mRmOthers (othersOf ks n) z).1 := by
  obtain ⟨tv, ⟨c0, c1, c2, c3, c4, c5, fz⟩, _⟩ := h.1.cel
  rw [h.2] at c0
  obtain ⟨bs, hS⟩ := h.1.sys
  have hsn := log_segmentNames hS (by omega) hk
  have HH := hid h
  have HKS := hid hk.2
  clear h hS hk c1 c2 c3 c4 c5 fz
  obtain ⟨s, x⟩ := z
  simp only at *
  go_enter Tryz.func40, Tryz.ntmps40
  go_wp2_with (go_at_call 46; refine hsn.mono ?_; rintro e w1 ⟨ad, len, cap, rfl, hF, hnew, hb1⟩; have HF := hid hF; have HNEW := hid hnew; have HB1 := hid hb1; have hlen := hF.hlen; have hlen2 := namesOf_len ks false; have hm1 := hF.hle; have hm2 := hF.hmax; clear hF hb1 hnew)
  simp only [Bool.false_eq_true, if_false, Nat.add_zero] at hlen2
  rw [hlen2] at hlen
  have hm : len ≤ 9223372036854775807 := by unfold maxLen at hm2; omega
  clear hlen2 hm1 hm2
  -- the row of names is kept as a box
  obtain ⟨R', hR', hrow⟩ : ∃ R' : Bxs, LZ w0 w1 p q ds R' (s, x) ∧ (∀ V zz, LZ w0 V p q ds R' zz → (∀ (i k : Nat), ks[i]? = some k → ∃ g, ad = some ⟨g, 0, none⟩ ∧ V.cell? ⟨g, i, none⟩ = some (.string (ba (nm k)))) ∧ LZ w0 V p q ds R zz) := by
    by_cases h0 : 0 < len
    · obtain ⟨g, cur, hg, hgg, hcc⟩ := HF.out.hrow h0
      refine ⟨(g, .cells cur 9 (0, 0)) :: R, ⟨HH.out.1.more HB1.out (HNEW.out g hg) hgg, HH.out.2⟩, fun V zz hV => ⟨fun i k hik => ⟨g, hg, ?_⟩, hV.1.drop (fun y hy => List.mem_cons_of_mem _ hy) (List.sublist_cons_self _ _), hV.2⟩⟩
      have hb := hV.1.box (List.mem_cons_self ..)
      exact (K.cell_row hb i).trans (hcc i _ (namesOf_at hik))
    · refine ⟨R, HH.out.below HB1.out, fun V zz hV => ⟨fun i k hik => ?_, hV⟩⟩
      have := (List.getElem?_eq_some_iff.1 hik).1
      omega
  have HROW := hid hrow
  have HR' := hid hR'
  clear hrow hR'
  go_loopw [14] (fun i wr => ∃ (k : Nat) (sk : K.St), k ≤ len ∧ i = .int .i64 k ∧ Hid (LZ w0 wr p q ds R' (sk, x)) ∧ Hid (rmList (othersOf (ks.drop k) n) sk = rmList (othersOf ks n) s) ∧ Hid (sk.lim ≤ s.lim + 2 * k ∧ sk.steps.length ≤ s.steps.length + k)) (fun i _ => len - (intOf i).toNat)
  case atStart => exact ⟨0, s, Nat.zero_le _, rfl, HR', hid rfl, hid ⟨by omega, by omega⟩⟩
  case round =>
    obtain ⟨k, sk, hk, rfl, HZ, HRM, HLM⟩ := hrel
    by_cases hlt : k < len
    · obtain ⟨y, hy⟩ : ∃ y, ks[k]? = some y := ⟨_, List.getElem?_eq_getElem (by omega)⟩
      obtain ⟨y1, y2⟩ := HKS.out y (List.mem_of_getElem? hy)
      obtain ⟨g, rfl, hcell⟩ := (HROW.out wr _ HZ.out).1 k y hy
      have hd : ks.drop k = y :: ks.drop (k + 1) := by
        obtain ⟨hk', e⟩ := List.getElem?_eq_some_iff.1 hy
        rw [← e]; exact List.drop_eq_getElem_cons hk'
      obtain ⟨e0, e9, -, e3, -, -, -⟩ := (fun (x : Cel wr q x _) => x) ((HZ.out.1.cel).choose_spec.1)
      rw [show x.disk = p from HZ.out.2] at e0
      have hrm := HRM.out
      rw [hd, othersOf_cons] at hrm
      have hcmp := Q.beq_ba (nm y) (nm n)
      by_cases hyn : y = n
      · rw [if_pos hyn] at hrm
        have hcm : ((ba (nm y)).toList == (ba (nm n)).toList) = true := by rw [hcmp, hyn]; simp
        have HRM2 := hid hrm
        clear hd hrm hcmp hyn hy e9 e3
        go_wp2
        go_roundw
        case rel => exact ⟨k + 1, sk, by omega, by go_num, HZ, HRM2, hid ⟨by have := HLM.out.1; omega, by have := HLM.out.2; omega⟩⟩
        case measure => simp [intOf]; omega
      · rw [if_neg hyn] at hrm
        have hcm : ((ba (nm y)).toList == (ba (nm n)).toList) = false := by rw [hcmp]; simp; exact fun e => hyn (nm_inj y2 hn e)
        have hlm := HLM.out
        have hcall : Calls Tryz.prog 60 #[.pointer (some ⟨p, 0, none⟩), .string (ba (nm y))] wr fun e w' => e = .returned (.int .i64 ((sk.remove (nm y)).2 : Nat)) ∧ LZ w0 w' p q ds R' ((sk.remove (nm y)).1, x) :=
          lz_call (z := (sk, x)) HZ.out (fun bs hS => K.sys_Remove hS (nm y) (by have := (nm_fin ⟨y, y2⟩).1; simp only at this; omega) (by simp only; omega) (by simp only; omega))
        have hl2 := K.St.remove_lim sk (nm y)
        have hs2 := remove_steps sk (nm y)
        rw [rmList_cons] at hrm
        by_cases h0 : (sk.remove (nm y)).2 = 0
        · rw [if_neg (fun h => h h0)] at hrm
          rw [h0] at hcall
          have HRM2 := hid hrm
          have HL2 := hid hl2
          have HS2 := hid hs2
          have HLK := hid hlm
          clear hd hrm hcmp hyn hy h0 hl2 hs2 hlm e9 e3
          generalize (sk.remove (nm y)).1 = sn at *
          go_wp2_with (go_at_call 60; refine hcall.mono ?_; rintro e w2 ⟨rfl, hz⟩; have HZ2 := hid hz; clear hz)
          go_roundw
          case rel => exact ⟨k + 1, sn, by omega, by go_num, HZ2, HRM2, hid ⟨by have := HLK.out.1; have := HL2.out; omega, by have := HLK.out.2; have := HS2.out; omega⟩⟩
          case measure => simp [intOf]; omega
        · rw [if_pos h0] at hrm
          have HRM2 := hid hrm
          clear hd hrm hcmp hyn hy hl2 hs2 hlm e9 e3
          generalize (sk.remove (nm y)).1 = sn at *
          generalize (sk.remove (nm y)).2 = m at *
          have hq1 : ((m : Int) != 0) = true := by simp; omega
          have hq2 : ((m : Int) == 0) = false := by simp; omega
          go_wp2_with (go_at_call 60; refine hcall.mono ?_; rintro e w2 ⟨rfl, hz⟩; have HZ2 := hid hz; clear hz)
          go_ret
          simp only [mRmOthers, ← HRM2.out]
          exact ⟨rfl, (HROW.out _ _ HZ2.out).2⟩
    · obtain rfl : k = len := by omega
      have hrm := HRM.out
      have hd : ks.drop k = [] := List.drop_eq_nil_of_le (by omega)
      rw [hd] at hrm
      have HRM2 := hid hrm
      clear hd hrm
      go_wp2
      go_ret
      simp only [mRmOthers, ← HRM2.out]
      exact ⟨rfl, (HROW.out _ _ HZ.out).2⟩
end
end Go.Proofs.YtcioomlhdaihkaaGreatDoor.L

namespace Go.Proofs.YtcioomlhdaihkaaGreatDoor.L
set_option linter.unusedVariables false
set_option linter.unusedSimpArgs false
set_option maxRecDepth 100000
open Go Go.RowKit Go.Maps Go.MapKept Go.ChangeMaps Go.Shelf Wire
open K (Gh Ext Dom noX Jd Steady)

def ptrO (q : Nat) : Obj := .cells #[.pointer (some ⟨q, 0, none⟩)] 33 (0, 0)
def strO (n : Bs) : Obj := .cells #[.string (ba n)] 9 (0, 0)
section
variable {w0 w : World} {p q : Nat} {z : Z} {ds : List (Nat × K.St)} {Rb : Bxs}
theorem LZ.ptr (h : LZ w0 w p q ds Rb z) {b : Nat} (hb : (b, ptrO q) ∈ Rb) : w.cell? ⟨b, 0, none⟩ = some (.pointer (some ⟨q, 0, none⟩)) := (K.cell_row (h.1.box hb) 0).trans rfl
theorem LZ.str (h : LZ w0 w p q ds Rb z) {b : Nat} {n : Bs} (hb : (b, strO n) ∈ Rb) : w.cell? ⟨b, 0, none⟩ = some (.string (ba n)) := (K.cell_row (h.1.box hb) 0).trans rfl
theorem drew_cell (w : World) (a : Addr) : w.drew.cell? a = w.cell? a := rfl

theorem log_Append1 (h : LZ w0 w p q ds Rb z) {b0 b1 b2 : Nat} {n c : Bs} (hb0 : (b0, ptrO q) ∈ Rb) (hb1 : (b1, strO n) ∈ Rb) (hb2 : (b2, strO c) ∈ Rb) (hn : n.length ≤ 1000) (hlim : z.1.lim + 2 * (1 + c.length) ≤ 549755813888) (hst : z.1.steps.length ≤ 549755813888) :
    Calls Tryz.prog 29 #[.pointer (some ⟨b0, 0, none⟩), .pointer (some ⟨b1, 0, none⟩), .pointer (some ⟨b2, 0, none⟩)] w fun e w' => e = .returned (.int .i64 ((mAppend n c z).2 : Nat)) ∧ LZ w0 w' p q ds Rb (mAppend n c z).1 := by
  have k0 := h.ptr hb0
  have k1 := h.str hb1
  have k2 := h.str hb2
  obtain ⟨tv, ⟨c0, -, -, -, -, -, -⟩, _⟩ := h.1.cel
  rw [h.2] at c0
  have hcall : ∀ V, Below w.heap.size w V → Calls Tryz.prog 30 #[.pointer (some ⟨p, 0, none⟩), .string (ba n), .string (ba c)] V fun e w' => e = .returned (.int .i64 ((mAppend n c z).2 : Nat)) ∧ LZ w0 w' p q ds Rb (mAppend n c z).1 := fun V hV =>
    lz_call (h.below hV) (fun bs hS => K.sys_Append hS n c (by omega) (by omega) hlim hst)
  have hlt0 := World.block_lt_of_cell? w _ k0
  have hlt1 := World.block_lt_of_cell? w _ k1
  have hlt2 := World.block_lt_of_cell? w _ k2
  have hltq := World.block_lt_of_cell? w _ c0
  clear h
  go_enter Tryz.func29, Tryz.ntmps29
  go_wp2
  refine R.wp_chain [6] (fun k u V => match k with | 0 => Below w.heap.size w V | _ => LZ w0 V p q ds Rb (mAppend n c z).1)
    (fun i _ => [.pointer (some ⟨q, 0, none⟩), .pointer (some ⟨q, 0, none⟩), .pointer (some ⟨q, 0, none⟩), .pointer (some ⟨p, 0, none⟩), .string (ba n), .string (ba c), .int .i64 ((mAppend n c z).2 : Nat), .int .i64 ((mAppend n c z).2 : Nat)].getD i undef) (fun _ => undef) 11 (by kernel_rfl) (by kernel_rfl) rfl (by kernel_rfl) (by kernel_rfl) ?_ ?_ ((Below.refl _ w).drew) ?_
  · simp only [R.HVs, R.HV]
    repeat' (first | trivial | refine And.intro ?_ ?_ | exact fun _ _ _ => rfl)
  · refine ⟨?_, ?_, ?_, ?_, ?_, ?_, ?_, ?_, trivial⟩
    · refine R.l_load _ _ (fun _ => ⟨b0, 0, none⟩) rfl (by kernel_rfl) rfl rfl Tryz.underlying33 rfl (R.ev_base (by kernel_rfl) rfl) (fun k u V _ hhi hP => ?_)
      have hh : k ≤ 0 := hhi
      obtain rfl : k = 0 := by omega
      exact (Below.cell hP (p := ⟨b0, 0, none⟩) hlt0).trans k0
    · refine R.l_read (by kernel_rfl) rfl rfl (fun k u a V _ _ hb hv hP => ?_)
      have e1 : a.eval (.tmp 4) = .pointer (some ⟨q, 0, none⟩) := (R.eval_at (i := 0) rfl).trans (hv 0 (by kernel_rfl))
      unfold execOp
      simp only [e1]
      first | rfl | simp [go_sem]
    · refine R.l_read (by kernel_rfl) rfl rfl (fun k u a V _ _ hb hv hP => ?_)
      have e1 : a.eval (.tmp 5) = .pointer (some ⟨q, 0, none⟩) := (R.eval_at (i := 1) rfl).trans (hv 1 (by kernel_rfl))
      unfold execOp
      simp only [e1]
      first | rfl | simp [go_sem]
    · refine R.l_load _ _ (fun _ => ⟨q, 0, none⟩) rfl (by kernel_rfl) rfl rfl Tryz.underlying27 rfl (R.ev_at (i := 2) rfl (by kernel_rfl)) (fun k u V _ hhi hP => ?_)
      have hh : k ≤ 0 := hhi
      obtain rfl : k = 0 := by omega
      exact (Below.cell hP (p := ⟨q, 0, none⟩) hltq).trans c0
    · refine R.l_load _ _ (fun _ => ⟨b1, 0, none⟩) rfl (by kernel_rfl) rfl rfl Tryz.underlying9 rfl (R.ev_base (by kernel_rfl) rfl) (fun k u V _ hhi hP => ?_)
      have hh : k ≤ 0 := hhi
      obtain rfl : k = 0 := by omega
      exact (Below.cell hP (p := ⟨b1, 0, none⟩) hlt1).trans k1
    · refine R.l_load _ _ (fun _ => ⟨b2, 0, none⟩) rfl (by kernel_rfl) rfl rfl Tryz.underlying9 rfl (R.ev_base (by kernel_rfl) rfl) (fun k u V _ hhi hP => ?_)
      have hh : k ≤ 0 := hhi
      obtain rfl : k = 0 := by omega
      exact (Below.cell hP (p := ⟨b2, 0, none⟩) hlt2).trans k2
    · refine R.l_call (p := 0) (by kernel_rfl) rfl (fun u a V hb hv hP => ?_)
      have e1 : a.eval (.tmp 7) = .pointer (some ⟨p, 0, none⟩) := (R.eval_at (i := 3) rfl).trans (hv 3 (by kernel_rfl))
      have e2 : a.eval (.tmp 8) = .string (ba n) := (R.eval_at (i := 4) rfl).trans (hv 4 (by kernel_rfl))
      have e3 : a.eval (.tmp 9) = .string (ba c) := (R.eval_at (i := 5) rfl).trans (hv 5 (by kernel_rfl))
      refine ⟨_, _, by unfold execOp; simp only [resolve, invoke, Sem.run_bind, Sem.run_pure, Result.andThen_ok, List.map_toArray, List.map_cons, List.map_nil, e1, e2, e3]; rfl, ?_⟩
      refine (hcall V hP).mono ?_
      rintro e w' ⟨rfl, hz⟩
      exact ⟨_, rfl, hz, rfl⟩
    · exact R.l_move _ (.inr rfl) (by kernel_rfl) rfl rfl (R.ev_at (i := 6) rfl (by kernel_rfl))
  · intro u V hP
    simp only [R.fill, List.getD_cons_zero, List.getD_cons_succ, List.setIfInBounds_toArray, List.set_cons_zero, List.set_cons_succ]
    simp only [Exit.then]
    go_at_K
    go_wp2
    go_ret
    exact ⟨rfl, hP⟩

theorem log_Snapshot1 (h : LZ w0 w p q ds Rb z) {b0 b1 : Nat} {n : Bs} (hb0 : (b0, ptrO q) ∈ Rb) (hb1 : (b1, strO n) ∈ Rb) (hn : n.length ≤ 1000) (hlim : z.1.lim + 2 ≤ 549755813888) (hst : z.1.steps.length ≤ 549755813888) :
    Calls Tryz.prog 37 #[.pointer (some ⟨b0, 0, none⟩), .pointer (some ⟨b1, 0, none⟩)] w fun e w' => e = .returned (.int .i64 ((mRename n z).2 : Nat)) ∧ LZ w0 w' p q ds Rb (mRename n z).1 := by
  have k0 := h.ptr hb0
  have k1 := h.str hb1
  obtain ⟨tv, ⟨c0, -, -, -, -, -, -⟩, _⟩ := h.1.cel
  rw [h.2] at c0
  have hcall : ∀ V, Below w.heap.size w V → Calls Tryz.prog 38 #[.pointer (some ⟨p, 0, none⟩), .string (ba [108, 111, 103, 46, 110, 101, 119]), .string (ba n)] V fun e w' => e = .returned (.int .i64 ((mRename n z).2 : Nat)) ∧ LZ w0 w' p q ds Rb (mRename n z).1 := fun V hV =>
    lz_call (h.below hV) (fun bs hS => K.sys_Rename hS draft n (by simp [draft]) (by omega) hlim hst)
  have hlt0 := World.block_lt_of_cell? w _ k0
  have hlt1 := World.block_lt_of_cell? w _ k1
  have hltq := World.block_lt_of_cell? w _ c0
  clear h
  go_enter Tryz.func37, Tryz.ntmps37
  go_wp2
  refine R.wp_chain [5] (fun k u V => match k with | 0 => Below w.heap.size w V | _ => LZ w0 V p q ds Rb (mRename n z).1)
    (fun i _ => [.pointer (some ⟨q, 0, none⟩), .pointer (some ⟨q, 0, none⟩), .pointer (some ⟨q, 0, none⟩), .pointer (some ⟨p, 0, none⟩), .string (ba n), .int .i64 ((mRename n z).2 : Nat), .int .i64 ((mRename n z).2 : Nat)].getD i undef) (fun _ => undef) 9 (by kernel_rfl) (by kernel_rfl) rfl (by kernel_rfl) (by kernel_rfl) ?_ ?_ ((Below.refl _ w).drew) ?_
  · simp only [R.HVs, R.HV]
    repeat' (first | trivial | refine And.intro ?_ ?_ | exact fun _ _ _ => rfl)
  · refine ⟨?_, ?_, ?_, ?_, ?_, ?_, ?_, trivial⟩
    · refine R.l_load _ _ (fun _ => ⟨b0, 0, none⟩) rfl (by kernel_rfl) rfl rfl Tryz.underlying33 rfl (R.ev_base (by kernel_rfl) rfl) (fun k u V _ hhi hP => ?_)
      have hh : k ≤ 0 := hhi
      obtain rfl : k = 0 := by omega
      exact (Below.cell hP (p := ⟨b0, 0, none⟩) hlt0).trans k0
    · refine R.l_read (by kernel_rfl) rfl rfl (fun k u a V _ _ hb hv hP => ?_)
      have e1 : a.eval (.tmp 3) = .pointer (some ⟨q, 0, none⟩) := (R.eval_at (i := 0) rfl).trans (hv 0 (by kernel_rfl))
      unfold execOp
      simp only [e1]
      first | rfl | simp [go_sem]
    · refine R.l_read (by kernel_rfl) rfl rfl (fun k u a V _ _ hb hv hP => ?_)
      have e1 : a.eval (.tmp 4) = .pointer (some ⟨q, 0, none⟩) := (R.eval_at (i := 1) rfl).trans (hv 1 (by kernel_rfl))
      unfold execOp
      simp only [e1]
      first | rfl | simp [go_sem]
    · refine R.l_load _ _ (fun _ => ⟨q, 0, none⟩) rfl (by kernel_rfl) rfl rfl Tryz.underlying27 rfl (R.ev_at (i := 2) rfl (by kernel_rfl)) (fun k u V _ hhi hP => ?_)
      have hh : k ≤ 0 := hhi
      obtain rfl : k = 0 := by omega
      exact (Below.cell hP (p := ⟨q, 0, none⟩) hltq).trans c0
    · refine R.l_load _ _ (fun _ => ⟨b1, 0, none⟩) rfl (by kernel_rfl) rfl rfl Tryz.underlying9 rfl (R.ev_base (by kernel_rfl) rfl) (fun k u V _ hhi hP => ?_)
      have hh : k ≤ 0 := hhi
      obtain rfl : k = 0 := by omega
      exact (Below.cell hP (p := ⟨b1, 0, none⟩) hlt1).trans k1
    · refine R.l_call (p := 0) (by kernel_rfl) rfl (fun u a V hb hv hP => ?_)
      have e1 : a.eval (.tmp 6) = .pointer (some ⟨p, 0, none⟩) := (R.eval_at (i := 3) rfl).trans (hv 3 (by kernel_rfl))
      have e2 : a.eval (.tmp 7) = .string (ba n) := (R.eval_at (i := 4) rfl).trans (hv 4 (by kernel_rfl))
      refine ⟨_, _, by unfold execOp; simp only [resolve, invoke, Sem.run_bind, Sem.run_pure, Result.andThen_ok, List.map_toArray, List.map_cons, List.map_nil, e1, e2]; rfl, ?_⟩
      refine (hcall V hP).mono ?_
      rintro e w' ⟨rfl, hz⟩
      exact ⟨_, rfl, hz, rfl⟩
    · exact R.l_move _ (.inr rfl) (by kernel_rfl) rfl rfl (R.ev_at (i := 5) rfl (by kernel_rfl))
  · intro u V hP
    simp only [R.fill, List.getD_cons_zero, List.getD_cons_succ, List.setIfInBounds_toArray, List.set_cons_zero, List.set_cons_succ]
    simp only [Exit.then]
    go_at_K
    go_wp2
    go_ret
    exact ⟨rfl, hP⟩
theorem log_Snapshot2 (h : LZ w0 w p q ds Rb z) {b0 b1 : Nat} {n : Nat} (hb0 : (b0, ptrO q) ∈ Rb) (hb1 : (b1, strO (nm n)) ∈ Rb) (hlim : z.1.lim + 400 ≤ 549755813888) (hst : z.1.steps.length + 400 ≤ 549755813888) {ks : List Nat} {dr : Bool} (hk : NamesOk z.1.seen ks dr) (hkl : ks.length ≤ 100) (hn : n < 100) :
    Calls Tryz.prog 39 #[.pointer (some ⟨b0, 0, none⟩), .pointer (some ⟨b1, 0, none⟩)] w fun e w' => e = .returned (.int .i64 ((mRmOthers (othersOf ks n) z).2 : Nat)) ∧ LZ w0 w' p q ds Rb (mRmOthers (othersOf ks n) z).1 := by
  have k0 := h.ptr hb0
  have k1 := h.str hb1
  have hr := log_removeOthers h hlim hst hk hkl n hn
  go_enter Tryz.func39, Tryz.ntmps39
  go_wp2_with (go_at_call 40; refine hr.mono ?_; rintro e w' ⟨rfl, hz⟩)
  go_ret
  exact ⟨rfl, hz⟩

/-! ### steps in a row -/
/-- Steps as functions, until one tells an error. -/
def runL : List (Z → Z × Nat) → Z → Z × Nat
  | [], z => (z, 0)
  | m :: r, z => if (m z).2 = 0 then runL r (m z).1 else m z
theorem chn_cons {Φ : World → Z → Prop} {v : Value} {r : List Value} {m : Z → Z × Nat} {ms : List (Z → Z × Nat)} {z : Z} (h : ∀ w, Φ w z → CallsV v w fun e w' => e = .returned (.int .i64 ((m z).2 : Nat)) ∧ Φ w' (m z).1) (hr : (m z).2 = 0 → Chn Φ r (m z).1 (runL ms (m z).1)) : Chn Φ (v :: r) z (runL (m :: ms) z) := by
  unfold runL
  by_cases h0 : (m z).2 = 0
  · rw [if_pos h0]
    rw [h0] at h
    exact .step h (hr h0)
  · rw [if_neg h0]
    exact .stop h h0
def syncV (q : Nat) : Value := .func (.func 33) #[.pointer (some ⟨q, 0, none⟩)] #[]
theorem callsV_sync {z : Z} (hlim : z.1.lim ≤ 549755813888) : ∀ w, LZ w0 w p q ds Rb z → CallsV (syncV q) w fun e w' => e = .returned (.int .i64 ((mSync z).2 : Nat)) ∧ LZ w0 w' p q ds Rb (mSync z).1 :=
  fun w h => ⟨_, _, _, rfl, enters_of Tryz.func33 (by kernel_rfl) rfl, log_sync h hlim⟩

/-- A sync of a log. -/
def mSyncL (z : Z) : Z × Nat := if z.2.broken then (z, 9) else (brk (mSync z), (mSync z).2)
theorem runL_one (m : Z → Z × Nat) (z : Z) : runL [m] z = m z := by
  unfold runL
  by_cases h : (m z).2 = 0
  · rw [if_pos h]; unfold runL; exact Prod.ext rfl h.symm
  · rw [if_neg h]
set_option maxHeartbeats 1000000 in
theorem log_Sync (h : LZ w0 w p q ds Rb z) (hlim : z.1.lim ≤ 549755813888) :
    Calls Tryz.prog 14 #[.pointer (some ⟨q, 0, none⟩)] w fun e w' => e = .returned (.int .i64 ((mSyncL z).2 : Nat)) ∧ LZ w0 w' p q ds Rb (mSyncL z).1 := by
  have hrf := log_refuses h.1
  unfold mSyncL
  cases hb : z.2.broken with
  | true =>
    rw [hb] at hrf
    simp only [if_true] at hrf ⊢
    go_enter Tryz.func14, Tryz.ntmps14
    go_wp2_with (go_at_call 26; refine hrf.mono ?_; rintro e w' ⟨rfl, rfl⟩)
    go_ret
    exact ⟨rfl, h⟩
  | false =>
    rw [hb] at hrf
    simp only [Bool.false_eq_true, if_false] at hrf ⊢
    have hz1 : LZ w0 (w.alloc (.cells #[syncV q] 42)) p q ds ((w.heap.size, .cells [syncV q].toArray 42 (0, 0)) :: Rb) z :=
      ⟨h.1.more ((Below.refl _ w).alloc (Nat.le_refl _) _) (Nat.le_refl _) (heap_alloc_last w _), h.2⟩
    have hch : Chn (fun V z => LZ w0 V p q ds ((w.heap.size, .cells [syncV q].toArray 42 (0, 0)) :: Rb) z) [syncV q] z (runL [mSync] z) :=
      chn_cons (callsV_sync hlim) (fun _ => .nil _)
    have hex := log_execute w.heap.size [syncV q] (by simp) (List.mem_cons_self ..) hz1 hch
    rw [runL_one] at hex
    have hex2 : Calls Tryz.prog 28 #[.pointer (some ⟨q, 0, none⟩), .slice (some ⟨w.heap.size, 0, none⟩) 1 1] (w.alloc (.cells #[.func (.func 33) #[.pointer (some ⟨q, 0, none⟩)] #[]] 42)) fun e w' => e = .returned (.int .i64 ((mSync z).2 : Nat)) ∧ LZ w0 w' p q ds ((w.heap.size, .cells [syncV q].toArray 42 (0, 0)) :: Rb) (brk (mSync z)) := hex
    clear hex hch hz1 h
    go_enter Tryz.func14, Tryz.ntmps14
    go_wp2_with (first
      | (go_at_call 26; refine hrf.mono ?_; rintro e w' ⟨rfl, rfl⟩)
      | (go_at_call 28; refine hex2.mono ?_; rintro e w1 ⟨rfl, hz⟩))
    go_ret
    exact ⟨rfl, hz.1.drop (fun y hy => List.mem_cons_of_mem _ hy) (List.sublist_cons_self _ _), hz.2⟩
end
end Go.Proofs.YtcioomlhdaihkaaGreatDoor.L
