/-
  The law's own logs.
-/
import Derived.Test.YtcioomlhdaihkaaGreatDoorWI
namespace Go.Proofs.YtcioomlhdaihkaaGreatDoor.L
set_option linter.unusedVariables false
set_option linter.unusedSimpArgs false
set_option maxRecDepth 100000
open Go Go.RowKit Go.Maps Go.MapKept Go.ChangeMaps Go.Shelf Wire
open K (Gh Ext Dom noX Jd Steady)

theorem sv_lit {V : World} {g : Nat} {l : List Bs} (h : V.heap[g]? = some (.cells (Q.strCells l).toArray 9 (0, 0))) (hl : l.length ≤ maxLen) : Q.SV V (.slice (some ⟨g, 0, none⟩) l.length l.length) l :=
  ⟨_, l.length, l.length, rfl, rfl, Nat.le_refl _, hl, fun h => (by cases h), fun i y hy => ⟨_, rfl, by
    rw [Addr.add_lit, Nat.zero_add, K.cell_row h i]
    simp [Q.strCells, hy]⟩⟩
section
variable {w0 w W : World} {p q : Nat} {z : Z} {ds : List (Nat × K.St)} {Rb : Bxs} {N : Nat} {A : List Sg} {dr : Option Bs} {S : List Bs}
/-- Strings that are written out are appended. -/
theorem app_lit (hz : LZ w0 W p q ds Rb z) (hu : Up N A dr z) (htab : Tab w0) (hr : Room z.1) (hN : N + 1 < 100) (hW : wgt (z.2.texts ++ S) ≤ 900) (hlim : z.2.limit ≤ 1048576) {z' : Z} (hf : mApp (nums A) S z = (z', 0)) :
    Calls Tryz.prog 13 #[.pointer (some ⟨q, 0, none⟩), .slice (some ⟨W.heap.size, 0, none⟩) S.length S.length] (W.alloc (.cells (Q.strCells S).toArray 9)) fun e w' => e = .returned (.int .i64 0) ∧ LZ w0 w' p q ds Rb z' := by
  have hz2 : LZ w0 (W.alloc (.cells (Q.strCells S).toArray 9)) p q ds ((W.heap.size, .cells (Q.strCells S).toArray 9 (0, 0)) :: Rb) z :=
    ⟨hz.1.more ((Below.refl _ W).alloc (Nat.le_refl _) _) (Nat.le_refl _) (heap_alloc_last W _), hz.2⟩
  have hl : S.length ≤ 900 := by have := wgt_len S; rw [wgt_app] at hW; omega
  refine (call_Append hz2 hu htab hr hN hW hlim (fun V zz hV => sv_lit (hV.1.box (List.mem_cons_self ..)) (by unfold maxLen; omega))).mono ?_
  rw [hf]
  rintro e w' ⟨rfl, hz3⟩
  exact ⟨rfl, hz3.1.drop (fun y hy => List.mem_cons_of_mem _ hy) (List.sublist_cons_self _ _), hz3.2⟩
/-- Names, kept as a box. -/
theorem keep_names {l : List Bs} {len cap : Nat} {ad : Option Addr} {w' : World} (hz : LZ w0 w p q ds Rb z) (hF : IsF w' ad len cap l) (hnew : ∀ g, ad = some ⟨g, 0, none⟩ → w.heap.size ≤ g) (h0 : 0 < len) (hb : Below w.heap.size w w') :
    ∃ y : Nat × Obj, LZ w0 w' p q ds (y :: Rb) z ∧ ∀ (V : World) (ds' : List (Nat × K.St)) (p' q' : Nat) (zz : Z) (Rb' : Bxs), y ∈ Rb' → LZ w0 V p' q' ds' Rb' zz → Q.SV V (.slice ad len cap) l := by
  obtain ⟨g, cur, e, hg, hc⟩ := hF.hrow h0
  refine ⟨(g, .cells cur 9 (0, 0)), ⟨hz.1.more hb (hnew g e) hg, hz.2⟩, fun V ds' p' q' zz Rb' hy hV => ?_⟩
  have hgV := hV.1.box hy
  exact IsF.sv ⟨hF.hlen, hF.hle, hF.hmax, hF.hnil, fun _ => ⟨g, cur, e, hgV, hc⟩⟩
/-- Strings that are told, kept as a box. -/
theorem keep_row {l : List Bs} {v : Value} {w' : World} (hz : LZ w0 w p q ds Rb z) (ho : OwnS w.heap.size w' v l) (hb : Below w.heap.size w w') : ∃ rb, LZ w0 w' p q ds (rb ++ Rb) z ∧ ∀ (V : World) (ds' : List (Nat × K.St)) (p' q' : Nat) (zz : Z) (Rb' : Bxs), (∀ y ∈ rb, y ∈ Rb') → LZ w0 V p' q' ds' Rb' zz → OwnS 0 V v l := by
  obtain ⟨rb, hrb, hz2⟩ := hz.keep ho hb
  exact ⟨rb, hz2, fun V ds' p' q' zz Rb' hs hV => hV.row hrb hs⟩
theorem snap_lit (hz : LZ w0 W p q ds Rb z) (hu : Up N A dr z) (htab : Tab w0) (hr : Room z.1) (hN : N + 1 < 100) {z' : Z} (hf : mSnap (nextNum (nums A)) (nums A ++ [nextNum (nums A)]) z = (z', 0)) :
    Calls Tryz.prog 15 #[.pointer (some ⟨q, 0, none⟩)] W fun e w' => e = .returned (.int .i64 0) ∧ LZ w0 w' p q ds Rb z' := by
  have h := call_Snapshot hz hu htab hr hN
  rw [hf] at h
  exact h
theorem same_lit {V : World} {v : Value} {l m : List Bs} (hv : Q.SV V v l) (hm : m.length ≤ 1000) :
    Calls Tryz.prog 16 #[v, .slice (some ⟨V.heap.size, 0, none⟩) m.length m.length] (V.alloc (.cells (Q.strCells m).toArray 9)) fun e w' => e = .returned (.bool (decide (l = m))) ∧ Below V.heap.size V w' := by
  have hb : Below V.heap.size V (V.alloc (.cells (Q.strCells m).toArray 9)) := (Below.refl _ V).alloc (Nat.le_refl _) _
  refine (Q.ref_Same l m _ _ _ (hv.keep hb) (sv_lit (heap_alloc_last V _) (by unfold maxLen; omega))).mono ?_
  rintro e w' ⟨rfl, hb2⟩
  exact ⟨rfl, below_next hb hb2⟩
theorem same_is {V : World} {v : Value} {m : List Bs} (hv : Q.SV V v m) (hm : m.length ≤ 1000) :
    Calls Tryz.prog 16 #[v, .slice (some ⟨V.heap.size, 0, none⟩) m.length m.length] (V.alloc (.cells (Q.strCells m).toArray 9)) fun e w' => e = .returned (.bool true) ∧ Below V.heap.size V w' := by
  have h := same_lit hv hm
  rw [decide_eq_true (rfl : m = m)] at h
  exact h
end
set_option maxHeartbeats 4000000 in
theorem law_head (w : World) (htab : Tab w) : Calls Tryz.prog 9 #[] w fun e w' => e = .returned (.bool true) ∧ Below w.heap.size w w' := by
  have hnw := K.sys_New (K.Sys.start w) 1000 (by omega)
  go_enter Tryz.func9, Tryz.ntmps9
  go_wp2_with (go_at_call 7; refine hnw.mono ?_; rintro e W0 ⟨p, rfl, hS0⟩; have hop := call_Open hS0 List.nodup_nil htab (new_ok' 1000 p 30).up.core ((new_ok' 1000 p 30).rm (by omega)) (by omega) 30 (by omega) (by omega))
  obtain ⟨z1, z2, z3, z4, z6, f1, o1, x1, f2, o2, x2, f3, o3, x3, f4, o4, x4, u4, f6, o6, x6⟩ := head_chain p
  clear hnw hS0
  go_wp2_with (go_at_call 10; refine hop.mono ?_; clear hop; rintro e W1 ⟨q, rfl, hz0⟩; have hap := app_lit (S := hT1) hz0 (new_ok' 1000 p 30).up htab ((new_ok' 1000 p 30).rm (by omega)) (by omega) (by show wgt ([] ++ hT1) ≤ 900; decide) (by show 30 ≤ 1048576; omega) f1)
  go_wp2_with (first
    | (go_at_call 13; refine hap.mono ?_; clear hap; rintro e W2 ⟨rfl, hz1⟩; have hnm := call_Names hz1 o1.up (o1.rm (by omega)) (by omega))
    | (go_at_call 20; refine hnm.mono ?_; clear hnm; rintro e W3 ⟨ad1, cap1, rfl, hF1, hn1, hb1⟩; have hz1' := hz1.below hb1; have hap := app_lit (S := [h20]) hz1' o1.up htab (o1.rm (by omega)) (by omega) (by rw [x1]; show wgt (hT1 ++ [h20]) ≤ 900; decide) (by rw [x1]; show 30 ≤ 1048576; omega) f2; clear hF1 hn1 hb1))
  go_wp2_with (first
    | (go_at_call 13; refine hap.mono ?_; clear hap; rintro e W4 ⟨rfl, hz2⟩; have hap := app_lit (S := [[99]]) hz2 o2.up htab (o2.rm (by omega)) (by omega) (by rw [x2]; show wgt (hT2 ++ [[99]]) ≤ 900; decide) (by rw [x2]; show 30 ≤ 1048576; omega) f3))
  go_wp2_with (first
    | (go_at_call 13; refine hap.mono ?_; clear hap; rintro e W5 ⟨rfl, hz3⟩; have hnm := call_Names hz3 o3.up (o3.rm (by omega)) (by omega))
    | (go_at_call 20; refine hnm.mono ?_; clear hnm; rintro e W6 ⟨ady, capy, rfl, hF, hn, hb⟩; obtain ⟨by_, hz3', hy⟩ := keep_names hz3 hF hn (by show 0 < 2; omega) hb; have hsn := snap_lit hz3' o3.up htab (o3.rm (by omega)) (by omega) f4; have HY := hid hy; clear hF hn hb hy))
  go_wp2_with (first
    | (go_at_call 15; refine hsn.mono ?_; clear hsn; rintro e W7 ⟨rfl, hz4⟩; have hnm := call_Names hz4 o4.up (o4.rm (by omega)) (by omega)))
  go_wp2_with (first
    | (go_at_call 20; refine hnm.mono ?_; clear hnm; rintro e W8 ⟨adz, capz, rfl, hF, hn, hb⟩; obtain ⟨bz, hz4', hy⟩ := keep_names hz4 hF hn (by show 0 < 1; omega) hb; have htx := call_Texts hz4' o4.up.core.wt; have HZN := hid hy; clear hF hn hb hy)
    | (go_at_call 17; refine htx.mono ?_; clear htx; rintro e W9 ⟨tv, rfl, ho, hb⟩; obtain ⟨br, hz4'', hy⟩ := keep_row hz4' ho hb; obtain ⟨tva, tvc, rfl⟩ := Q.out_form ho; obtain ⟨lv, lb, _, _, hS4, hN4⟩ := hz4''.boxes; have hop := call_Open hS4 hN4 htab o4.up.core (o4.rm (by omega)) (by omega) 30 (by omega) (by omega); have HTX := hid hy; clear ho hb hy hS4 hN4)
    | (go_at_call 10; refine hop.mono ?_; clear hop; rintro e W10 ⟨q2, rfl, hz5⟩; have hap := app_lit (S := [[100]]) hz5 (open_ok o4 p 30).up htab ((open_ok o4 p 30).rm (by omega)) (by omega) (by show wgt (z4.2.texts ++ [[100]]) ≤ 900; rw [x4]; show wgt (hT3 ++ [[100]]) ≤ 900; decide) (by show 30 ≤ 1048576; omega) (by rw [x4]; exact f6)))
  go_wp2_with (first
    | (go_at_call 13; refine hap.mono ?_; clear hap; rintro e W11 ⟨rfl, hz6⟩; have hnm := call_Names hz6 o6.up (o6.rm (by omega)) (by omega)))
  go_wp2_with (first
    | (go_at_call 20; refine hnm.mono ?_; clear hnm; rintro e W12 ⟨adw, capw, rfl, hF, hn, hb⟩; obtain ⟨bw, hz6', hy⟩ := keep_names hz6 hF hn (by show 0 < 2; omega) hb; have HW := hid hy; have hopn := log_Open_nil 30 W12; obtain ⟨bs6, hS6⟩ := hz6'.1.sys; have hopb := log_Open_bad hS6 (by have := (o6.rm (by omega)).lim; omega) 0 (.inl (by omega)); clear hF hn hb hy hS6)
    | (go_at_call 10; refine hopn.mono ?_; clear hopn; rintro e w' ⟨rfl, rfl⟩)
    | (go_at_call 10; refine hopb.mono ?_; clear hopb; rintro e w' ⟨rfl, rfl⟩))
  have svy : Q.SV W12 (.slice ady (nums hA3).length capy) [nm 1, nm 2] := HY.out W12 _ _ _ _ _ (by simp) hz6'
  have svz : Q.SV W12 (.slice adz (nums hA4).length capz) [nm 3] := HZN.out W12 _ _ _ _ _ (by simp) hz6'
  have svw : Q.SV W12 (.slice adw (nums hA5).length capw) [nm 3, nm 4] := HW.out W12 _ _ _ _ _ (by simp) hz6'
  have svt : Q.SV W12 (.slice tva hT3.length tvc) hT3 := by
    have h9 := Q.OutV.sv (HTX.out W12 _ _ _ _ _ (fun y hy => by simp [hy]) hz6')
    rw [x4] at h9
    exact h9
  have HSZ := hid svz
  have HSW := hid svw
  have HST := hid svt
  have hs1 := same_is (m := [nm 1, nm 2]) svy (by simp)
  have HLZ := hid hz6'
  clear svy svz svw svt hz6' hz0 hz1 hz1' hz2 hz3 hz3' hz4 hz4' hz4'' hz5 hz6
  go_wp2_with (first
    | (go_at_call 16; refine hs1.mono ?_; clear hs1; rintro e W13 ⟨rfl, hb13⟩; have hs2 := same_is (m := [nm 3]) (HSZ.out.keep hb13) (by simp)))
  go_wp2_with (first
    | (go_at_call 16; refine hs2.mono ?_; clear hs2; rintro e W14 ⟨rfl, hb⟩; have hb14 := hb13.trans (hb.mono hb13.size); have hs3 := same_is (m := [nm 3, nm 4]) (HSW.out.keep hb14) (by simp); clear hb))
  go_wp2_with (first
    | (go_at_call 16; refine hs3.mono ?_; clear hs3; rintro e W15 ⟨rfl, hb⟩; have hb15 := hb14.trans (hb.mono hb14.size); have hs4 := same_is (m := hT3) (HST.out.keep hb15) (by decide); clear hb))
  go_wp2_with (first
    | (go_at_call 16; refine hs4.mono ?_; clear hs4; rintro e W16 ⟨rfl, hb⟩; have hb16 := hb15.trans (hb.mono hb15.size); have hz := HLZ.out.below hb16; have hsy := call_Synced hz; rw [x6] at hsy; have HFIN := hid hz.1.low; clear hb hz)
    | (go_at_call 11; refine hsy.mono ?_; clear hsy; rintro e w' ⟨rfl, rfl⟩))
  go_ret
  exact ⟨rfl, HFIN.out⟩
end Go.Proofs.YtcioomlhdaihkaaGreatDoor.L

namespace Go.Proofs.YtcioomlhdaihkaaGreatDoor.L
set_option linter.unusedVariables false
set_option linter.unusedSimpArgs false
set_option maxRecDepth 100000
open Go Go.RowKit Go.Maps Go.MapKept Go.ChangeMaps Go.Shelf Wire
open K (Gh Ext Dom noX Jd Steady)

theorem log_Append_nil (v : Value) (w : World) : Calls Tryz.prog 13 #[.pointer none, v] w fun e w' => e = .returned (.int .i64 1) ∧ Below w.heap.size w w' := by
  go_enter Tryz.func13, Tryz.ntmps13
  go_wp2_with (go_at_call 26; refine (log_refuses_nil _).mono ?_; rintro e w' ⟨rfl, rfl⟩)
  go_ret
  exact ⟨rfl, (Below.refl _ w).alloc (Nat.le_refl _) _⟩
theorem log_Snapshot_nil (w : World) : Calls Tryz.prog 15 #[.pointer none] w fun e w' => e = .returned (.int .i64 1) ∧ Below w.heap.size w w' := by
  go_enter Tryz.func15, Tryz.ntmps15
  go_wp2_with (go_at_call 26; refine (log_refuses_nil _).mono ?_; rintro e w' ⟨rfl, rfl⟩)
  go_ret
  exact ⟨rfl, (Below.refl _ w).alloc (Nat.le_refl _) _⟩
set_option maxHeartbeats 1000000 in
theorem law_None (v : Value) (w : World) (htab : Tab w) : Calls Tryz.prog 5 #[v] w fun e w' => e = .returned (.bool true) ∧ Below w.heap.size w w' := by
  go_enter Tryz.func5, Tryz.ntmps5
  go_wp2_with (first
    | (go_at_call 13; refine (log_Append_nil _ _).mono ?_; rintro e w1 ⟨rfl, hb1⟩)
    | (go_at_call 14; refine (log_Sync_nil _).mono ?_; rintro e w' ⟨rfl, rfl⟩)
    | (go_at_call 15; refine (log_Snapshot_nil _).mono ?_; rintro e w2 ⟨rfl, hb2⟩; have hb3 := hb1.trans (hb2.mono hb1.size); have hh := law_head w2 (htab.keep hb3 (Nat.le_refl _)))
    | (go_at_call 17; refine (log_Texts_nil _).mono ?_; rintro e w' ⟨rfl, rfl⟩)
    | (go_at_call 11; refine (log_Synced_nil _).mono ?_; rintro e w' ⟨rfl, rfl⟩)
    | (go_at_call 20; refine (log_Names_nil _).mono ?_; rintro e w' ⟨rfl, rfl⟩)
    | (go_at_call 9; refine hh.mono ?_; rintro e w4 ⟨rfl, hb4⟩))
  go_ret
  exact ⟨rfl, hb3.trans (hb4.mono hb3.size)⟩
end Go.Proofs.YtcioomlhdaihkaaGreatDoor.L
