/-
  Logs: a log's strings as they are told; logs are opened.
-/
import Derived.Test.YtcioomlhdaihkaaGreatDoorWG
namespace Go.Proofs.YtcioomlhdaihkaaGreatDoor.L
set_option linter.unusedVariables false
set_option linter.unusedSimpArgs false
set_option maxRecDepth 100000
open Go Go.RowKit Go.Maps Go.MapKept Go.ChangeMaps Go.Shelf Wire
open K (Gh Ext Dom noX Jd Steady)

theorem own_same {B : Nat} {w w' : World} {v : Value} {l : List Bs} (h : OwnS B w v l) (hs : ∀ g, v.ownBlock = some g → w'.heap[g]? = w.heap[g]?) : OwnS B w' v l := by
  refine ⟨h.1, ?_⟩
  rcases h.2 with hn | ⟨g, c, cur, rfl, hb, hg, rest⟩
  · exact .inl hn
  · exact .inr ⟨g, c, cur, rfl, hb, (hs g rfl).trans hg, rest⟩
theorem own_lt {B : Nat} {w : World} {v : Value} {l : List Bs} (h : OwnS B w v l) {g : Nat} (hg : v.ownBlock = some g) : g < w.heap.size ∧ B ≤ g := by
  rcases h.2 with ⟨rfl, _⟩ | ⟨g', c, cur, rfl, hb, hg', rest⟩
  · cases hg
  · simp [Value.ownBlock] at hg
    subst hg
    exact ⟨(Array.getElem?_eq_some_iff.1 hg').1, hb⟩
theorem own_below {B : Nat} {w w' : World} {v : Value} {l : List Bs} (h : OwnS B w v l) (hb : Below w.heap.size w w') : OwnS B w' v l :=
  own_same h (fun g e => hb.block g (own_lt h e).1)
theorem sl_Clone {w : World} {v : Value} {l : List Bs} (h : OwnS 0 w v l) (hl : l.length ≤ 1000000) :
    Calls Tryz.prog 41 #[v] w fun e w' => ∃ v', e = .returned v' ∧ OwnS w.heap.size w' v' l ∧ Below w.heap.size w w' := by
  rcases h.2 with ⟨rfl, h0⟩ | ⟨g, c, cur, rfl, hb, hg, h1, h2, h3, h4⟩
  · have : l = [] := List.eq_nil_of_length_eq_zero h0
    subst this
    have hc := Go.Proofs.Any.slices_Clone_string_nil cloneS 0 0 w
    change Calls Tryz.prog 41 _ _ _ at hc
    refine hc.mono ?_
    rintro e w' ⟨rfl, rfl⟩
    exact ⟨_, rfl, World.ownsRow_nil _ _ _ _, Below.refl _ _⟩
  · have hcell : ∀ j, j < (l.map ba).length → w.cell? ⟨g, 0 + j, none⟩ = some (.string ((l.map ba).getD j ByteArray.empty)) := fun j hj => by
      rw [List.length_map] at hj
      rw [Nat.zero_add, K.cell_row hg j]
      have e1 : (cur.toList.take (l.length * 1))[j]? = cur[j]? := by rw [List.getElem?_take_of_lt (by omega), Array.getElem?_toList]
      rw [← e1, h4]
      simp [Q.strCells, List.getD, List.getElem?_eq_getElem hj]
    have hc := Go.Proofs.Any.slices_Clone_string cloneS g 0 l.length c (l.map ba) w (by simp) (by omega) hcell
    change Calls Tryz.prog 41 _ _ _ at hc
    refine hc.mono ?_
    rintro e w' ⟨v', rfl, hown, _, hb'⟩
    refine ⟨v', rfl, ?_, hb'⟩
    have e2 : ((l.map ba).take l.length).map Value.string = Q.strCells l := by
      rw [List.take_of_length_le (by simp), List.map_map]
      rfl
    rw [e2] at hown
    exact hown
section
variable {w0 w : World} {p q : Nat} {s : K.St} {x : Lg} {ds : List (Nat × K.St)} {R : Bxs}
set_option maxHeartbeats 1000000 in
theorem log_Texts (h : LS w0 w ds q x R) (hl : x.texts.length ≤ 1000000) (hsm : ∀ t ∈ x.texts, t.length ≤ 1000000) :
    Calls Tryz.prog 17 #[.pointer (some ⟨q, 0, none⟩)] w fun e w' => ∃ v, e = .returned v ∧ OwnS w.heap.size w' v x.texts ∧ Below w.heap.size w w' := by
  obtain ⟨tv, ⟨c0, c1, c2, c3, c4, c5, fz⟩, hO⟩ := h.cel
  have hn := log_none_some h
  have hcl := sl_Clone hO hl
  obtain ⟨vp, vc, rfl⟩ := Q.out_form hO
  have HSM := hid hsm
  clear h hO hsm
  generalize x.texts = L at *
  go_enter Tryz.func17, Tryz.ntmps17
  go_wp2_with (first
    | (go_at_call 24; refine hn.mono ?_; rintro e w' ⟨rfl, rfl⟩)
    | (go_at_call 41; refine hcl.mono ?_; rintro e w1 ⟨v, rfl, ho, hb⟩; have HO := hid ho; obtain ⟨ap, ac, rfl⟩ := Q.out_form ho; have HB := hid hb; clear ho hb))
  go_loopw [15] (fun i wr => ∃ k : Nat, k ≤ L.length ∧ i = .int .i64 k ∧ Hid (OwnS w.heap.size wr (.slice ap L.length ac) L) ∧ Hid (Below w.heap.size w wr)) (fun i _ => L.length - (intOf i).toNat)
  case atStart => exact ⟨0, Nat.zero_le _, rfl, HO, HB⟩
  case round =>
    obtain ⟨k, hk, rfl, HR, HW⟩ := hrel
    by_cases hlt : k < L.length
    · obtain ⟨y, hy⟩ : ∃ y, L[k]? = some y := ⟨_, List.getElem?_eq_getElem hlt⟩
      have hyl : y.length ≤ 1099511627776 := by have := HSM.out y (List.mem_of_getElem? hy); omega
      rcases HR.out.2 with ⟨h1, h0⟩ | ⟨g, c, cur, he, hbg, hg, h1, h2, h3, h4⟩
      · omega
      · cases he
        have hck : cur[k]? = some (.string (ba y)) := by
          have e1 : (cur.toList.take (L.length * 1))[k]? = cur[k]? := by rw [List.getElem?_take_of_lt (by omega), Array.getElem?_toList]
          rw [← e1, h4]
          simp [Q.strCells, hy]
        have hcell : wr.cell? ⟨g, k, none⟩ = some (.string (ba y)) := (K.cell_row hg k).trans hck
        have hgl := (Array.getElem?_eq_some_iff.1 hg).1
        have HK := hid hck
        have HG := hid hg
        have HBG := hid hbg
        clear hck hy h4 hg
        go_wp2_with (go_at_call 31; refine (K.clone_str y hyl _).mono ?_; rintro e w2 ⟨rfl, hb2⟩; have hg2 := (hb2.block g hgl).trans HG.out; have hcell2 : w2.cell? ⟨g, k, none⟩ = some (.string (ba y)) := (K.cell_row hg2 k).trans HK.out; have hfz : w2.frozen? ⟨g, k, none⟩ = false := (by simp [World.frozen?, hg2]))
        have hg3 : (w2.setCell ⟨g, k, none⟩ (.string (ba y))).heap[g]? = some (.cells cur 9 (0, 0)) := by
          simp only [World.setCell, Array.getElem?_modify, if_true, hg2]
          have : cur.setIfInBounds k (.string (ba y)) = cur := by
            apply Array.ext_getElem?
            intro j
            rw [Array.getElem?_setIfInBounds]
            split
            · rename_i e; subst e; rw [HK.out]; split
              · rfl
              · rename_i hn
                have := (Array.getElem?_eq_some_iff.1 HK.out).1
                omega
            · rfl
          simp [this]
        go_roundw
        case rel => exact ⟨k + 1, hlt, by go_num, hid (own_same HR.out (fun g' e => by simp [Value.ownBlock] at e; subst e; exact hg3.trans HG.out.symm)), hid ((HW.out.trans (hb2.mono HW.out.size)).setCell HBG.out _)⟩
        case measure => simp [intOf]; omega
    · go_wp2
      go_ret
      exact ⟨_, rfl, HR.out, HW.out⟩
/-- The segments' names, in a row of one's own. -/
theorem log_Names2 (h : LS w0 w ((p, s) :: ds) q x R) (hp : x.disk = p) (hlim : s.lim ≤ 549755813888) {ks : List Nat} {dr : Bool} (hk : NamesOk s.seen ks dr) :
    Calls Tryz.prog 20 #[.pointer (some ⟨q, 0, none⟩)] w fun e w' => ∃ ad cap, e = .returned (.slice ad ks.length cap) ∧ IsF w' ad ks.length cap (namesOf ks false) ∧ (∀ g, ad = some ⟨g, 0, none⟩ → w.heap.size ≤ g) ∧ Below w.heap.size w w' := by
  obtain ⟨tv, ⟨c0, c1, c2, c3, c4, c5, fz⟩, _⟩ := h.cel
  have hn := log_none_some h
  obtain ⟨bs, hS⟩ := h.sys
  have hsn := log_segmentNames hS hlim hk
  rw [hp] at c0
  clear h hS
  go_enter Tryz.func20, Tryz.ntmps20
  go_wp2_with (first
    | (go_at_call 24; refine hn.mono ?_; rintro e w' ⟨rfl, rfl⟩)
    | (go_at_call 46; refine hsn.mono ?_; rintro e w1 ⟨ad, len, cap, rfl, hF, hnw, hb⟩))
  go_ret
  have h1 := hF.hlen
  rw [namesOf_len] at h1
  simp at h1
  subst h1
  exact ⟨ad, cap, rfl, hF, hnw, hb⟩
end
end Go.Proofs.YtcioomlhdaihkaaGreatDoor.L

namespace Go.Proofs.YtcioomlhdaihkaaGreatDoor.L
set_option linter.unusedVariables false
set_option linter.unusedSimpArgs false
set_option maxRecDepth 100000
open Go Go.RowKit Go.Maps Go.MapKept Go.ChangeMaps Go.Shelf Wire
open K (Gh Ext Dom noX Jd Steady)

theorem disk_Read_nil (n : Bs) (w : World) : Calls Tryz.prog 47 #[.pointer none, .string (ba n)] w fun e w' => e = .returned (.tuple #[.string (ba []), .int .i64 1]) ∧ w = w' := by
  have hn := K.none_nil w
  go_enter Tryz.func47, Tryz.ntmps47
  go_wp2_with (go_at_call 25; refine hn.mono ?_; rintro e w' ⟨rfl, rfl⟩)
  go_ret2
  exact ⟨rfl, rfl⟩
theorem log_noDisk_nil (w : World) : Calls Tryz.prog 22 #[.pointer none] w fun e w' => e = .returned (.bool true) ∧ w = w' := by
  have hn : Calls Tryz.prog 47 #[.pointer none, .string (ba [])] w fun e w' => e = .returned (.tuple #[.string (ba []), .int .i64 1]) ∧ w = w' := disk_Read_nil [] w
  go_enter Tryz.func22, Tryz.ntmps22
  go_wp2_with (go_at_call 47; refine hn.mono ?_; rintro e w' ⟨rfl, rfl⟩)
  go_ret
  exact ⟨rfl, rfl⟩
theorem log_Open_nil (n : Int) (w : World) : Calls Tryz.prog 10 #[.pointer none, .int .i64 n] w fun e w' => e = .returned (.tuple #[.pointer none, .int .i64 1]) ∧ w = w' := by
  have hn := log_noDisk_nil w
  go_enter Tryz.func10, Tryz.ntmps10
  go_wp2_with (go_at_call 22; refine hn.mono ?_; rintro e w' ⟨rfl, rfl⟩)
  go_ret2
  exact ⟨rfl, rfl⟩

section
variable {w0 w : World} {p : Nat} {s : K.St} {ds : List (Nat × K.St)} {bs : Bxs}
theorem log_noDisk (h : K.Sys w0 w ((p, s) :: ds) bs) (hlim : s.lim ≤ 549755813888) : Calls Tryz.prog 22 #[.pointer (some ⟨p, 0, none⟩)] w fun e w' => e = .returned (.bool false) ∧ w = w' := by
  have hn : Calls Tryz.prog 47 #[.pointer (some ⟨p, 0, none⟩), .string (ba [])] w fun e w' => e = .returned (.tuple #[.string (ba []), .int .i64 2]) ∧ w = w' := K.sys_Read h [] (by simp) hlim
  clear h
  go_enter Tryz.func22, Tryz.ntmps22
  go_wp2_with (go_at_call 47; refine hn.mono ?_; rintro e w' ⟨rfl, rfl⟩)
  go_ret
  exact ⟨rfl, rfl⟩
theorem log_Open_bad (h : K.Sys w0 w ((p, s) :: ds) bs) (hlim : s.lim ≤ 549755813888) (n : Int) (hb : n < 1 ∨ 1048576 < n) : Calls Tryz.prog 10 #[.pointer (some ⟨p, 0, none⟩), .int .i64 n] w fun e w' => e = .returned (.tuple #[.pointer none, .int .i64 2]) ∧ w = w' := by
  have hn := log_noDisk h hlim
  clear h
  by_cases h1 : n < 1
  · go_enter Tryz.func10, Tryz.ntmps10
    go_wp2_with (go_at_call 22; refine hn.mono ?_; rintro e w' ⟨rfl, rfl⟩)
    go_ret2
    exact ⟨rfl, rfl⟩
  · have h2 : 1048576 < n := hb.resolve_left h1
    clear hb
    go_enter Tryz.func10, Tryz.ntmps10
    go_wp2_with (go_at_call 22; refine hn.mono ?_; rintro e w' ⟨rfl, rfl⟩)
    go_ret2
    exact ⟨rfl, rfl⟩
/-- A log that was opened: so many strings of it are synced. -/
def mOpen (p limit : Nat) (s : K.St) (T : List Bs) : Lg := ⟨p, limit, T, if s.units = 0 then T.length else 0, [], false⟩
set_option maxHeartbeats 1000000 in
theorem log_Open (h : K.Sys w0 w ((p, s) :: ds) bs) (hn : Nd bs) (htab : Tab w0) (hlim : s.lim ≤ 549755813888) {ks : List Nat} {dr : Bool} (hk : NamesOk s.seen ks dr) {os : List (Option SgT)} (hos : SegsOk s.seen ks os) (hbig : tots (items os) ≤ 500000) {T : List Bs} (hT : (foldT (items os)).1 = T) (limit : Nat) (h1 : 1 ≤ limit) (h2 : limit ≤ 1048576) :
    Calls Tryz.prog 10 #[.pointer (some ⟨p, 0, none⟩), .int .i64 (limit : Nat)] w fun e w' => ∃ q, e = .returned (.tuple #[.pointer (some ⟨q, 0, none⟩), .int .i64 0]) ∧ LZ w0 w' p q ds bs (s, mOpen p limit s T) := by
  have hnd := log_noDisk h hlim
  have htx := log_textsOf h hlim hk hos hbig (htab.keep (by obtain ⟨A, hS⟩ := h; exact hS.below) (Nat.le_refl _))
  rw [hT] at htx
  have hTl : T.length ≤ 500000 := by rw [← hT]; exact Nat.le_trans (foldT_len _) hbig
  have HTL := hid hTl
  -- the log is there
  have hnew : ∀ (n : Nat) (W : World) (v : Value), OwnS w.heap.size W v T → Below w.heap.size w W → LZ w0 (W.alloc (.cells (lcells ⟨p, limit, T, n, [], false⟩ v) 57)) p W.heap.size ds bs (s, ⟨p, limit, T, n, [], false⟩) := by
    intro n W v hO hB
    obtain ⟨rb, hrb, hrw, hl1⟩ := RowB.of hO
    have hold : ∀ y ∈ bs, y.1 < w.heap.size := fun y hy => by
      obtain ⟨A, hS⟩ := h
      exact (Array.getElem?_eq_some_iff.1 (hS.boxes y hy).2).1
    have hS1 : K.Sys w0 W ((p, s) :: ds) (rb ++ bs) ∧ Nd (rb ++ bs) := by
      rcases rb with _ | ⟨y, _ | ⟨_, _⟩⟩
      · exact ⟨h.below hB, hn⟩
      · obtain ⟨i1, i2, i3⟩ := hrw y (List.mem_singleton.2 rfl)
        exact ⟨h.box hB i3 i1, List.nodup_cons.2 ⟨fun hm => by
          obtain ⟨z, hz, e⟩ := List.mem_map.1 hm
          have := hold z hz
          have e2 : z.1 = y.1 := e
          omega, hn⟩⟩
      · simp at hl1
    have hlt : ∀ y ∈ rb ++ bs, y.1 < W.heap.size := fun y hy => by
      obtain ⟨A, hS⟩ := hS1.1
      exact (Array.getElem?_eq_some_iff.1 (hS.boxes y hy).2).1
    refine ⟨⟨v, rb, hrb, hS1.1.box ((Below.refl _ W).alloc (Nat.le_refl _) _) (Nat.le_refl _) (heap_alloc_last W _), List.nodup_cons.2 ⟨fun hm => ?_, hS1.2⟩⟩, rfl⟩
    obtain ⟨z, hz, e⟩ := List.mem_map.1 hm
    have := hlt z hz
    have e2 : z.1 = W.heap.size := e
    omega
  have HNEW := hid hnew
  have hun : ∀ W q, LZ w0 W p q ds bs (s, ⟨p, limit, T, 0, [], false⟩) → Calls Tryz.prog 21 #[.pointer (some ⟨p, 0, none⟩)] W fun e w' => e = .returned (.int .i64 (s.units : Int)) ∧ W = w' := fun W q hz => by
    obtain ⟨bs, hS⟩ := hz.1.sys
    exact K.sys_Units hS
  have HUN := hid hun
  clear hnew hun h hn htab hk hos hbig hT hTl
  unfold lcells at HNEW
  by_cases hu : s.units = 0
  · have e : mOpen p limit s T = ⟨p, limit, T, T.length, [], false⟩ := by unfold mOpen; rw [if_pos hu]
    rw [e]
    rw [hu] at HUN
    clear e hu
    go_enter Tryz.func10, Tryz.ntmps10
    go_wp2_with (first
      | (go_at_call 22; refine hnd.mono ?_; rintro e w' ⟨rfl, rfl⟩)
      | (go_at_call 23; refine htx.mono ?_; rintro e W ⟨v, rfl, hO, hB⟩; obtain ⟨vp, vc, rfl⟩ := Q.out_form hO; have hz := HNEW.out 0 W _ hO hB; have hcal := HUN.out _ _ hz; obtain ⟨tv, ⟨c0, c1, c2, c3, c4, c5, fz⟩, hOt⟩ := hz.1.cel; have HZ := hid (HNEW.out T.length W _ hO hB); clear hO hB hz)
      | (go_at_call 21; refine hcal.mono ?_; rintro e w' ⟨rfl, rfl⟩))
    go_ret2
    exact ⟨_, rfl, HZ.out⟩
  · have e : mOpen p limit s T = ⟨p, limit, T, 0, [], false⟩ := by unfold mOpen; rw [if_neg hu]
    rw [e]
    have hq : ((s.units : Int) == 0) = false := by simp; omega
    clear e hu
    go_enter Tryz.func10, Tryz.ntmps10
    go_wp2_with (first
      | (go_at_call 22; refine hnd.mono ?_; rintro e w' ⟨rfl, rfl⟩)
      | (go_at_call 23; refine htx.mono ?_; rintro e W ⟨v, rfl, hO, hB⟩; obtain ⟨vp, vc, rfl⟩ := Q.out_form hO; have hz := HNEW.out 0 W _ hO hB; have hcal := HUN.out _ _ hz; have HZ := hid (HNEW.out 0 W _ hO hB); clear hO hB hz)
      | (go_at_call 21; refine hcal.mono ?_; rintro e w' ⟨rfl, rfl⟩))
    go_ret2
    exact ⟨_, rfl, HZ.out⟩
end

/-! ### logs beside each other -/
/-- The boxes of a log, beside others. -/
theorem LZ.swap {w0 w : World} {p q p2 q2 : Nat} {s s2 : K.St} {x y : Lg} {ds : List (Nat × K.St)} {tv2 : Value} {rb2 R : Bxs} (h : LZ w0 w p q ((p2, s2) :: ds) ((q2, sobj y tv2) :: (rb2 ++ R)) (s, x)) (hy : RowB tv2 y.texts rb2) (hd : y.disk = p2) :
    ∃ tv rb, RowB tv x.texts rb ∧ x.disk = p ∧ LZ w0 w p2 q2 ((p, s) :: ds) ((q, sobj x tv) :: (rb ++ R)) (s2, y) := by
  obtain ⟨⟨tv, rb, hrb, hS, hn⟩, hp⟩ := h
  have hp' : x.disk = p := hp
  refine ⟨tv, rb, hrb, hp', ⟨tv2, rb2, hy, hS.perm (List.Perm.swap _ _ _) (fun z hz => ?_), ?_⟩, hd⟩
  · simp only [List.mem_cons, List.mem_append] at hz ⊢
    rcases hz with h | h | h | h | h
    · exact .inr (.inr (.inl h))
    · exact .inr (.inr (.inr (.inl h)))
    · exact .inl h
    · exact .inr (.inl h)
    · exact .inr (.inr (.inr (.inr h)))
  · have hperm : ((q2, sobj y tv2) :: (rb2 ++ (q, sobj x tv) :: (rb ++ R))).Perm ((q, sobj x tv) :: (rb ++ (q2, sobj y tv2) :: (rb2 ++ R))) := by
      have e1 : ((q2, sobj y tv2) :: (rb2 ++ (q, sobj x tv) :: (rb ++ R))) = ((q2, sobj y tv2) :: rb2) ++ (((q, sobj x tv) :: rb) ++ R) := by simp
      have e2 : ((q, sobj x tv) :: (rb ++ (q2, sobj y tv2) :: (rb2 ++ R))) = ((q, sobj x tv) :: rb) ++ (((q2, sobj y tv2) :: rb2) ++ R) := by simp
      rw [e1, e2, ← List.append_assoc, ← List.append_assoc]
      exact List.Perm.append_right _ List.perm_append_comm
    unfold Nd
    exact (hperm.map _).nodup_iff.2 hn
/-- A log as boxes beside whatever is opened next. -/
theorem LZ.boxes {w0 w : World} {p q : Nat} {s : K.St} {x : Lg} {ds : List (Nat × K.St)} {R : Bxs} (h : LZ w0 w p q ds R (s, x)) : ∃ tv rb, RowB tv x.texts rb ∧ x.disk = p ∧ K.Sys w0 w ((p, s) :: ds) ((q, sobj x tv) :: (rb ++ R)) ∧ Nd ((q, sobj x tv) :: (rb ++ R)) := by
  obtain ⟨⟨tv, rb, hrb, hS, hn⟩, hp⟩ := h
  exact ⟨tv, rb, hrb, hp, hS, hn⟩
/-- A row of one's own, as a box beside. -/
theorem LZ.keep {w0 w w' : World} {p q : Nat} {z : Z} {ds : List (Nat × K.St)} {R : Bxs} {v : Value} {l : List Bs} (h : LZ w0 w p q ds R z) (ho : OwnS w.heap.size w' v l) (hb : Below w.heap.size w w') : ∃ rb, RowB v l rb ∧ LZ w0 w' p q ds (rb ++ R) z := by
  obtain ⟨rb, hrb, hrw, hl1⟩ := RowB.of ho
  rcases rb with _ | ⟨y, _ | ⟨_, _⟩⟩
  · exact ⟨[], hrb, h.below hb⟩
  · obtain ⟨i1, i2, i3⟩ := hrw y (List.mem_singleton.2 rfl)
    exact ⟨[y], hrb, h.1.more hb i3 i1, h.2⟩
  · simp at hl1
/-- A row that is kept as a box is there. -/
theorem LZ.row {w0 w : World} {p q : Nat} {z : Z} {ds : List (Nat × K.St)} {R rb : Bxs} {v : Value} {l : List Bs} (h : LZ w0 w p q ds R z) (hr : RowB v l rb) (hs : ∀ y ∈ rb, y ∈ R) : OwnS 0 w v l := hr.own (fun y hy => h.1.box (hs y hy))
end Go.Proofs.YtcioomlhdaihkaaGreatDoor.L
