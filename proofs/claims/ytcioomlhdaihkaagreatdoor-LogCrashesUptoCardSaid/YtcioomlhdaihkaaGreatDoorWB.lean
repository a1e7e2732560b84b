/-
  Logs: the segments' names on a disk.
-/
import Derived.Test.YtcioomlhdaihkaaGreatDoorWA
import Derived.Lib.SliceRun
namespace Go.Proofs.YtcioomlhdaihkaaGreatDoor.L
set_option linter.unusedVariables false
set_option linter.unusedSimpArgs false
set_option maxRecDepth 100000
open Go Go.RowKit Wire

/-- The names on a log's disk: the segments' by number, and the draft's. -/
def namesOf (ks : List Nat) (dr : Bool) : List Bs := ks.map nm ++ (if dr then [draft] else [])
def delV : Value := .func (.func 66) #[] #[]
theorem del_nm (k : Nat) (h1 : 1 ≤ k) (h : k < 100) (w : World) :
    Calls Tryz.prog 66 #[.string (ba (nm k))] w fun e w' => e = .returned (.bool false) ∧ Below w.heap.size w w' := by
  have hn := fun W => log_numberOf_nm k h W
  have hz : decide ((k : Int) = 0) = false := by simp; omega
  have hz2 : ((k : Int) == 0) = false := by simp; omega
  go_enter Tryz.func66, Tryz.ntmps66
  go_wp2_with (go_at_call 58; refine (hn _).mono ?_; rintro e w1 ⟨rfl, hb⟩)
  go_ret
  exact ⟨by first | rfl | (simp only [hz, hz2]) | (rw [hz2]), hb⟩
theorem del_draft (w : World) :
    Calls Tryz.prog 66 #[.string (ba draft)] w fun e w' => e = .returned (.bool true) ∧ Below w.heap.size w w' := by
  have hn := fun W => log_numberOf_draft W
  go_enter Tryz.func66, Tryz.ntmps66
  go_wp2_with (go_at_call 58; refine (hn _).mono ?_; rintro e w1 ⟨rfl, rfl⟩)
  go_ret
  exact ⟨rfl, Below.refl _ _⟩

theorem namesOf_len (ks : List Nat) (dr : Bool) : (namesOf ks dr).length = ks.length + (if dr then 1 else 0) := by
  cases dr <;> simp [namesOf]
theorem namesOf_at {ks : List Nat} {dr : Bool} {i k : Nat} (h : ks[i]? = some k) : (namesOf ks dr)[i]? = some (nm k) := by
  have hi := (List.getElem?_eq_some_iff.1 h).1
  unfold namesOf
  rw [List.getElem?_append_left (by simpa using hi), List.getElem?_map, h]
  rfl
theorem namesOf_last (ks : List Nat) : (namesOf ks true)[ks.length]? = some draft := by
  unfold namesOf
  rw [List.getElem?_append_right (by simp)]
  simp

/-- As the walk has it: a slice of names. -/
structure IsF (w : World) (ad : Option Addr) (len cap : Nat) (l : List Bs) : Prop where
  hlen : l.length = len
  hle : len ≤ cap
  hmax : cap ≤ maxLen
  hnil : ad = none → cap = 0
  hrow : 0 < len → ∃ (g : Nat) (cur : Array Value), ad = some ⟨g, 0, none⟩ ∧ w.heap[g]? = some (.cells cur 9 (0, 0)) ∧ ∀ (i : Nat) (s : Bs), l[i]? = some s → cur[i]? = some (.string (ba s))
theorem IsF.of {w : World} {v : Value} {l : List Bs} (h : K.StrsF w v l) : ∃ ad cap, v = .slice ad l.length cap ∧ IsF w ad l.length cap l := by
  rcases h with ⟨rfl, rfl⟩ | ⟨g, cap, cur, rfl, h0, h1, h2, hg, hc⟩
  · exact ⟨none, 0, rfl, ⟨rfl, Nat.le_refl _, Nat.zero_le _, fun _ => rfl, fun h => absurd h (by simp)⟩⟩
  · exact ⟨_, cap, rfl, ⟨rfl, h1, h2, fun h => (by cases h), fun _ => ⟨g, cur, rfl, hg, hc⟩⟩⟩
theorem IsF.keep {w w' : World} {ad : Option Addr} {len cap : Nat} {l : List Bs} (h : IsF w ad len cap l) (hb : Below w.heap.size w w') : IsF w' ad len cap l :=
  ⟨h.hlen, h.hle, h.hmax, h.hnil, fun h0 => by
    obtain ⟨g, cur, e, hg, hc⟩ := h.hrow h0
    exact ⟨g, cur, e, (hb.block g (Array.getElem?_eq_some_iff.1 hg).1).trans hg, hc⟩⟩
theorem IsF.cell {w : World} {ad : Option Addr} {len cap : Nat} {l : List Bs} (h : IsF w ad len cap l) {k : Nat} {s : Bs} (hk : l[k]? = some s) : ∃ g, ad = some ⟨g, 0, none⟩ ∧ w.cell? ⟨g, k, none⟩ = some (.string (ba s)) := by
  have hlt := (List.getElem?_eq_some_iff.1 hk).1
  obtain ⟨g, cur, e, hg, hc⟩ := h.hrow (by rw [← h.hlen]; omega)
  exact ⟨g, e, (K.cell_row hg k).trans (hc k s hk)⟩

set_option maxHeartbeats 1000000 in
theorem names_IndexFunc (ks : List Nat) (dr : Bool) (hks : ∀ k ∈ ks, 1 ≤ k ∧ k < 100) (ad : Option Addr) (len cap : Nat) (w : World) (hv : IsF w ad len cap (namesOf ks dr)) :
    Calls Tryz.prog 91 #[.slice ad len cap, delV] w fun e w' => e = .returned (.int .i64 (if dr then (ks.length : Int) else -1)) ∧ Below w.heap.size w w' := by
  have HI := hid hv
  have HS := hid hks
  have hnl := namesOf_len ks dr
  have hl1 := hv.hlen
  have hm : len ≤ 9223372036854775807 := by have h1 := hv.hle; have h2 := hv.hmax; unfold maxLen at h2; omega
  have hkl : ks.length ≤ len ∧ (dr = true → len = ks.length + 1) ∧ (dr = false → len = ks.length) := by
    cases dr <;> simp at hnl <;> refine ⟨by omega, fun h => ?_, fun h => ?_⟩ <;> first | (cases h; done) | omega
  obtain ⟨hk1, hk2, hk3⟩ := hkl
  have HN := hid hnl
  clear hv hks hnl hl1
  have HK2 := hid hk2
  have HK3 := hid hk3
  clear hk2 hk3
  unfold delV
  go_enter Tryz.func91, Tryz.ntmps91
  go_wp2
  go_loopw [8] (fun i wr => ∃ k : Nat, k ≤ ks.length ∧ i = .int .i64 k ∧ Hid (Below w.heap.size w wr)) (fun i _ => len - (intOf i).toNat)
  case atStart => exact ⟨0, by omega, rfl, hid (Below.refl _ _)⟩
  case round =>
    obtain ⟨k, hk, rfl, HB⟩ := hrel
    by_cases hlt : k < ks.length
    · obtain ⟨x, hx⟩ : ∃ x, ks[k]? = some x := ⟨_, List.getElem?_eq_getElem hlt⟩
      obtain ⟨h1, h2⟩ := HS.out x (List.mem_of_getElem? hx)
      obtain ⟨g, rfl, hc⟩ := (HI.out.keep HB.out).cell (namesOf_at hx)
      have ht := del_nm x h1 h2 wr
      have hlt2 : k < len := by omega
      clear hx
      go_wp2_with (go_at_call 66; (with_reducible refine ht.mono ?_); rintro e w1 ⟨rfl, hb1⟩)
      go_roundw
      case rel => exact ⟨k + 1, by omega, by go_num, hid (below_next HB.out hb1)⟩
      case measure => simp [intOf]; omega
    · obtain rfl : k = ks.length := by omega
      cases dr with
      | true =>
        obtain ⟨g, rfl, hc⟩ := (HI.out.keep HB.out).cell (namesOf_last ks)
        have ht := del_draft wr
        have hlt2 : ks.length < len := by have := HK2.out rfl; omega
        go_wp2_with (go_at_call 66; (with_reducible refine ht.mono ?_); rintro e w1 ⟨rfl, hb1⟩)
        go_ret
        exact ⟨rfl, below_next HB.out hb1⟩
      | false =>
        obtain rfl : len = ks.length := HK3.out rfl
        go_wp2
        go_ret
        exact ⟨rfl, HB.out⟩

set_option maxHeartbeats 1000000 in
theorem names_DeleteFunc (ks : List Nat) (dr : Bool) (hks : ∀ k ∈ ks, 1 ≤ k ∧ k < 100) (B : Nat) (ad : Option Addr) (len cap : Nat) (w : World) (hB : B ≤ w.heap.size) (hv : IsF w ad len cap (namesOf ks dr)) (hn : ∀ g, ad = some ⟨g, 0, none⟩ → B ≤ g) :
    Calls Tryz.prog 64 #[.slice ad len cap, delV] w fun e w' => ∃ len' : Nat, e = .returned (.slice ad len' cap) ∧ IsF w' ad len' cap (namesOf ks false) ∧ Below B w w' := by
  have hi := names_IndexFunc ks dr hks ad len cap w hv
  have HI := hid hv
  have hnl := namesOf_len ks dr
  have hl1 := hv.hlen
  have hcl := hv.hle
  have hm : cap ≤ 9223372036854775807 := by have h2 := hv.hmax; unfold maxLen at h2; omega
  have HNN := hid hn
  clear hks hn hv
  unfold delV at *
  cases dr with
  | false =>
    simp only [Bool.false_eq_true, if_false] at hi
    go_enter Tryz.func64, Tryz.ntmps64
    go_wp2_with (go_at_call 91; refine hi.mono ?_; rintro e w1 ⟨rfl, hb1⟩)
    go_ret
    exact ⟨len, rfl, HI.out.keep hb1, hb1.mono hB⟩
  | true =>
    simp only [if_true] at hi hnl
    obtain ⟨n, hN⟩ : ∃ n, ks.length = n := ⟨_, rfl⟩
    rw [hN] at hi hnl
    obtain rfl : len = n + 1 := by omega
    obtain ⟨g, cur, rfl, hg, hc⟩ := HI.out.hrow (by omega)
    have HC := hid hc
    have hcn := hc n draft (by rw [← hN]; exact namesOf_last ks)
    have HCN := hid hcn
    have hgB := HNN.out g rfl
    clear hc hcn hl1 hnl
    have hgl := (Array.getElem?_eq_some_iff.1 hg).1
    have hcl2 : ∀ (W : World) (ty : TypeId), W.heap[g]? = some (.cells cur 9 (0, 0)) → (Builtin.clear_ #[36] ty #[.slice (some ⟨g, n, none⟩) 1 (cap - n)]).run Tryz.prog W = .ok (.tuple #[]) (W.setCells g n [.string ⟨#[]⟩]) := fun W ty hW =>
      Lib.run_clear_slice W _ _ ty _ Tryz.underlying36 Tryz.zeroValue9 rfl rfl g n 1 (cap - n) (by omega) (fun j hj => by
        obtain rfl : j = 0 := by omega
        rw [Nat.add_zero, K.cell_row hW, HCN.out]; rfl) (fun j hj => by
        simp [World.frozen?, hW])
    go_enter Tryz.func64, Tryz.ntmps64
    go_wp2_with (go_at_call 91; refine hi.mono ?_; rintro e w1 ⟨rfl, hb1⟩; have hg1 := (hb1.block g hgl).trans hg)
    have hne : ¬ cap = n := by omega
    have hne2 : ¬ n = cap := by omega
    have h1n : n + 1 - n = 1 := by omega
    go_loopw [5, 6] (fun j i wr => j = .int .i64 (n : Int) ∧ i = .int .i64 ((n : Int) + 1) ∧ wr = w1) (fun j i _ => 0)
    case atStart => exact ⟨rfl, rfl, rfl⟩
    case round =>
      obtain ⟨rfl, rfl, rfl⟩ := hrel
      have hcl3 := hcl2 wr 0 hg1
      rw [← h1n] at hcl3
      go_wp2
      go_ret
      have hset : (wr.setCells g n [.string ⟨#[]⟩]) = wr.setCell ⟨g, n, none⟩ (.string ⟨#[]⟩) := rfl
      rw [hset]
      have hh : (wr.setCell ⟨g, n, none⟩ (.string ⟨#[]⟩)).heap[g]? = some (.cells (cur.setIfInBounds n (.string ⟨#[]⟩)) 9 (0, 0)) := by
        simp only [World.setCell, Array.getElem?_modify, if_true, hg1]
        rfl
      refine ⟨n, rfl, ⟨by rw [namesOf_len]; simp [hN], by omega, HI.out.hmax, fun h => (by cases h), fun h0 => ⟨g, _, rfl, hh, fun i s hi => ?_⟩⟩, (hb1.mono hB).setCell (p := ⟨g, n, none⟩) hgB _⟩
      have hil := (List.getElem?_eq_some_iff.1 hi).1
      rw [namesOf_len] at hil
      simp [hN] at hil
      rw [Array.getElem?_setIfInBounds, if_neg (by omega)]
      refine HC.out i s ?_
      unfold namesOf at hi ⊢
      rw [List.getElem?_append_left (by simp; omega)] at hi ⊢
      exact hi
theorem IsF.sv {w : World} {ad : Option Addr} {len cap : Nat} {l : List Bs} (h : IsF w ad len cap l) : Q.SV w (.slice ad len cap) l :=
  ⟨ad, len, cap, rfl, h.hlen, h.hle, h.hmax, fun h0 => ⟨by have := h.hle; have := h.hnil h0; omega, h.hnil h0⟩, fun i x hx => by
    obtain ⟨g, e, hc⟩ := h.cell hx
    exact ⟨_, e, by rw [K.add0]; exact hc⟩⟩

/-! ### on a disk -/
/-- The numbers of a log's disk's segments, and its draft. -/
def NamesOk (f : K.Fs) (ks : List Nat) (dr : Bool) : Prop := K.names f = namesOf ks dr ∧ ∀ k ∈ ks, 1 ≤ k ∧ k < 100

set_option maxHeartbeats 1000000 in
theorem log_segmentNames {w0 w : World} {p : Nat} {s : K.St} {ds : List (Nat × K.St)} {bs : List (Nat × Obj)} (h : K.Sys w0 w ((p, s) :: ds) bs) (hlim : s.lim ≤ 549755813888) {ks : List Nat} {dr : Bool} (hk : NamesOk s.seen ks dr) :
    Calls Tryz.prog 46 #[.pointer (some ⟨p, 0, none⟩)] w fun e w' => ∃ ad len cap, e = .returned (.slice ad len cap) ∧ IsF w' ad len cap (namesOf ks false) ∧ (∀ g, ad = some ⟨g, 0, none⟩ → w.heap.size ≤ g) ∧ Below w.heap.size w w' := by
  have hl := K.sys_List h hlim
  rw [hk.1] at hl
  have hd := fun ad len cap W hB hv hn => names_DeleteFunc ks dr hk.2 w.heap.size ad len cap W hB hv hn
  unfold delV at hd
  clear h hk
  go_enter Tryz.func46, Tryz.ntmps46
  go_wp2_with (go_at_call 65; refine hl.mono ?_; rintro e w1 ⟨⟨v, rfl, hS, hn⟩, hb1⟩; obtain ⟨ad, cap, rfl, hF⟩ := IsF.of hS; have hd1 := hd ad _ cap w1 hb1.size hF (fun g e => hn g _ cap (by rw [e])))
  go_at_call 64
  refine hd1.mono ?_
  rintro e w2 ⟨len', rfl, hF2, hb2⟩
  go_wp2
  go_ret
  exact ⟨ad, len', cap, rfl, hF2, fun g e => hn g _ cap (by rw [e]), hb1.trans hb2⟩
end Go.Proofs.YtcioomlhdaihkaaGreatDoor.L

namespace Go.Proofs.YtcioomlhdaihkaaGreatDoor.L
set_option linter.unusedVariables false
set_option linter.unusedSimpArgs false
set_option maxRecDepth 100000
open Go Go.RowKit Wire

/-- The number behind all. -/
def nextNum (ks : List Nat) : Nat := match ks.getLast? with | some k => k + 1 | none => 1
theorem nextNum_nil : nextNum [] = 1 := rfl
theorem nextNum_snoc (ks : List Nat) (k : Nat) : nextNum (ks ++ [k]) = k + 1 := by simp [nextNum]
theorem nextNum_take {ks : List Nat} {i k : Nat} (h : ks[i]? = some k) : nextNum (ks.take (i + 1)) = k + 1 := by
  rw [List.take_add_one, h]; exact nextNum_snoc _ _
theorem nextNum_le {ks : List Nat} (h : ∀ k ∈ ks, 1 ≤ k ∧ k < 100) : 1 ≤ nextNum ks ∧ nextNum ks ≤ 100 := by
  unfold nextNum
  cases hl : ks.getLast? with
  | none => simp
  | some k => have := h k (List.mem_of_getLast? hl); simp only; omega

set_option maxHeartbeats 1000000 in
theorem log_nextName {w0 w : World} {p : Nat} {s : K.St} {ds : List (Nat × K.St)} {bs : List (Nat × Obj)} (h : K.Sys w0 w ((p, s) :: ds) bs) (hlim : s.lim ≤ 549755813888) {ks : List Nat} {dr : Bool} (hk : NamesOk s.seen ks dr) (hlt : nextNum ks < 100) :
    Calls Tryz.prog 34 #[.pointer (some ⟨p, 0, none⟩)] w fun e w' => e = .returned (.tuple #[.string (ba (nm (nextNum ks))), .int .i64 0]) ∧ Below w.heap.size w w' := by
  have hl := log_segmentNames h hlim hk
  have HKS := hid hk.2
  have hn := fun W => log_nameOf (nextNum ks) (nextNum_le hk.2).1 hlt W
  have HN1 := hid (nextNum_le hk.2).1
  clear h hk
  generalize hNK : nextNum ks = nk at *
  have HNK := hid hNK
  clear hNK
  go_enter Tryz.func34, Tryz.ntmps34
  go_wp2_with (go_at_call 46; refine hl.mono ?_; rintro e w1 ⟨ad, len, cap, rfl, hF, _, hb1⟩; have HF := hid hF; have HB1 := hid hb1; have hlen := hF.hlen; have hlen2 := namesOf_len ks false; have hm1 := hF.hle; have hm2 := hF.hmax; clear hF hb1)
  simp only [Bool.false_eq_true, if_false, Nat.add_zero] at hlen2
  rw [hlen2] at hlen
  have hm : len ≤ 9223372036854775807 := by unfold maxLen at hm2; omega
  clear hlen2 hm1 hm2
  go_loopw [4, 10] (fun c i wr => ∃ k : Nat, k ≤ len ∧ i = .int .i64 k ∧ c = .int .i64 (nextNum (ks.take k) : Nat) ∧ Hid (Below w1.heap.size w1 wr)) (fun _ i _ => len - (intOf i).toNat)
  case atStart => exact ⟨0, by omega, rfl, by rw [List.take_zero]; rfl, hid (Below.refl _ _)⟩
  case round =>
    obtain ⟨k, hk, rfl, rfl, HB⟩ := hrel
    by_cases hlk : k < len
    · obtain ⟨x, hx⟩ : ∃ x, ks[k]? = some x := ⟨_, List.getElem?_eq_getElem (by omega)⟩
      obtain ⟨h1, h2⟩ := HKS.out x (List.mem_of_getElem? hx)
      obtain ⟨g, rfl, hc⟩ := (HF.out.keep HB.out).cell (namesOf_at hx)
      have ht := log_numberOf_nm x h2 wr
      have hnx := nextNum_take hx
      have HNX := hid hnx
      clear hx hnx
      generalize nextNum (ks.take k) = nj
      go_wp2_with (go_at_call 58; (with_reducible refine ht.mono ?_); rintro e w2 ⟨rfl, hb2⟩)
      go_roundw
      case rel => exact ⟨k + 1, by omega, by go_num, by rw [HNX.out]; rfl, hid (below_next HB.out hb2)⟩
      case measure => simp [intOf]; omega
    · obtain rfl : k = len := by omega
      have e : nextNum (ks.take k) = nk := by rw [List.take_of_length_le (by omega)]; exact HNK.out
      rw [e]
      clear e
      have hN1 := HN1.out
      have hcmp : decide ((99999999 : Int) < (nk : Int)) = false := by simp; omega
      go_wp2_with (go_at_call 59; refine (hn _).mono ?_; rintro e w2 ⟨rfl, hb2⟩)
      refine bodyPost_ret (results_tmp2 rfl _ _ _) rfl ⟨by rfl, ?_⟩
      exact HB1.out.trans ((below_next HB.out hb2).mono HB1.out.size)

/-! ### one segment -/
/-- What a segment's bytes are: nothing that counts, or a head's kind and count, and strings. -/
def SegIs (c : Bs) (o : Option (Bool × Nat × List Bs)) : Prop :=
  ∃ l rest, Q.IsScan c l rest ∧ ((l = [] ∧ o = none) ∨ ∃ b n t, l = hdB b n :: t ∧ n ≤ 1000000 ∧ o = if b = true ∧ n ≠ t.length then none else some (b, n, t))
def segV (b : Bool) (n : Nat) (v : Value) : Value := .agg #[.string (ba (kindB b)), .int .u64 (n : Nat), v]
def segZ : Value := .agg #[.string (ba []), .int .u64 0, .slice none 0 0]

theorem sv_tail {w : World} {ad : Option Addr} {len cap : Nat} {x : Bs} {t : List Bs} (h : Q.IsSV w ad len cap (x :: t)) : ∃ a, ad = some a ∧ w.cell? (a.add 0) = some (.string (ba x)) ∧ len = t.length + 1 ∧ 1 ≤ cap ∧
    Q.IsSV w (if cap = 1 then some a else some (a.add 1)) t.length (cap - 1) t := by
  obtain ⟨a, ha, hc⟩ := h.hcell 0 x rfl
  have h1 := h.hlen
  have h2 := h.hle
  have h3 := h.hmax
  simp at h1
  refine ⟨a, ha, hc, h1.symm, by omega, ⟨rfl, by omega, by omega, fun h0 => ?_, fun i y hy => ?_⟩⟩
  · split at h0 <;> cases h0
  · have hi := (List.getElem?_eq_some_iff.1 hy).1
    rw [if_neg (by omega)]
    obtain ⟨a', ha', hc'⟩ := h.hcell (i + 1) y (by simpa using hy)
    rw [ha] at ha'
    cases ha'
    exact ⟨_, rfl, by rw [show (a.add 1).add i = a.add (i + 1) by rw [Addr.add_add, Nat.add_comm]]; exact hc'⟩

theorem three {w : World} {g : Nat} {a b c : Value} {t : TypeId} (h : w.heap[g]? = some (.cells #[a, b, c] t (0, 0))) :
    (w.cell? ⟨g, 0, none⟩ = some a ∧ w.cell? ⟨g, 1, none⟩ = some b ∧ w.cell? ⟨g, 2, none⟩ = some c) ∧ w.frozen? ⟨g, 0, none⟩ = false ∧ w.frozen? ⟨g, 1, none⟩ = false ∧ w.frozen? ⟨g, 2, none⟩ = false :=
  ⟨⟨(K.cell_row h 0).trans rfl, (K.cell_row h 1).trans rfl, (K.cell_row h 2).trans rfl⟩, by simp [World.frozen?, h], by simp [World.frozen?, h], by simp [World.frozen?, h]⟩
theorem three_set {w : World} {g : Nat} {a b c : Value} {t : TypeId} (h : w.heap[g]? = some (.cells #[a, b, c] t (0, 0))) (x y z : Value) :
    (((w.setCell ⟨g, 0, none⟩ x).setCell ⟨g, 1, none⟩ y).setCell ⟨g, 2, none⟩ z).heap[g]? = some (.cells #[x, y, z] t (0, 0)) := by
  have h0 := heap_setCell_same w g 0 _ _ x h
  have h1 := heap_setCell_same _ g 1 _ _ y h0
  have h2 := heap_setCell_same _ g 2 _ _ z h1
  exact h2
theorem three_below {n : Nat} {w v : World} {g : Nat} (hb : Below n w v) (hg : n ≤ g) (x y z : Value) : Below n w (((v.setCell ⟨g, 0, none⟩ x).setCell ⟨g, 1, none⟩ y).setCell ⟨g, 2, none⟩ z) :=
  ((hb.setCell (p := ⟨g, 0, none⟩) hg x).setCell (p := ⟨g, 1, none⟩) hg y).setCell (p := ⟨g, 2, none⟩) hg z
theorem seg_ret {fn : Func} {u p : Tmp} (h : fn.results = #[.cell p 78, .tmp u]) (tmps : Array Value) (w : World) (g : Nat) (t : TypeId) (a b c v : Value) (hv : tmps.getD u undef = v) (hp : tmps.getD p undef = .pointer (some ⟨g, 0, none⟩)) (hg : w.heap[g]? = some (.cells #[a, b, c] t (0, 0))) :
    (results fn tmps).run Tryz.prog w = .ok (.tuple #[.agg #[a, b, c], v]) w := by
  exact results_row_tmp h tmps w g t _ (0, 0) _ v hv hp hg Tryz.underlying78 rfl (by kernel_rfl)
theorem seg_end {w2 : World} {g : Nat} {z0 z1 z2 : Value} {ty : TypeId} (hg : w2.heap[g]? = some (.cells #[z0, z1, z2] ty (0, 0))) (a b c x y z : Value) (tmps : Array Value) (v : Value) (h2 : tmps.getD 2 undef = .pointer (some ⟨g, 0, none⟩)) (h3 : tmps.getD 3 undef = v) {Q : Ending → World → Prop}
    (hq : Q (.returned (.tuple #[.agg #[x, y, z], v])) ((((((w2.setCell ⟨g, 0, none⟩ a).setCell ⟨g, 1, none⟩ b).setCell ⟨g, 2, none⟩ c).setCell ⟨g, 0, none⟩ x).setCell ⟨g, 1, none⟩ y).setCell ⟨g, 2, none⟩ z)) :
    bodyPost Tryz.prog Tryz.f69 Q Exit.ret { tmps := tmps, defers := [] } ((((((w2.setCell ⟨g, 0, none⟩ a).setCell ⟨g, 1, none⟩ b).setCell ⟨g, 2, none⟩ c).setCell ⟨g, 0, none⟩ x).setCell ⟨g, 1, none⟩ y).setCell ⟨g, 2, none⟩ z) :=
  bodyPost_ret (seg_ret rfl _ _ g _ _ _ _ _ h3 h2 (three_set (three_set hg _ _ _) _ _ _)) rfl hq
def SegRet (B : Nat) (o : Option (Bool × Nat × List Bs)) (e : Ending) (w' : World) : Prop := match o with
  | none => e = .returned (.tuple #[segZ, .bool false])
  | some (b, n, t) => ∃ v, e = .returned (.tuple #[segV b n v, .bool true]) ∧ Q.SV w' v t ∧ Q.NewS B w' v
theorem sv_same {w w' : World} {ad : Option Addr} {len cap : Nat} {l : List Bs} (h : Q.IsSV w ad len cap l) (hs : ∀ a, ad = some a → w'.heap[a.block]? = w.heap[a.block]?) : Q.IsSV w' ad len cap l :=
  ⟨h.hlen, h.hle, h.hmax, h.hnil, fun i x hx => by
    obtain ⟨a, ha, hc⟩ := h.hcell i x hx
    exact ⟨a, ha, (World.cell?_of_block (a := a.add i) (by rw [Q.add_block]; exact hs a ha)).trans hc⟩⟩
theorem off_block {w : World} {a : Addr} {v x y z : Value} {g : Nat} {t : TypeId} {fr : Nat × Nat} (h : w.cell? a = some v) (hg : w.heap[g]? = some (.cells #[x, y, z] t fr)) (hx : v ≠ x) (hy : v ≠ y) (hz : v ≠ z) : a.block ≠ g := by
  intro e
  unfold World.cell? at h
  rw [e, hg] at h
  dsimp only at h
  rcases ho : a.off with _ | _ | _ | k
  · rw [ho] at h; simp at h; exact hx h.2.symm
  · rw [ho] at h; simp at h; exact hy h.2.symm
  · rw [ho] at h; simp at h; exact hz h.2.symm
  · rw [ho] at h; simp at h
theorem three_other {w : World} {g b : Nat} (hb : b ≠ g) (x y z : Value) : (((w.setCell ⟨g, 0, none⟩ x).setCell ⟨g, 1, none⟩ y).setCell ⟨g, 2, none⟩ z).heap[b]? = w.heap[b]? := by
  rw [Below.heap_setCell _ _ _ _ hb, Below.heap_setCell _ _ _ _ hb, Below.heap_setCell _ _ _ _ hb]
set_option maxHeartbeats 1000000 in
theorem log_readSegment (c : Bs) (hc : c.length ≤ 900000) (o : Option (Bool × Nat × List Bs)) (ho : SegIs c o) (w : World) (htab : Tab w) :
    Calls Tryz.prog 69 #[.string (ba c)] w fun e w' => SegRet w.heap.size o e w' ∧ Below w.heap.size w w' := by
  obtain ⟨l, rest, hs, hor⟩ := ho
  have hscan := fun W => Q.record_Scan c l rest hs hc W
  clear hs
  generalize Q.stB rest = st at hscan
  generalize (Q.rowB l).length = N at hscan
  have HT := hid htab
  clear htab
  rcases hor with ⟨rfl, rfl⟩ | ⟨b, n, t, rfl, hn, rfl⟩
  · go_enter Tryz.func69, Tryz.ntmps69
    go_wp2_with (go_at_call 94; refine (hscan _).mono ?_; rintro e w1 ⟨v, rfl, ⟨ad, len, cap, rfl, hI⟩, _, hb1⟩; have hlen := hI.hlen; clear hI; simp at hlen; subst hlen; have hg1 := (hb1.block w.heap.size (by simp)).trans (heap_alloc_last w _); obtain ⟨⟨k0, k1, k2⟩, f0, f1, f2⟩ := three hg1)
    have hg2 := three_set hg1 (.string ⟨#[]⟩) (.int .u64 0) (.slice none 0 0)
    refine bodyPost_ret (seg_ret rfl _ _ w.heap.size _ _ _ _ _ rfl rfl hg2) rfl ⟨?_, ?_⟩
    · show Ending.returned _ = Ending.returned _
      rfl
    exact three_below (((Below.refl _ w).alloc (Nat.le_refl _) _).trans (hb1.mono (by simp))) (Nat.le_refl _) _ _ _
  · have hrh := fun W hW => log_readHead b n (by omega) W hW
    cases b with
    | false =>
      rw [if_neg (fun h => by cases h.1)]
      have hkb : ((ba (kindB false)).toList == [83, 58]) = false := by rw [Lib.toList_data, ba_list]; decide
      have hkb2 : ((ba (kindB false)).toList == (ByteArray.mk #[83, 58]).toList) = false := by rw [show ByteArray.mk #[83, 58] = ba [83, 58] from rfl, Q.beq_ba]; decide
      go_enter Tryz.func69, Tryz.ntmps69
      go_wp2_with (first
        | (go_at_call 94; refine (hscan _).mono ?_; rintro e w1 ⟨v, rfl, ⟨ad, len, cap, rfl, hI⟩, hns, hb1⟩; have HNS := hid hns; clear hns; obtain ⟨a, rfl, hc0, hlen, hcap, hT⟩ := sv_tail hI; rw [Addr.add_zero'] at hc0; have hg1 := (hb1.block w.heap.size (by simp)).trans (heap_alloc_last w _); have hmx := hI.hmax; have hmx2 := hI.hle; have hwl : IntKind.u64.wrap ((t.length : Nat) : Int) = (t.length : Int) := (by rw [IntKind.wrap_u64]; unfold maxLen at hmx; omega); have HI := hid hT; have HB1 := hid hb1; clear hI hT)
        | (go_at_call 95; refine (hrh _ (HT.out.keep ((((Below.refl _ w).alloc (Nat.le_refl _) _).trans (HB1.out.mono (by simp)))) (Nat.le_refl _))).mono ?_; rintro e w2 ⟨rfl, hb2⟩; have hg2 := (hb2.block w.heap.size (Array.getElem?_eq_some_iff.1 hg1).1).trans hg1; obtain ⟨⟨k0, k1, k2⟩, f0, f1, f2⟩ := three hg2; have HB2 := hid hb2; clear hb2))
      all_goals
        have hbB : Below w.heap.size w w2 := (((Below.refl _ w).alloc (Nat.le_refl _) _).trans (HB1.out.mono (by simp))).trans (HB2.out.mono (by have := HB1.out.size; simp at this; omega))
        have hne := off_block hc0 hg1 (by intro e; injection e with e; exact absurd (ba_inj e) (by simp [hdB])) (by intro e; cases e) (by intro e; cases e)
        have hT := HI.out.keep (w' := w2) HB2.out
        refine seg_end hg2 _ _ _ _ _ _ _ _ rfl rfl ⟨⟨_, rfl, ⟨_, _, _, rfl, ?_⟩, ?_⟩, three_below (three_below hbB (Nat.le_refl _) _ _ _) (Nat.le_refl _) _ _ _⟩
        · refine sv_same (?_ : Q.IsSV w2 _ _ _ t) (fun a' ha' => ?_)
          · first | exact hT | (rw [if_neg (by assumption)] at hT; exact hT) | (rw [if_pos (by assumption), show cap - 1 = 0 by omega] at hT; exact hT)
          · cases ha'
            refine (three_other ?_ _ _ _).trans (three_other ?_ _ _ _) <;> first | exact hne | (rw [Q.add_block]; exact hne)
        · intro a' l' c' e'
          obtain ⟨i1, c, ty, f, i2⟩ := HNS.out a _ _ rfl
          simp at i1
          have i3 := (HB2.out.block _ (Array.getElem?_eq_some_iff.1 i2).1).trans i2
          cases e'
          refine ⟨by first | omega | (simp only; omega) | (rw [Q.add_block]; omega), c, ty, f, ((three_other ?_ _ _ _).trans (three_other ?_ _ _ _)).trans ?_⟩ <;> first | exact hne | exact i3 | (rw [Q.add_block]; first | exact hne | exact i3)
    | true =>
      have hkb : ((ba (kindB true)).toList == [83, 58]) = true := by rw [Lib.toList_data, ba_list]; decide
      have hkb2 : ((ba (kindB true)).toList == (ByteArray.mk #[83, 58]).toList) = true := by rw [show ByteArray.mk #[83, 58] = ba [83, 58] from rfl, Q.beq_ba]; decide
      by_cases hnt : n = t.length
      · rw [if_neg (fun h => h.2 hnt)]
        have hq1 : ((n : Int) == (t.length : Int)) = true := by simp [hnt]
        have hq2 : ((n : Int) != (t.length : Int)) = false := by simp [hnt]
        have HNT := hid hnt
        clear hnt
        go_enter Tryz.func69, Tryz.ntmps69
        go_wp2_with (first
          | (go_at_call 94; refine (hscan _).mono ?_; rintro e w1 ⟨v, rfl, ⟨ad, len, cap, rfl, hI⟩, hns, hb1⟩; have HNS := hid hns; clear hns; obtain ⟨a, rfl, hc0, hlen, hcap, hT⟩ := sv_tail hI; rw [Addr.add_zero'] at hc0; have hg1 := (hb1.block w.heap.size (by simp)).trans (heap_alloc_last w _); have hmx := hI.hmax; have hmx2 := hI.hle; have hwl : IntKind.u64.wrap ((t.length : Nat) : Int) = (t.length : Int) := (by rw [IntKind.wrap_u64]; unfold maxLen at hmx; omega); have HI := hid hT; have HB1 := hid hb1; clear hI hT)
          | (go_at_call 95; refine (hrh _ (HT.out.keep ((((Below.refl _ w).alloc (Nat.le_refl _) _).trans (HB1.out.mono (by simp)))) (Nat.le_refl _))).mono ?_; rintro e w2 ⟨rfl, hb2⟩; have hg2 := (hb2.block w.heap.size (Array.getElem?_eq_some_iff.1 hg1).1).trans hg1; obtain ⟨⟨k0, k1, k2⟩, f0, f1, f2⟩ := three hg2; have HB2 := hid hb2; clear hb2))
        all_goals
          have hbB : Below w.heap.size w w2 := (((Below.refl _ w).alloc (Nat.le_refl _) _).trans (HB1.out.mono (by simp))).trans (HB2.out.mono (by have := HB1.out.size; simp at this; omega))
          have hne := off_block hc0 hg1 (by intro e; injection e with e; exact absurd (ba_inj e) (by simp [hdB])) (by intro e; cases e) (by intro e; cases e)
          have hT := HI.out.keep (w' := w2) HB2.out
          refine seg_end hg2 _ _ _ _ _ _ _ _ rfl rfl ⟨⟨_, rfl, ⟨_, _, _, rfl, ?_⟩, ?_⟩, three_below (three_below hbB (Nat.le_refl _) _ _ _) (Nat.le_refl _) _ _ _⟩
          · refine sv_same (?_ : Q.IsSV w2 _ _ _ t) (fun a' ha' => ?_)
            · first | exact hT | (rw [if_neg (by assumption)] at hT; exact hT) | (rw [if_pos (by assumption), show cap - 1 = 0 by omega] at hT; exact hT)
            · cases ha'
              refine (three_other ?_ _ _ _).trans (three_other ?_ _ _ _) <;> first | exact hne | (rw [Q.add_block]; exact hne)
          · intro a' l' c' e'
            obtain ⟨i1, c, ty, f, i2⟩ := HNS.out a _ _ rfl
            simp at i1
            have i3 := (HB2.out.block _ (Array.getElem?_eq_some_iff.1 i2).1).trans i2
            cases e'
            refine ⟨by first | omega | (simp only; omega) | (rw [Q.add_block]; omega), c, ty, f, ((three_other ?_ _ _ _).trans (three_other ?_ _ _ _)).trans ?_⟩ <;> first | exact hne | exact i3 | (rw [Q.add_block]; first | exact hne | exact i3)
      · rw [if_pos ⟨rfl, hnt⟩]
        have hq1 : ((n : Int) == (t.length : Int)) = false := by simp; omega
        have hq2 : ((n : Int) != (t.length : Int)) = true := by simp; omega
        have HNT := hid hnt
        clear hnt
        go_enter Tryz.func69, Tryz.ntmps69
        go_wp2_with (first
          | (go_at_call 94; refine (hscan _).mono ?_; rintro e w1 ⟨v, rfl, ⟨ad, len, cap, rfl, hI⟩, hns, hb1⟩; have HNS := hid hns; clear hns; obtain ⟨a, rfl, hc0, hlen, hcap, hT⟩ := sv_tail hI; rw [Addr.add_zero'] at hc0; have hg1 := (hb1.block w.heap.size (by simp)).trans (heap_alloc_last w _); have hmx := hI.hmax; have hmx2 := hI.hle; have hwl : IntKind.u64.wrap ((t.length : Nat) : Int) = (t.length : Int) := (by rw [IntKind.wrap_u64]; unfold maxLen at hmx; omega); have HI := hid hT; have HB1 := hid hb1; clear hI hT)
          | (go_at_call 95; refine (hrh _ (HT.out.keep ((((Below.refl _ w).alloc (Nat.le_refl _) _).trans (HB1.out.mono (by simp)))) (Nat.le_refl _))).mono ?_; rintro e w2 ⟨rfl, hb2⟩; have hg2 := (hb2.block w.heap.size (Array.getElem?_eq_some_iff.1 hg1).1).trans hg1; obtain ⟨⟨k0, k1, k2⟩, f0, f1, f2⟩ := three hg2; have HB2 := hid hb2; clear hb2))
        all_goals
          have hbB : Below w.heap.size w w2 := (((Below.refl _ w).alloc (Nat.le_refl _) _).trans (HB1.out.mono (by simp))).trans (HB2.out.mono (by have := HB1.out.size; simp at this; omega))
          refine seg_end hg2 _ _ _ _ _ _ _ _ rfl rfl ⟨?_, three_below (three_below hbB (Nat.le_refl _) _ _ _) (Nat.le_refl _) _ _ _⟩
          show Ending.returned _ = Ending.returned _
          rfl
end Go.Proofs.YtcioomlhdaihkaaGreatDoor.L
