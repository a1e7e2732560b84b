/-
  Disks: the names of files, in order.
-/
import Derived.Test.YtcioomlhdaihkaaGreatDoorKX
import Derived.Test.YtcioomlhdaihkaaGreatDoorKS
import Derived.Test.YtcioomlhdaihkaaGreatDoorKCl
namespace Go.Proofs.YtcioomlhdaihkaaGreatDoor.K
set_option linter.unusedVariables false
set_option linter.unusedSimpArgs false
set_option maxRecDepth 100000
open Go Go.RowKit Go.Maps Go.MapKept Go.ChangeMaps Go.Sort Go.Shelf

set_option maxRecDepth 100000
set_option linter.unusedVariables false
set_option linter.unusedSimpArgs false
theorem sortsS (m : Nat) : AnyZ.SortsIn Tryz.prog sortedS_ren Fence.wide m :=
  ⟨fun blk off cap ss W hH hblk hsz => callsIn_wide.2 (AnyM.slices_Sort_string sortS blk off cap ss W hH hblk hsz),
   fun p cap W => callsIn_wide.2 (AnyM.slices_Sort_string_none sortS p cap W)⟩

theorem clone_str (s : Str) (hs : s.length ≤ 1099511627776) (w : World) : Calls Tryz.prog 31 #[strV s] w fun e w' => e = .returned (strV s) ∧ Below w.heap.size w w' := strings_Clone ⟨s.toArray⟩ w (by simpa [ByteArray.size] using hs)

theorem names_sorted {fs : Fs} (hs : Sorted fs) : (names fs).mergeSort leB = names fs := by
  refine List.mergeSort_of_pairwise ?_
  refine List.pairwise_map.2 (hs.imp (fun {a b} h => ?_))
  exact decide_eq_true (List.le_of_lt h)

/-- A slice of strings. -/
def StrsAt (w : World) (v : Value) (l : List Str) : Prop := (v = .slice none 0 0 ∧ l = []) ∨ ∃ g cap, v = .slice (some ⟨g, 0, none⟩) l.length cap ∧ 0 < l.length ∧ ∀ (i : Nat) (s : Str), l[i]? = some s → w.cell? ⟨g, i, none⟩ = some (strV s)

/-- As the walk has it. -/
def RowS (B : Nat) (w : World) (ad : Option Addr) (l : List Str) : Prop := 0 < l.length → ∃ (g : Nat) (cur : Array Value), ad = some ⟨g, 0, none⟩ ∧ B ≤ g ∧ w.heap[g]? = some (.cells cur 9 (0, 0)) ∧ ∀ (i : Nat) (s : Str), l[i]? = some s → cur[i]? = some (strV s)
theorem rowS {B B' : Nat} {w : World} {v : Value} {ss : List Str} {fs : Fs} (hs : Sorted fs) {D : DataW Value} (hP : (names fs).Perm (strKeys D)) (hS : ss.Perm (strKeys D)) (hB : B ≤ B')
    (hrow : w.ownsRow B' 9 1 v ss.length ((ss.mergeSort (fun x y => decide (x ≤ y))).map Go.Proofs.encStr)) : ∃ ad cap, v = .slice ad (names fs).length cap ∧ RowS B w ad (names fs) ∧ (names fs).length ≤ cap ∧ cap ≤ maxLen := by
  have hp : ss.Perm (names fs) := hS.trans hP.symm
  have e1 : ss.mergeSort (fun x y => decide (x ≤ y)) = names fs := (mergeSort_of_perm hp).trans (names_sorted hs)
  rw [e1, hp.length_eq] at hrow
  rcases hrow.2 with ⟨rfl, h0⟩ | ⟨g, cap, cur, rfl, hb, hg, hsz, hle, hmx, ht⟩
  · exact ⟨none, 0, by rw [h0], fun h => by omega, by omega, Nat.zero_le _⟩
  · refine ⟨_, cap, rfl, fun _ => ⟨g, cur, rfl, by omega, hg, fun i s hi => ?_⟩, by omega, by omega⟩
    have hlt := (List.getElem?_eq_some_iff.1 hi).1
    have h3 : ((names fs).map Go.Proofs.encStr)[i]? = some (strV s) := by rw [List.getElem?_map, hi]; rfl
    rw [← ht, List.getElem?_take, if_pos (by omega), Array.getElem?_toList] at h3
    exact h3
/-- A slice of strings, in a block that is known whole. -/
def StrsF (w : World) (v : Value) (l : List Str) : Prop := (v = .slice none 0 0 ∧ l = []) ∨ ∃ (g cap : Nat) (cur : Array Value), v = .slice (some ⟨g, 0, none⟩) l.length cap ∧ 0 < l.length ∧ l.length ≤ cap ∧ cap ≤ maxLen ∧ w.heap[g]? = some (.cells cur 9 (0, 0)) ∧ ∀ (i : Nat) (s : Str), l[i]? = some s → cur[i]? = some (strV s)
/-- A slice that is new. -/
def NewV (B : Nat) (v : Value) : Prop := ∀ g n cap, v = .slice (some ⟨g, 0, none⟩) n cap → B ≤ g
theorem RowS.newv {B : Nat} {w : World} {ad : Option Addr} {l : List Str} (h : RowS B w ad l) {n cap cap' : Nat} (hz : l.length = 0 → ad = none ∧ cap' = 0) : NewV B (.slice ad n cap) := by
  intro g n' cap' e
  by_cases h0 : 0 < l.length
  · obtain ⟨g', cur, rfl, hB, _⟩ := h h0
    cases e
    exact hB
  · obtain ⟨rfl, _⟩ := hz (by omega)
    cases e
theorem RowS.strsF {B : Nat} {w : World} {ad : Option Addr} {l : List Str} (h : RowS B w ad l) {cap : Nat} (hz : l.length = 0 → ad = none ∧ cap = 0) (h1 : l.length ≤ cap) (h2 : cap ≤ maxLen) : StrsF w (.slice ad l.length cap) l := by
  by_cases h0 : 0 < l.length
  · obtain ⟨g, cur, rfl, _, hg, hc⟩ := h h0
    exact .inr ⟨g, cap, cur, rfl, h0, h1, h2, hg, hc⟩
  · have h3 : l.length = 0 := by omega
    obtain ⟨rfl, rfl⟩ := hz h3
    rw [h3]
    exact .inl ⟨rfl, List.eq_nil_of_length_eq_zero h3⟩

set_option maxHeartbeats 1000000 in
theorem disk_List {p mv n ms : Nat} {w : World} {f : Str → Option Value} {fs : Fs} (h1 : w.cell? ⟨p, 1, none⟩ = some (.map (some ms))) (h2 : w.cell? ⟨p, 2, none⟩ = some (.map (some mv))) (hm : MapAt w mv n f) (hs : Sorted fs) (hf : Same f fs) (hn : fs.length ≤ 1099511627776) :
    Calls Tryz.prog 65 #[.pointer (some ⟨p, 0, none⟩)] w fun e w' => (∃ v, e = .returned v ∧ StrsF w' v (names fs) ∧ NewV w.heap.size v) ∧ Below w.heap.size w w' := by
  obtain ⟨D, hown, hD⟩ := hm
  have hperm := MapAt.keys hown hD hs hf
  have hsize : Maps.size D = fs.length := by rw [size_keys, ← hperm.length_eq, names, List.length_map]
  have hbl := hown.lt
  have hb : Below w.heap.size w (w.alloc (.cells #[.map (some mv)] 50)) := (Below.refl _ w).alloc (Nat.le_refl _) _
  have hseq : SeqGives Fence.wide 2 Tryz.prog 120 #[.pointer (some ⟨w.heap.size, 0, none⟩)] Go.Proofs.encStr (fun ss => ss.Perm (strKeys D)) (Maps.size D) (w.alloc (.cells #[.map (some mv)] 50)) :=
    AnyZ.keys_gives (ρ := keysS_ren) { keysS with } Fence.wide _ trivial rfl (by omega) w.heap.size mv n D _ (by simp) (by simp) (by
      obtain ⟨es, clock, hb, Ft, hs, hD⟩ := hown
      exact ⟨es, clock, (Below.heap_alloc _ _ mv hbl).trans hb, Ft, hs, hD⟩)
  have cK : ∀ mb W, Calls Tryz.prog 93 #[.map mb] W fun e w' => e = .returned (.func (.func 120) #[] #[.pointer (some ⟨W.heap.size, 0, none⟩)]) ∧ w' = W.alloc (.cells #[.map mb] 50) := fun mb W => (callsIn_wide (n := 5)).1 (AnyZ.keys_in keysS Fence.wide 5 trivial rfl mb W)
  have cS := AnyZ.sorted_in sortedS Fence.wide 5 trivial trivial trivial trivial rfl (by omega) (sortsS _) (enters_of Tryz.func119 (by kernel_rfl) rfl) 120 #[.pointer (some ⟨w.heap.size, 0, none⟩)] trivial (enters_of Tryz.func120 (by kernel_rfl) rfl) _ _ (by rw [hsize]; unfold maxLen; omega) (by rw [hsize]; omega) _ hseq
  change CallsIn _ _ Tryz.prog 92 _ _ _ at cS
  have cS' := callsIn_wide.1 cS
  clear cS hseq hD
  have HP := Lib.hid hperm
  have HS := Lib.hid hs
  have HF := Lib.hid hf
  have HN := Lib.hid hn
  clear hperm hs hf hn hsize
  go_enter Tryz.func65, Tryz.ntmps65
  go_wp2_with (first
    | (go_at_call 25; refine (none_some p ms w h1).mono ?_; rintro e w' ⟨rfl, rfl⟩)
    | (go_at_call 93; refine (cK _ _).mono ?_; rintro e w' ⟨rfl, rfl⟩)
    | (go_at_call 92; refine cS'.mono ?_; rintro e w1 ⟨v, ss, rfl, hS, hrow, hnil, hb1⟩; obtain ⟨ad, cap, rfl, hR, hcp1, hcp2⟩ := rowS (B := w.heap.size) HS.out HP.out hS (by simp) hrow; have HCP := Lib.hid (And.intro hcp1 hcp2); clear hcp1 hcp2; have HR := Lib.hid hR; have HNI := Lib.hid hnil; have HSS := Lib.hid hS; clear hR hnil hrow hS))
  have hz : (names fs).length = 0 → ad = none ∧ cap = 0 := fun h0 => by
    have h3 : ss = [] := by
      have := (HSS.out.trans HP.out.symm).length_eq
      exact List.eq_nil_of_length_eq_zero (by omega)
    have := HNI.out.2 h3
    simp at this
    exact ⟨this.1, this.2.2⟩
  have HZ := Lib.hid hz
  have hbw1 : Below w.heap.size w w1 := hb.trans (hb1.mono (by simp))
  have hle : (names fs).length ≤ 1099511627776 := by rw [names, List.length_map]; exact HN.out
  clear hz hb1
  go_loopw [16] (fun i wr => ∃ k : Nat, k ≤ (names fs).length ∧ i = .int .i64 k ∧ Hid (RowS w.heap.size wr ad (names fs)) ∧ Below w.heap.size w wr) (fun i _ => (names fs).length - (intOf i).toNat)
  case atStart => exact ⟨0, Nat.zero_le _, rfl, HR, hbw1⟩
  case round =>
    obtain ⟨k, hk, rfl, hR, hbw⟩ := hrel
    by_cases hlt : k < (names fs).length
    · obtain ⟨g, cur, rfl, hB, hg, hc⟩ := hR.out (by omega)
      obtain ⟨s, hs⟩ : ∃ s, (names fs)[k]? = some s := ⟨_, List.getElem?_eq_getElem hlt⟩
      have hck := hc k s hs
      have hcell : wr.cell? ⟨g, k, none⟩ = some (strV s) := (cell_row hg k).trans hck
      have hsl : s.length ≤ 1099511627776 := by
        obtain ⟨q, hq, rfl⟩ := List.mem_map.1 (List.mem_of_getElem? hs)
        exact HF.out.1 q hq
      have hgl := (Array.getElem?_eq_some_iff.1 hg).1
      have HC := Lib.hid hc
      have HK := Lib.hid hck
      clear hc hck hs
      go_wp2_with (go_at_call 31; refine (clone_str s hsl _).mono ?_; rintro e w2 ⟨rfl, hb2⟩; have hg2 := (hb2.block g hgl).trans hg; have hcell2 : w2.cell? ⟨g, k, none⟩ = some (strV s) := (cell_row hg2 k).trans HK.out; have hfz : w2.frozen? ⟨g, k, none⟩ = false := (by simp [World.frozen?, hg2]))
      have hg3 : (w2.setCell ⟨g, k, none⟩ (strV s)).heap[g]? = some (.cells cur 9 (0, 0)) := by
        simp only [World.setCell, Array.getElem?_modify, if_true, hg2]
        have : cur.setIfInBounds k (strV s) = cur := by
          apply Array.ext_getElem?
          intro j
          rw [Array.getElem?_setIfInBounds]
          split
          · rename_i e; subst e; rw [HK.out]; split
            · rfl
            · rename_i hn
              have := (Array.getElem?_eq_some_iff.1 HK.out).1
              omega
          · rfl
        simp [this]
      go_roundw
      case rel => exact ⟨k + 1, hlt, by go_num, Lib.hid (fun _ => ⟨g, cur, rfl, hB, hg3, HC.out⟩), (hbw.trans (hb2.mono hbw.size)).setCell hB _⟩
      case measure => simp [intOf]; omega
    · go_wp2
      go_ret
      exact ⟨⟨_, rfl, RowS.strsF hR.out HZ.out HCP.out.1 HCP.out.2, RowS.newv hR.out HZ.out⟩, hbw⟩
end Go.Proofs.YtcioomlhdaihkaaGreatDoor.K
