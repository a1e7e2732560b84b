/-
  A set in order; dot.Sort, dot.Union.
-/
import Derived.Test.YtmjmgjdklhdcdaaDotT
import Derived.Shelf.SlSortCmp.NoneTotal
namespace Go.Proofs.Ytmjmgjdklhdcdaa
set_option linter.unusedVariables false
set_option linter.unusedSimpArgs false
open Go Go.RowKit Go.Maps Go.Sort Go.Shelf

/-- A row sorted by the dots' order. -/
def srt (ss : List Dot) : List Dot := ss.mergeSort fun x y => !(ltOf cmpD) y x
theorem srt_length (ss : List Dot) : (srt ss).length = ss.length := List.length_mergeSort ss

theorem below_sort' {B : Nat} {W : World} {g : Nat} (n : Nat) (os : Array Obj) (d : Array Dot) (hg : B ≤ g) (hB : B ≤ W.heap.size) : Below B W (sortWorldK Dot.enc 2 W g 0 n d os) :=
  ⟨rfl, rfl, rfl, by
    show _ ≤ ((W.heap.modify g _) ++ os).size
    simp, fun k hk => by
    show ((W.heap.modify g _) ++ os)[k]? = _
    rw [Array.getElem?_append_left (by simp; omega), Array.getElem?_modify, if_neg (by omega)]⟩

theorem enters_Compare : ∀ args w, (callFunc 14 args).run Try.prog w = .ok (.enter 14 args) w := enters_of Try.func14 (by kernel_rfl) rfl

theorem sort_owned (base : Nat) (v : Value) (ss : List Dot) (w : World) (h : w.ownsRow base 24 2 v ss.length (flat ss)) (hlen : ss.length ≤ 1000000) (hbase : base ≤ w.heap.size) :
    Calls Try.prog 46 #[v, .func (.func 14) #[] #[]] w fun e w' => e = .returned (.tuple #[]) ∧ w'.ownsRow base 24 2 v (srt ss).length (flat (srt ss)) ∧ Below base w w' := by
  have hnone : ∀ (p : Option Addr) (cap : Nat), ss = [] → v = .slice p 0 cap → Calls Try.prog 46 #[v, .func (.func 14) #[] #[]] w fun e w' => e = .returned (.tuple #[]) ∧ w'.ownsRow base 24 2 v (srt ss).length (flat (srt ss)) ∧ Below base w w' := fun p cap h0 hv => by
    subst h0 hv
    refine (AnyF.slices_SortFunc_none sortDot p cap (.func (.func 14) #[] #[]) w).mono ?_
    rintro e w' ⟨rfl, rfl⟩
    have e0 : srt [] = [] := by simp [srt]
    rw [e0]
    exact ⟨rfl, h, Below.refl _ _⟩
  rcases h.2 with ⟨hv, h0⟩ | ⟨g, cap, cur, hv, hgb, hg, hcap, hm, hsz, ht⟩
  · exact hnone none 0 (List.length_eq_zero_iff.1 h0) hv
  · by_cases h0 : ss.length = 0
    · exact hnone _ cap (List.length_eq_zero_iff.1 h0) (by rw [hv, h0])
    · subst hv
      have hcon := AnyQ.slices_SortFunc_total sortDot 2 Try.isAgg24 Try.sizeOf24 Dot.enc (fun _ => rfl) (fun x u hu => by simp [Dot.enc] at hu; rcases hu with rfl | rfl <;> rfl) cmpD cmp_swo 14 #[] g 0 cap ss.toArray w
        enters_Compare (fun _ _ _ _ x y => dot_Compare x y _) (holds_of_cells hg ht) (Array.getElem?_eq_some_iff.1 hg).1 (by simp; omega) cmp_total
      refine Calls.mono hcon ?_
      rintro e w' ⟨rfl, n, os, rfl⟩
      obtain ⟨cur', hg', hs', ht'⟩ := sort_block n os hg (srt_length ss) (by omega)
      refine ⟨rfl, ⟨flat_length _, .inr ⟨g, cap, cur', by rw [srt_length], hgb, hg', by rw [srt_length]; exact hcap, hm, by rw [hs', hsz], ht'⟩⟩, ?_⟩
      exact below_sort' n os _ hgb hbase

theorem ownsRow_base {W : World} {base base' : Nat} {e : TypeId} {size : Nat} {v : Value} {k : Nat} {xs : List Value} (h : W.ownsRow base e size v k xs) (hb : base' ≤ base) : W.ownsRow base' e size v k xs := by
  refine ⟨h.1, ?_⟩
  rcases h.2 with hn | ⟨g, cap, cur, hv, hbg, rest⟩
  · exact .inl hn
  · exact .inr ⟨g, cap, cur, hv, Nat.le_trans hb hbg, rest⟩

/-- What a function that makes a row leaves. -/
def RowPost (w : World) (c : List Dot) (e : Ending) (w' : World) : Prop := ∃ v, e = .returned v ∧ w'.ownsRow w.heap.size 24 2 v c.length (flat c) ∧ Below w.heap.size w w'
theorem RowPost.after {w w1 w2 : World} {c : List Dot} {e : Ending} (h : RowPost w1 c e w2) (hb : Below w.heap.size w w1) : RowPost w c e w2 := by
  obtain ⟨v, he, hr, hB⟩ := h
  exact ⟨v, he, ownsRow_base hr hb.size, hb.trans (hB.mono hb.size)⟩

theorem SetAt.size_le {w : World} {b n : Nat} {D : Dat} (h : w.ownsMap Try.prog 24 unitElem b n D) : Maps.size D ≤ n := h.size_le

/-- What is collected from a set, sorted, is the canonical row. -/
theorem srt_can {D : Dat} {l ss : List Dot} (hK : KeysAre D l) (hC : Coll D (fun _ => false) ss) : srt ss = can l := by
  refine can_unique (inc_sort hC.1) (fun d => ?_)
  rw [show d ∈ srt ss ↔ d ∈ ss from mem_sort d]
  constructor
  · intro hd
    have ho := hC.2.1 d hd
    exact (hK.2.2 d ho).1 ((hC.2.2 d ho).1 hd).1
  · intro hd
    have ho := hK.2.1 d hd
    exact (hC.2.2 d ho).2 ⟨(hK.2.2 d ho).2 hd, rfl⟩

set_option maxHeartbeats 1000000 in
theorem sorted_func (Bm b nn : Nat) (D : Dat) (w : World) (hBm : Bm < w.heap.size) (hm : w.cell? ⟨Bm, 0, none⟩ = some (.map (some b))) (hown : w.ownsMap Try.prog 24 unitElem b nn D) (hs : Maps.size D ≤ 1000000) (l : List Dot) (hl : l.length ≤ 1000000) (hK : KeysAre D l) :
    Calls Try.prog 42 #[.func (.func 47) #[] #[.pointer (some ⟨Bm, 0, none⟩)], .func (.func 14) #[] #[]] w (RowPost w (can l)) := by
  have hcol := collect_keys Bm b nn D w hBm hm hown hs
  have HK := hid hK
  clear hm hown hK
  go_enter Try.func42, Try.ntmps42
  go_wp2_with (first
    | (go_at_call 45; refine hcol.mono ?_; rintro e w1 ⟨v, ss, rfl, hC, hrow, hb⟩; have hlen : ss.length ≤ 1000000 := by {
        have h1 := length_can l
        rw [← srt_can HK.out hC, srt_length] at h1
        omega }
       have HC := hid hC; have HR := hid hrow; clear hC hrow)
    | (go_at_call 46; refine (sort_owned w.heap.size v ss _ HR.out hlen hb.size).mono ?_; rintro e w2 ⟨rfl, hrow2, hb2⟩; have HR2 := hid hrow2; clear hrow2))
  go_ret
  rw [← srt_can HK.out HC.out]
  exact ⟨v, rfl, HR2.out, hb.trans hb2⟩

end Go.Proofs.Ytmjmgjdklhdcdaa
