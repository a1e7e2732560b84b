/-
  Sets of dots: setOf, has.
-/
import Derived.Test.YtmjmgjdklhdcdaaDotR
import Derived.LoopTactic
import Derived.Outline
namespace Go.Proofs.Ytmjmgjdklhdcdaa
set_option linter.unusedVariables false
set_option linter.unusedSimpArgs false
open Go Go.RowKit Go.Maps

theorem hid {p : Prop} (h : p) : Hid p := h

/-- A slice value that reads as these dots. -/
def DotsV (w : World) (v : Value) (l : List Dot) : Prop := ∃ a len cap, v = .slice a len cap ∧ IsDots w a len cap l
theorem DotsV.keep {w w' : World} {v : Value} {l : List Dot} (h : DotsV w v l) (hb : Below w.heap.size w w') : DotsV w' v l := by
  obtain ⟨a, len, cap, e, h⟩ := h
  exact ⟨a, len, cap, e, h.keep hb⟩

/-- What one store does to a set. -/
theorem SetAt.store {w1 : World} {b n : Nat} {D : Dat} {l : List Dot} (hn : n ≤ l.length) (hk : KeysAre D l) {r m : Nat} (hr : r < 256) (hm : m < 4294967296) (h : w1.ownsMap Try.prog 24 unitElem b (n + 1) (D.put (dk (r, m)) (.agg []))) : SetAt w1 b (l ++ [(r, m)]) :=
  ⟨_, _, h, by simp; omega, hk.put (x := (r, m)) ⟨hr, hm⟩ _⟩

/-- What making a set leaves. -/
def SetPost (w : World) (l : List Dot) (e : Ending) (w' : World) : Prop := ∃ b, e = .returned (.map (some b)) ∧ w.heap.size ≤ b ∧ SetAt w' b l ∧ Below w.heap.size w w'

set_option maxHeartbeats 2000000 in
set_option maxRecDepth 100000 in
theorem dot_setOf (B : Nat) (ls : List (Value × List Dot)) (w : World) (hB : ∀ i v l, ls[i]? = some (v, l) → w.cell? ⟨B, i, none⟩ = some v ∧ DotsV w v l) (hn : ls.length ≤ 2) (hlen : (ls.flatMap (·.2)).length ≤ 1000000) :
    Calls Try.prog 33 #[.slice (some ⟨B, 0, none⟩) ls.length ls.length] w (SetPost w (ls.flatMap (·.2))) := by
  have hmm := @run_makeMap Try.prog
  go_enter Try.func33, Try.ntmps33
  go_wp2
  go_loopw [11] (fun i wr => ∃ k : Nat, k ≤ ls.length ∧ i = .int .i64 k ∧ SetAt wr w.heap.size ((ls.take k).flatMap (·.2)) ∧ Below w.heap.size w wr) (fun i _ => ls.length - (intOf i).toNat)
  case atStart => exact ⟨0, by omega, rfl, ⟨0, _, World.ownsMap_made _ _ _ _, by simp, keysAre_nil⟩, (Below.refl _ _).alloc (Nat.le_refl _) _⟩
  case round =>
    obtain ⟨k, hk, rfl, hS, hb⟩ := hrel
    obtain ⟨wo, hwo⟩ : ∃ wo : World, wo = wr := ⟨_, rfl⟩
    subst hwo
    by_cases hlt : k < ls.length
    · obtain ⟨v, l, hvl⟩ : ∃ v l, ls[k] = (v, l) := ⟨_, _, rfl⟩
      have hkk : ls[k]? = some (v, l) := by rw [List.getElem?_eq_getElem hlt, hvl]
      obtain ⟨hc0, a, len, cap, rfl, hI0⟩ := hB k v l hkk
      have hc : wo.cell? ⟨B, k, none⟩ = some (.slice a len cap) := cell_keep hb hc0
      have hI : IsDots wo a len cap l := hI0.keep hb
      have hcap : len ≤ 9223372036854775807 := by have := hI.2.1; have := hI.2.2.1; unfold maxLen at this; omega
      have hpre : (ls.take (k + 1)).flatMap (·.2) = (ls.take k).flatMap (·.2) ++ l := by
        rw [List.take_succ_eq_append_getElem hlt, hvl]; simp
      have htot : ((ls.take k).flatMap (·.2)).length + l.length ≤ 1000000 := by
        have h1 : ((ls.take (k + 1)).flatMap (·.2)).length ≤ (ls.flatMap (·.2)).length := by
          have h2 := List.take_append_drop (k + 1) ls
          have h3 : (ls.flatMap (·.2)).length = ((ls.take (k + 1)).flatMap (·.2)).length + ((ls.drop (k + 1)).flatMap (·.2)).length := by
            rw [← List.length_append, ← List.flatMap_append, h2]
          omega
        rw [hpre, List.length_append] at h1
        omega
      have HP := hid (And.intro hpre htot)
      obtain ⟨pre, hpr⟩ : ∃ pre, pre = (ls.take k).flatMap (·.2) := ⟨_, rfl⟩
      rw [← hpr] at hS
      have HQ := hid (hpr)
      have HI0 := hid (hI0)
      have HV := hid (And.intro hkk hvl)
      clear hpre htot hpr hvl hkk hI0 hc0
      go_wp2
      go_loopw [17] (fun i wr => ∃ j : Nat, j ≤ len ∧ i = .int .i64 j ∧ SetAt wr w.heap.size (pre ++ l.take j) ∧ Below w.heap.size w wr) (fun i _ => len - (intOf i).toNat)
      case atStart => exact ⟨0, by omega, rfl, by simpa using hS, hb⟩
      case round =>
        obtain ⟨j, hj, rfl, hS2, hb2⟩ := hrel
        by_cases hjl : j < len
        · cases a with
          | none => have := hI.none_len; omega
          | some ad =>
            have hI2 : IsDots wr (some ad) len cap l := HI0.out.keep hb2
            obtain ⟨r, m, B1, O1, sp1, hx, hr, hm, hA, hc0, hc1⟩ := hI2.at j hjl
            obtain ⟨nn, D, hown, hnn, hK⟩ := hS2
            have hkey : keyOf Try.prog 24 (.agg #[.int .u8 (r : Int), .int .u32 (m : Int)]) = some (dk (r, m)) := keyOf_dot (d := (r, m)) ⟨hr, hm⟩
            have hnx : nn < 1000001 := by
              obtain ⟨_, h2⟩ := HP.out
              rw [← HQ.out] at h2
              rw [List.length_append, List.length_take] at hnn
              omega
            have HX := hid (And.intro hx (And.intro hr (And.intro hm (And.intro hnn hK))))
            have HO := hid (hown)
            have HKY := hid (hkey)
            clear hx hnn hK hI hI2 hkey hown
            go_wp2_with (first
              | (at_mapUpdate; refine wpList_mapUpdate_own _ rfl _ _ _ 56 rfl 24 66 dotKeyed Try.underlying56 (unitElem (H := Unit)) w.heap.size nn D rfl (HO.out.alloc _) (by unfold maxLen; omega) _ _ _ rfl rfl HKY.out _ [] unitElem_mk ?_; intro w1 hown1 hgrow1)
              | go_in)
            have hs1 := SetAt.store HX.out.2.2.2.1 HX.out.2.2.2.2 HX.out.2.1 HX.out.2.2.1 hown1
            have hb3 : Below w.heap.size w w1 := (hb2.alloc hb2.size _).grown hgrow1 (by have := hb2.size; simp; omega) (fun k e => by cases e; exact Nat.le_refl _)
            have e1 : pre ++ l.take j ++ [(r, m)] = pre ++ l.take (j + 1) := by
              have hx := HX.out.1
              have hjl' : j < l.length := (List.getElem?_eq_some_iff.1 hx).1
              rw [List.take_succ_eq_append_getElem hjl', (List.getElem?_eq_some_iff.1 hx).2, List.append_assoc]
            rw [e1] at hs1
            have HE := hid (And.intro hs1 hb3)
            clear e1 hs1 hb3 hown1 hgrow1
            go_roundw
            case rel => exact ⟨j + 1, by omega, by go_num, HE.out.1, HE.out.2⟩
            case measure => simp [intOf]; omega
        · have : j = len := by omega
          subst this
          have hl : l.length = j := hI.1
          rw [← hl, List.take_length] at hS2
          have HS := hid (And.intro hS2 hb2)
          clear hS2 hI hl
          go_wp2
          go_roundw
          case rel =>
            refine ⟨k + 1, by omega, by go_num, ?_, HS.out.2⟩
            rw [HP.out.1, ← HQ.out]; exact HS.out.1
          case measure => simp [intOf]; omega
    · have : k = ls.length := by omega
      subst this
      rw [List.take_length] at hS
      go_wp2
      go_ret
      exact ⟨_, rfl, Nat.le_refl _, hS, hb⟩

end Go.Proofs.Ytmjmgjdklhdcdaa
