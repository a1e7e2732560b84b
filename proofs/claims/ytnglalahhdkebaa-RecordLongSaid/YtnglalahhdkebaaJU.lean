/-
  Contracts of the document's answer for package wire: numbers and texts read.
-/
import Derived.Test.YtnglalahhdkebaaJD
import Derived.WalkLawsBesides
namespace Go.Proofs.Ytnglalahhdkebaa
open Go Go.RowKit Wire

set_option maxRecDepth 100000
set_option linter.unusedVariables false
set_option linter.unusedSimpArgs false
set_option maxRecDepth 100000
set_option linter.unusedVariables false
set_option linter.unusedSimpArgs false
theorem takeNum_of_none {l : List UInt8} (h : parse l = none) (most : Nat) : takeNum (some l) most = (0, none) := by
  unfold takeNum; rw [Option.bind_some, h]
theorem takeNum_of_some {l r : List UInt8} {n : Nat} (h : parse l = some (n, r)) (most : Nat) : takeNum (some l) most = if n ≤ most then (n, some r) else (0, none) := by
  unfold takeNum; rw [Option.bind_some, h]

theorem ref_TakeNum (st : St) (hs : Small st) (most : Nat) (W : World) :
    Calls Try.prog 41 #[.agg (rcells st), .int .u64 most] W fun e w' => e = .returned (.tuple #[.int .u64 ((takeNum st most).1 : Nat), .agg (rcells (takeNum st most).2)]) ∧ Below W.heap.size W w' := by
  match st, hs with
  | none, _ => exact takeNum_A none rfl most W
  | some [], _ => exact takeNum_A (some []) rfl most W
  | some (b :: r), hs =>
    have hl : (b :: r).length ≤ 1000000 := hs
    have hsz : (ba (b :: r)).size = r.length + 1 := by rw [ba_size]; rfl
    have hb256 := Wire.u8_lt b
    by_cases hb : b.toNat < 128
    · have hp : parse (b :: r) = some (b.toNat, r) := by rw [parse_cons, if_pos hb]
      rw [takeNum_of_some hp]
      have hR : (ba (b :: r)).extract 1 (ba (b :: r)).size = ba r := by
        have := ba_extract_from (b :: r) 1
        rw [ba_size]; exact this
      have hN := fun W => ref_Num b.toNat (by omega) W
      rw [enc_small hb, UInt8.ofNat_toNat] at hN
      have := takeNum_B (ba (b :: r)) (ba [b]) (ba r) b.toNat most (by rw [hsz]; simpa using hl) (by rw [hsz]; omega) rfl hb (ba_extract_to (b :: r) 1) hR hN W
      by_cases hm : b.toNat ≤ most
      · rw [if_pos hm] at this ⊢; exact this
      · rw [if_neg hm] at this ⊢; exact this
    · obtain ⟨k, hk⟩ : ∃ k : Nat, k = b.toNat - 128 := ⟨_, rfl⟩
      by_cases hkr : 8 < k ∨ (ba (b :: r)).size < 1 + k
      · have hp : parse (b :: r) = none := by
          rw [parse_cons, if_neg hb, if_neg]
          rintro ⟨c1, _, _, c4⟩
          rw [hsz] at hkr; omega
        rw [takeNum_of_none hp]
        exact takeNum_C1 (ba (b :: r)) b.toNat k most (by rw [hsz]; simpa using hl) (by rw [hsz]; omega) rfl (by omega) hkr (by omega) W
      · have hk8 : k ≤ 8 := by omega
        have hkl : k ≤ r.length := by rw [hsz] at hkr; omega
        have hbound : ∀ j, j ≤ k → big (r.take j) < 18446744073709551616 := fun j hj => by
          have h1 := big_lt (r.take j)
          have h2 : (r.take j).length ≤ 8 := by rw [List.length_take]; omega
          have h3 := Nat.pow_le_pow_right (show 0 < 256 by omega) h2
          exact Nat.lt_of_lt_of_le h1 (by simpa using h3)
        have hstep : ∀ j, j < k → ∀ h : j + 1 < (ba (b :: r)).size, big (r.take (j + 1)) = 256 * big (r.take j) + (ba (b :: r))[j + 1].toNat := fun j hj h => by
          have hjr : j < r.length := by omega
          rw [List.take_succ_eq_append_getElem hjr, big_snoc]
          rfl
        have hR : (ba (b :: r)).extract (1 + k) (ba (b :: r)).size = ba (r.drop k) := by
          have := ba_extract_from (b :: r) (1 + k)
          rw [show (b :: r).drop (1 + k) = r.drop k by rw [Nat.add_comm]; rfl] at this
          rw [ba_size]; exact this
        have hP : (ba (b :: r)).extract 0 (1 + k) = ba (b :: r.take k) := by
          have := ba_extract_to (b :: r) (1 + k)
          rw [show (b :: r).take (1 + k) = b :: r.take k by rw [Nat.add_comm]; rfl] at this
          exact this
        have hcat : b :: r = (b :: r.take k) ++ r.drop k := by simp
        have hm := hbound k (Nat.le_refl _)
        have hyes : enc (big (r.take k)) = b :: r.take k → parse (b :: r) = some (big (r.take k), r.drop k) := fun e => by
          rw [hcat, ← e]; exact parse_enc hm _
        have hno : enc (big (r.take k)) ≠ b :: r.take k → parse (b :: r) = none := fun e => by
          rw [parse_cons, if_neg hb, if_neg]
          rw [← hk]
          intro hc
          have hp : parse (b :: r) = some (big (r.take k), r.drop k) := by rw [parse_cons, if_neg hb, ← hk, if_pos hc]
          have := (parse_some hp).1
          rw [hcat] at this
          exact e (List.append_cancel_right this).symm
        refine takeNum_C (ba (b :: r)) (ba (b :: r.take k)) (ba (r.drop k)) (ba (enc (big (r.take k)))) b.toNat k most (big (r.take k)) (fun j => big (r.take j)) (decide (enc (big (r.take k)) = b :: r.take k)) _ ⟨fun hc => ?_, fun hc => ?_⟩ (by rw [hsz]; simpa using hl) (by rw [hsz]; omega) rfl (by omega) hk8 (by omega) rfl hstep hbound rfl hP hR ?_ (ref_Num _ hm) W
        · have e : enc (big (r.take k)) = b :: r.take k := by simpa using hc.1
          rw [takeNum_of_some (hyes e), if_pos hc.2]
          rfl
        · by_cases e : enc (big (r.take k)) = b :: r.take k
          · rw [takeNum_of_some (hyes e), if_neg (fun x => hc ⟨by simpa using e, x⟩)]
            rfl
          · rw [takeNum_of_none (hno e)]
            rfl
        · rw [beq_lists, ba_list, ba_list]

theorem rcells_form (st : St) : ∃ X f, rcells st = #[.string X, .bool f] := by
  cases st <;> exact ⟨_, _, rfl⟩

def textRes : St → Nat → Array Value
  | some r, n => if n ≤ r.length then #[.string (ba (r.take n)), .agg #[.string (ba (r.drop n)), .bool true]] else #[.string ⟨#[]⟩, .agg #[.string ⟨#[]⟩, .bool false]]
  | none, _ => #[.string ⟨#[]⟩, .agg #[.string ⟨#[]⟩, .bool false]]

end Go.Proofs.Ytnglalahhdkebaa

/-
  Contracts of the document's answer for package wire: dots read.
-/
namespace Go.Proofs.Ytnglalahhdkebaa
open Go Go.RowKit Wire

set_option maxRecDepth 100000
set_option linter.unusedVariables false
set_option linter.unusedSimpArgs false
theorem last_three (W : World) (a b c : Obj) : (((W.alloc a).alloc b).alloc c).heap[W.heap.size + 2]? = some c := by
  have := heap_alloc_last ((W.alloc a).alloc b) c
  rw [World.size_alloc, World.size_alloc] at this
  exact this
theorem first_three (W : World) (a b c : Obj) : (((W.alloc a).alloc b).alloc c).heap[W.heap.size]? = some a := (Below.heap_alloc _ _ _ (by simp; omega)).trans (first_two W a b)
theorem kept_block {w w' : World} {g : Nat} {o : Obj} (h : w.heap[g]? = some o) (hb : Below w.heap.size w w') : w'.heap[g]? = some o := (hb.block _ (lt_of_some h)).trans h
theorem kept_alloc {w : World} {g : Nat} {o : Obj} (h : w.heap[g]? = some o) (o' : Obj) : (w.alloc o').heap[g]? = some o := (Below.heap_alloc _ _ _ (lt_of_some h)).trans h

theorem set22 {w : World} {b1 b2 : Nat} {t1 t2 : TypeId} {z0 z1 y0 y1 : Value} (hne : b1 ≠ b2) (h1 : w.heap[b1]? = some (.cells #[z0, z1] t1 (0, 0))) (h2 : w.heap[b2]? = some (.cells #[y0, y1] t2 (0, 0))) (a0 a1 c0 c1 : Value) :
    ((((w.setCell ⟨b1, 0, none⟩ a0).setCell ⟨b1, 1, none⟩ a1).setCell ⟨b2, 0, none⟩ c0).setCell ⟨b2, 1, none⟩ c1).heap[b1]? = some (.cells #[a0, a1] t1 (0, 0)) ∧
      ((((w.setCell ⟨b1, 0, none⟩ a0).setCell ⟨b1, 1, none⟩ a1).setCell ⟨b2, 0, none⟩ c0).setCell ⟨b2, 1, none⟩ c1).heap[b2]? = some (.cells #[c0, c1] t2 (0, 0)) := by
  constructor
  · rw [Below.heap_setCell _ _ _ _ hne, Below.heap_setCell _ _ _ _ hne]
    exact set2_heap h1 a0 a1
  · exact set2_heap ((Below.heap_setCell _ _ _ _ (Ne.symm hne)).trans ((Below.heap_setCell _ _ _ _ (Ne.symm hne)).trans h2)) c0 c1

end Go.Proofs.Ytnglalahhdkebaa

/-
  Contracts of the document's answer for package wire: vectors read.
-/
namespace Go.Proofs.Ytnglalahhdkebaa
open Go Go.RowKit Wire

set_option maxRecDepth 100000
set_option linter.unusedVariables false
set_option linter.unusedSimpArgs false
theorem last_four (W : World) (a b c d : Obj) : ((((W.alloc a).alloc b).alloc c).alloc d).heap[W.heap.size + 3]? = some d := by
  have := heap_alloc_last (((W.alloc a).alloc b).alloc c) d
  rw [World.size_alloc, World.size_alloc, World.size_alloc] at this
  exact this

theorem drew_heap (w : World) : w.drew.heap = w.heap := rfl
theorem set82a {w : World} {b1 b2 : Nat} {t1 t2 : TypeId} {z0 z1 z2 z3 z4 z5 z6 z7 y0 y1 : Value} (hne : b1 ≠ b2) (h1 : w.heap[b1]? = some (.cells #[z0, z1, z2, z3, z4, z5, z6, z7] t1 (0, 0))) (h2 : w.heap[b2]? = some (.cells #[y0, y1] t2 (0, 0))) (a0 a1 a2 a3 a4 a5 a6 a7 c0 c1 : Value) :
    ((((((((((w.setCell ⟨b1, 0, none⟩ a0).setCell ⟨b1, 1, none⟩ a1).setCell ⟨b1, 2, none⟩ a2).setCell ⟨b1, 3, none⟩ a3).setCell ⟨b1, 4, none⟩ a4).setCell ⟨b1, 5, none⟩ a5).setCell ⟨b1, 6, none⟩ a6).setCell ⟨b1, 7, none⟩ a7).setCell ⟨b2, 0, none⟩ c0).setCell ⟨b2, 1, none⟩ c1).heap[b1]? = some (.cells #[a0, a1, a2, a3, a4, a5, a6, a7] t1 (0, 0)) ∧ ((((((((((w.setCell ⟨b1, 0, none⟩ a0).setCell ⟨b1, 1, none⟩ a1).setCell ⟨b1, 2, none⟩ a2).setCell ⟨b1, 3, none⟩ a3).setCell ⟨b1, 4, none⟩ a4).setCell ⟨b1, 5, none⟩ a5).setCell ⟨b1, 6, none⟩ a6).setCell ⟨b1, 7, none⟩ a7).setCell ⟨b2, 0, none⟩ c0).setCell ⟨b2, 1, none⟩ c1).heap[b2]? = some (.cells #[c0, c1] t2 (0, 0)) := by
  constructor
  · rw [Below.heap_setCell _ _ _ _ hne, Below.heap_setCell _ _ _ _ hne]
    exact set8_heap h1 rfl a0 a1 a2 a3 a4 a5 a6 a7
  · refine set2_heap (z0 := y0) (z1 := y1) ?_ c0 c1
    rw [Below.heap_setCell _ _ _ _ (Ne.symm hne), Below.heap_setCell _ _ _ _ (Ne.symm hne), Below.heap_setCell _ _ _ _ (Ne.symm hne), Below.heap_setCell _ _ _ _ (Ne.symm hne), Below.heap_setCell _ _ _ _ (Ne.symm hne), Below.heap_setCell _ _ _ _ (Ne.symm hne), Below.heap_setCell _ _ _ _ (Ne.symm hne), Below.heap_setCell _ _ _ _ (Ne.symm hne)]
    exact h2
theorem set82b {w : World} {b1 b2 : Nat} {t1 t2 : TypeId} {z0 z1 z2 z3 z4 z5 z6 z7 y0 y1 : Value} (hne : b1 ≠ b2) (h1 : w.heap[b1]? = some (.cells #[z0, z1, z2, z3, z4, z5, z6, z7] t1 (0, 0))) (h2 : w.heap[b2]? = some (.cells #[y0, y1] t2 (0, 0))) (a0 a1 a2 a3 a4 a5 a6 a7 c0 c1 : Value) :
    ((((((((((w.setCell ⟨b2, 0, none⟩ c0).setCell ⟨b2, 1, none⟩ c1).setCell ⟨b1, 0, none⟩ a0).setCell ⟨b1, 1, none⟩ a1).setCell ⟨b1, 2, none⟩ a2).setCell ⟨b1, 3, none⟩ a3).setCell ⟨b1, 4, none⟩ a4).setCell ⟨b1, 5, none⟩ a5).setCell ⟨b1, 6, none⟩ a6).setCell ⟨b1, 7, none⟩ a7).heap[b1]? = some (.cells #[a0, a1, a2, a3, a4, a5, a6, a7] t1 (0, 0)) ∧ ((((((((((w.setCell ⟨b2, 0, none⟩ c0).setCell ⟨b2, 1, none⟩ c1).setCell ⟨b1, 0, none⟩ a0).setCell ⟨b1, 1, none⟩ a1).setCell ⟨b1, 2, none⟩ a2).setCell ⟨b1, 3, none⟩ a3).setCell ⟨b1, 4, none⟩ a4).setCell ⟨b1, 5, none⟩ a5).setCell ⟨b1, 6, none⟩ a6).setCell ⟨b1, 7, none⟩ a7).heap[b2]? = some (.cells #[c0, c1] t2 (0, 0)) := by
  constructor
  · exact set8_heap ((Below.heap_setCell _ _ _ _ hne).trans ((Below.heap_setCell _ _ _ _ hne).trans h1)) rfl a0 a1 a2 a3 a4 a5 a6 a7
  · rw [Below.heap_setCell _ _ _ _ (Ne.symm hne), Below.heap_setCell _ _ _ _ (Ne.symm hne), Below.heap_setCell _ _ _ _ (Ne.symm hne), Below.heap_setCell _ _ _ _ (Ne.symm hne), Below.heap_setCell _ _ _ _ (Ne.symm hne), Below.heap_setCell _ _ _ _ (Ne.symm hne), Below.heap_setCell _ _ _ _ (Ne.symm hne), Below.heap_setCell _ _ _ _ (Ne.symm hne)]
    exact set2_heap h2 c0 c1

theorem set82d {w : World} {b1 b2 : Nat} {t1 t2 : TypeId} {z0 z1 z2 z3 z4 z5 z6 z7 y0 y1 : Value} (hne : b1 ≠ b2) (h1 : w.heap[b1]? = some (.cells #[z0, z1, z2, z3, z4, z5, z6, z7] t1 (0, 0))) (h2 : w.heap[b2]? = some (.cells #[y0, y1] t2 (0, 0))) (a0 a1 a2 a3 a4 a5 a6 a7 c0 c1 : Value) :
    ((((((((((w.setCell ⟨b1, 0, none⟩ a0).setCell ⟨b1, 1, none⟩ a1).setCell ⟨b1, 2, none⟩ a2).setCell ⟨b1, 3, none⟩ a3).setCell ⟨b1, 4, none⟩ a4).setCell ⟨b1, 5, none⟩ a5).setCell ⟨b1, 6, none⟩ a6).setCell ⟨b1, 7, none⟩ a7).setCell ⟨b2, 0, none⟩ c0).setCell ⟨b2, 1, none⟩ c1).drew.heap[b1]? = some (.cells #[a0, a1, a2, a3, a4, a5, a6, a7] t1 (0, 0)) ∧ ((((((((((w.setCell ⟨b1, 0, none⟩ a0).setCell ⟨b1, 1, none⟩ a1).setCell ⟨b1, 2, none⟩ a2).setCell ⟨b1, 3, none⟩ a3).setCell ⟨b1, 4, none⟩ a4).setCell ⟨b1, 5, none⟩ a5).setCell ⟨b1, 6, none⟩ a6).setCell ⟨b1, 7, none⟩ a7).setCell ⟨b2, 0, none⟩ c0).setCell ⟨b2, 1, none⟩ c1).drew.heap[b2]? = some (.cells #[c0, c1] t2 (0, 0)) := by
  rw [drew_heap]
  exact set82a hne h1 h2 a0 a1 a2 a3 a4 a5 a6 a7 c0 c1

end Go.Proofs.Ytnglalahhdkebaa
