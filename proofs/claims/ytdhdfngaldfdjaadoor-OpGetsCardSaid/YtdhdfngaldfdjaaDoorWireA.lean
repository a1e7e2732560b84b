/-
  Package wire: the count of a number's bytes, bytes as a number; where writers and readers lie in memory.
-/
import Derived.Test.YtdhdfngaldfdjaaDoorProg
import Derived.Test.YtdhdfngaldfdjaaDoorWireM
import Derived.WalkKit
import Derived.LoopTactic
import Derived.WalkMore
import Derived.ScopeJumps
import Derived.Deep.WholeRow
import Derived.Outline
import Derived.Lib.AppendStr
import Derived.Maps.AppendAt
import Derived.Lib.UnsafeStr
namespace Go.Proofs.YtdhdfngaldfdjaaDoor
open Go Go.RowKit Wire

set_option maxRecDepth 100000
set_option linter.unusedVariables false
set_option linter.unusedSimpArgs false
theorem len_step (m : Nat) (h : 0 < m) : (dig m).length = (dig (m / 256)).length + 1 := by
  rw [dig_pos (by omega)]; simp

set_option maxRecDepth 100000 in
theorem wire_byteCount (n : Nat) (hn : n < 18446744073709551616) (w : World) :
    Calls Tryd.prog 53 #[.int .u64 n] w fun e w' => e = .returned (.int .i64 (dig n).length) ∧ w = w' := by
  go_enter Tryd.func53, Tryd.ntmps53
  go_wp2
  refine wp_scope_jumps 0 (fun a' w' => w' = w ∧ ∃ (m k : Nat) (u4 u5 u6 u7 u8 u9 : Value), a' = { tmps := #[.int .u64 m, undef, .int .i64 0, .int .i64 k, u4, u5, u6, u7, u8, u9, undef], defers := [] } ∧ (dig m).length + k = (dig n).length ∧ m < 18446744073709551616) (fun a' _ => (intOf (a'.tmps.getD 0 undef)).toNat) rfl ?_ ?_
  · have hd : (0 : Int) < n → 0 < n := fun h => by omega
    go_wp2
    go_step3
    go_wp2
    · rename_i hpos _
      go_step3
      refine ⟨rfl, rfl, n / 256, 1, _, _, _, _, _, _, by rw [Int.natCast_ediv]; rfl, ?_, by omega⟩
      rw [len_step n (by omega)]
    · rename_i hneg
      simp only [Exit.jump]
      go_ret
      have : n = 0 := by omega
      subst this
      exact ⟨by rw [dig_zero]; rfl, rfl⟩
  · rintro a' w' ⟨rfl, m, k, u4, u5, u6, u7, u8, u9, rfl, hs, hm⟩
    have h8 := dig_len8 hn
    have hk : k ≤ 8 := by omega
    go_wp2
    · rename_i hpos _
      go_step3
      have hl := len_step m (by omega)
      refine ⟨rfl, ⟨rfl, m / 256, k + 1, _, _, _, _, _, _, by rw [Int.natCast_ediv]; rfl, by omega, by omega⟩, ?_⟩
      simp [intOf]
      omega
    · rename_i hneg
      simp only [Exit.jump]
      go_ret
      have : m = 0 := by omega
      subst this
      rw [dig_zero] at hs
      have hs' : k = (dig n).length := by simpa using hs
      exact ⟨by rw [← hs']; rfl, rfl⟩

theorem wrap_u64 (n : Int) : IntKind.u64.wrap n = n % 18446744073709551616 := by simp [IntKind.wrap, IntKind.bits, IntKind.signed]
theorem or_u64 (a b : Nat) (ha : a < 18446744073709551616) (hb : b < 18446744073709551616) : bits .or .u64 (a : Int) (b : Int) = ((a ||| b : Nat) : Int) := by
  have hx : a ||| b < 2 ^ 64 := Nat.or_lt_two_pow (by omega) (by omega)
  show IntKind.u64.wrap ((BitVec.ofInt 64 (a : Int) ||| BitVec.ofInt 64 (b : Int)).toNat : Int) = _
  rw [BitVec.toNat_or, ofNat_toNat 64 a (by omega), ofNat_toNat 64 b (by omega), wrap_u64]; omega
theorem or_low (a c : Nat) (hc : c < 256) : a * 256 ||| c = a * 256 + c := by
  have := Nat.shiftLeft_add_eq_or_of_lt (show c < 2 ^ 8 by omega) a
  rw [Nat.shiftLeft_eq] at this
  exact this.symm
theorem big_u64 (m c : Nat) (hc : c < 256) : bits .or .u64 (IntKind.u64.wrap ((m : Int) % 18446744073709551616 * 256)) (IntKind.u64.wrap (c : Int)) = (((256 * m + c) % 18446744073709551616 : Nat) : Int) := by
  have h1 : IntKind.u64.wrap ((m : Int) % 18446744073709551616 * 256) = ((m % 72057594037927936 * 256 : Nat) : Int) := by rw [wrap_u64]; omega
  have h2 : IntKind.u64.wrap (c : Int) = (c : Int) := by rw [wrap_u64]; omega
  rw [h1, h2, or_u64 _ _ (by omega) (by omega), or_low _ _ hc]
  omega
theorem take_snoc (s : ByteArray) (k : Nat) (h : k < s.size) : s.data.toList.take (k + 1) = s.data.toList.take k ++ [s[k]] := by
  rw [List.take_succ_eq_append_getElem (by simpa using h)]; rfl
theorem take_all (s : ByteArray) : s.data.toList.take s.size = s.data.toList := List.take_of_length_le (by simp)

set_option maxRecDepth 100000 in
theorem wire_bigEndian (s : ByteArray) (hs : s.size ≤ 1000000) (w : World) :
    Calls Tryd.prog 68 #[.string s] w fun e w' => e = .returned (.int .u64 ((big s.data.toList % 18446744073709551616 : Nat) : Int)) ∧ w = w' := by
  go_enter Tryd.func68, Tryd.ntmps68
  go_wp2
  go_loop [3, 7] (fun x i => ∃ k : Nat, k ≤ s.size ∧ i = .int .i64 k ∧ x = .int .u64 ((big (s.data.toList.take k) % 18446744073709551616 : Nat) : Int)) (fun _ i => s.size - (intOf i).toNat)
  case atStart => exact ⟨0, by omega, rfl, rfl⟩
  case round =>
    obtain ⟨k, hk, rfl, rfl⟩ := hrel
    obtain ⟨m, hm⟩ : ∃ m : Nat, m = big (s.data.toList.take k) := ⟨_, rfl⟩
    rw [← hm]
    have HM : Hid (m = big (s.data.toList.take k)) := hm
    clear hm
    by_cases hlt : k < s.size
    · have hx := big_u64 m s[k].toNat (Wire.u8_lt _)
      have hn : big (s.data.toList.take (k + 1)) = 256 * m + s[k].toNat := by rw [take_snoc s k hlt, big_snoc, ← HM.out]
      have HN : Hid (big (s.data.toList.take (k + 1)) = 256 * m + s[k].toNat) := hn
      clear hn
      go_wp2
      go_round
      case rel => exact ⟨k + 1, by omega, by go_num, by rw [HN.out]; congr 1⟩
      case measure => simp [intOf]; omega
    · have : k = s.size := by omega
      subst this
      go_wp2
      go_ret
      rw [take_all] at HM
      exact ⟨by rw [HM.out]; rfl, rfl⟩

/-- Bytes as a string's. -/
def ba (l : List UInt8) : ByteArray := ⟨l.toArray⟩
theorem ba_list (l : List UInt8) : (ba l).data.toList = l := by simp [ba]
theorem ba_size (l : List UInt8) : (ba l).size = l.length := by simp [ba, ByteArray.size]
theorem ba_inj {a b : List UInt8} (h : ba a = ba b) : a = b := by rw [← ba_list a, h, ba_list]
theorem ba_of (s : ByteArray) : ba s.data.toList = s := by simp [ba]
theorem toList_inj {a b : ByteArray} (h : a.data.toList = b.data.toList) : a = b :=
  ByteArray.ext (Array.toList_inj.1 h)
theorem ba_append (a b : List UInt8) : ba a ++ ba b = ba (a ++ b) := toList_inj (by rw [ByteArray.data_append, Array.toList_append, ba_list, ba_list, ba_list])
theorem ba_get (l : List UInt8) (i : Nat) (h : i < (ba l).size) : l[i]? = some (ba l)[i] := by
  have h' : i < l.length := by rw [ba_size] at h; exact h
  rw [List.getElem?_eq_getElem h']; rfl

/-! ### Memory -/
/-- Below block B all blocks but g are as they were, and wherever they are all but g that hold no row of bytes; the streams too. -/
structure Keeps (B : Nat) (g : Option Nat) (w w' : World) : Prop where
  os : w'.os = w.os
  tape : w'.tape = w.tape
  output : w'.output = w.output
  size : w.heap.size ≤ w'.heap.size
  block : ∀ k, k < B → some k ≠ g → w'.heap[k]? = w.heap[k]?
  other : ∀ k cs t fr, w.heap[k]? = some (.cells cs t fr) → t ≠ 5 → some k ≠ g → w'.heap[k]? = some (.cells cs t fr)

theorem lt_of_some {w : World} {g : Nat} {o : Obj} (h : w.heap[g]? = some o) : g < w.heap.size := (Array.getElem?_eq_some_iff.1 h).1
theorem Keeps.refl (B : Nat) (g : Option Nat) (w : World) : Keeps B g w w := ⟨rfl, rfl, rfl, Nat.le_refl _, fun _ _ _ => rfl, fun _ _ _ _ h _ _ => h⟩
theorem Keeps.trans {B : Nat} {g : Option Nat} {a b c : World} (h : Keeps B g a b) (k : Keeps B g b c) : Keeps B g a c :=
  ⟨k.os.trans h.os, k.tape.trans h.tape, k.output.trans h.output, Nat.le_trans h.size k.size, fun i hi hg => (k.block i hi hg).trans (h.block i hi hg),
    fun i cs t fr hi ht hg => k.other i cs t fr (h.other i cs t fr hi ht hg) ht hg⟩
theorem Keeps.mono {B B' : Nat} {g : Option Nat} {a b : World} (h : Keeps B g a b) (hB : B' ≤ B) : Keeps B' g a b :=
  ⟨h.os, h.tape, h.output, h.size, fun k hk hg => h.block k (by omega) hg, h.other⟩
theorem _root_.Go.RowKit.Below.keeps {a b : World} (h : Below a.heap.size a b) (g : Option Nat) (B : Nat) (hB : B ≤ a.heap.size) : Keeps B g a b :=
  ⟨h.os, h.tape, h.output, h.size, fun k hk _ => h.block k (by omega), fun k _ _ _ hk _ _ => (h.block k (lt_of_some hk)).trans hk⟩
/-- Where the one block is none of the old ones. -/
theorem Keeps.below {B : Nat} {g : Option Nat} {a b : World} (h : Keeps B g a b) (hg : ∀ k, g = some k → B ≤ k) : Below B a b :=
  ⟨h.os, h.tape, h.output, h.size, fun k hk => h.block k hk (fun e => by have := hg k e.symm; omega)⟩
theorem Keeps.setCell (B : Nat) (a : World) (p : Addr) (u : Value) : Keeps B (some p.block) a (a.setCell p u) :=
  ⟨rfl, rfl, rfl, by simp [World.setCell], fun k _ hg => Below.heap_setCell _ _ _ _ (fun e => hg (by rw [e])), fun k _ _ _ hk _ hg => (Below.heap_setCell _ _ _ _ (fun e => hg (by rw [e]))).trans hk⟩
theorem Keeps.drew {B : Nat} {g : Option Nat} {a b : World} (h : Keeps B g a b) : Keeps B g a b.drew := ⟨h.os, h.tape, h.output, h.size, h.block, h.other⟩

/-- The writer in block g: it has the bytes l; the row that they lie in is in a block from B on. -/
def WAt (w : World) (B g : Nat) (l : List UInt8) : Prop :=
  ∃ v, w.heap[g]? = some (.cells #[v, .bool true] 97 (0, 0)) ∧ w.ownsRow B 5 1 v l.length (Lib.byteCells l)

theorem owner_other {w : World} {B : Nat} {v : Value} {n : Nat} {xs : List Value} (h : w.ownsRow B 5 1 v n xs) {g : Nat} {cs : Array Value} {t : TypeId} {fr : Nat × Nat} (hg : w.heap[g]? = some (.cells cs t fr)) (ht : t ≠ 5) : v.ownBlock ≠ some g := by
  intro he
  rcases h.2 with ⟨rfl, _⟩ | ⟨g', cap, cur, rfl, _, hgg, _⟩
  · simp [Value.ownBlock] at he
  · simp [Value.ownBlock] at he
    subst he
    rw [hg] at hgg
    cases hgg
    exact ht rfl
theorem WAt.lt {w : World} {B g : Nat} {l : List UInt8} (h : WAt w B g l) : g < w.heap.size := by
  obtain ⟨v, hg, _⟩ := h; exact lt_of_some hg

/-- Where no block of the writer's is touched. -/
theorem WAt.kept {w w' : World} {B g : Nat} {l : List UInt8} (h : WAt w B g l) (hb : Below w.heap.size w w') : WAt w' B g l := by
  obtain ⟨v, hg, ho⟩ := h
  refine ⟨v, (hb.block g (lt_of_some hg)).trans hg, ho.1, ?_⟩
  rcases ho.2 with hn | ⟨g', cap, cur, rfl, hB, hgg, rest⟩
  · exact .inl hn
  · exact .inr ⟨g', cap, cur, rfl, hB, (hb.block g' (lt_of_some hgg)).trans hgg, rest⟩
theorem WAt.mono {w : World} {B B' g : Nat} {l : List UInt8} (h : WAt w B g l) (hB : B' ≤ B) : WAt w B' g l := by
  obtain ⟨v, hg, ho⟩ := h
  refine ⟨v, hg, ho.1, ?_⟩
  rcases ho.2 with hn | ⟨g', cap, cur, rfl, hB', rest⟩
  · exact .inl hn
  · exact .inr ⟨g', cap, cur, rfl, by omega, rest⟩
/-- A writer with nothing in it has no row. -/
theorem WAt.at_nil (w : World) (B g : Nat) (h : w.heap[g]? = some (.cells #[.slice none 0 0, .bool true] 97 (0, 0))) : WAt w B g [] :=
  ⟨.slice none 0 0, h, World.ownsRow_nil _ _ _ _⟩

theorem byteCells_append (a b : List UInt8) : Lib.byteCells a ++ Lib.byteCells b = Lib.byteCells (a ++ b) := by simp [Lib.byteCells]

/-- Behind an append and the store of the new slice. -/
theorem WAt.put {W w1 w2 : World} {B g : Nat} {l m : List UInt8} {v v' : Value} (hg : W.heap[g]? = some (.cells #[v, .bool true] 97 (0, 0))) (ho : W.ownsRow B 5 1 v l.length (Lib.byteCells l))
    (h1 : Below W.heap.size W w1) (hB : B ≤ W.heap.size) (hgr : w1.grownBy w2 v.ownBlock) (hown : w2.ownsRow B 5 1 v' (l.length + m.length) (Lib.byteCells l ++ Lib.byteCells m)) :
    WAt (w2.setCell ⟨g, 0, none⟩ v') B g (l ++ m) ∧ Keeps B (some g) W (w2.setCell ⟨g, 0, none⟩ v') := by
  have hlt := lt_of_some hg
  have hne := owner_other ho hg (by decide)
  have hg1 : w1.heap[g]? = some (.cells #[v, .bool true] 97 (0, 0)) := (h1.block g hlt).trans hg
  have hg2 : w2.heap[g]? = some (.cells #[v, .bool true] 97 (0, 0)) := (hgr.block g (Nat.lt_of_lt_of_le hlt h1.size) (Ne.symm hne)).trans hg1
  have hne' := owner_other hown hg2 (by decide)
  have hg3 : (w2.setCell ⟨g, 0, none⟩ v').heap[g]? = some (.cells #[v', .bool true] 97 (0, 0)) := by
    rw [heap_setCell_same _ _ _ _ _ _ hg2]; rfl
  refine ⟨⟨v', hg3, ?_⟩, ?_⟩
  · rw [List.length_append, ← byteCells_append]
    refine ⟨hown.1, ?_⟩
    rcases hown.2 with hn | ⟨g', cap, cur, rfl, hB', hgg, rest⟩
    · exact .inl hn
    · refine .inr ⟨g', cap, cur, rfl, hB', ?_, rest⟩
      rw [Below.heap_setCell _ _ _ _ (by intro e; exact hne' (by simp [Value.ownBlock]; exact e))]
      exact hgg
  · refine (h1.keeps (some g) B hB).trans (Keeps.trans ⟨hgr.os, hgr.tape, hgr.output, hgr.size, ?_, ?_⟩ (Keeps.setCell B w2 ⟨g, 0, none⟩ v'))
    · intro k hk _
      exact hgr.block k (Nat.lt_of_lt_of_le hk (Nat.le_trans hB h1.size)) (fun e => by have := (ho.lt k e.symm).1; omega)
    · intro k cs t fr hk ht _
      refine (hgr.block k (lt_of_some hk) (fun e => ?_)).trans hk
      have hlk := (ho.lt k e.symm).2
      exact owner_other ho ((h1.block k hlk).symm.trans hk) ht e.symm

end Go.Proofs.YtdhdfngaldfdjaaDoor
