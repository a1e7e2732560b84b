/-
  Contracts of package wire: the readers.
-/
import Derived.Test.YtagdapmnghnphaaDoorZJW
import Derived.Deep.RegionHeld3
import Derived.WalkLawsBesides
import Derived.Deep.RegionWith
import Derived.Laws.StructEq
import Derived.DeepKeys
namespace Go.Proofs.YtagdapmnghnphaaDoor
open Go Go.RowKit Wire

set_option maxRecDepth 100000
set_option linter.unusedVariables false
set_option linter.unusedSimpArgs false
set_option maxRecDepth 100000
set_option linter.unusedVariables false
set_option linter.unusedSimpArgs false
def rcells : St → Array Value
  | some l => #[.string (ba l), .bool true]
  | none => #[.string ⟨#[]⟩, .bool false]
def rptr (p : Option Nat) : Value := .pointer (p.map fun g => ⟨g, 0, none⟩)
/-- Few enough bytes. -/
def Small (st : St) : Prop := (st.getD []).length ≤ 1000000

/-- Is the reader at its end? -/
def endOf (st : St) : Int := if st = some [] then 0 else 5
/-- Bytes are taken. -/
def takeB (st : St) (n : Nat) : (List UInt8 × Bool) × St :=
  match st with
  | some l => if n ≤ l.length then ((l.take n, true), some (l.drop n)) else (([], false), some l)
  | none => (([], false), none)

theorem ba_extract_to (l : List UInt8) (n : Nat) : (ba l).extract 0 n = ba (l.take n) := toList_inj (by rw [Lib.extract_data]; simp [ba_list])
theorem ba_extract_from (l : List UInt8) (n : Nat) : (ba l).extract n l.length = ba (l.drop n) := toList_inj (by rw [Lib.extract_data, ba_list, ba_list]; exact List.take_of_length_le (by simp))

theorem parse_case (b : UInt8) (r : List UInt8) (hb : ¬ b.toNat < 128) (hk : b.toNat - 128 ≤ r.length) (m : Nat) (hm : m = big (r.take (b.toNat - 128)) % 18446744073709551616) :
    (128 ≤ m ∧ (dig m).length = b.toNat - 128 → parse (b :: r) = some (m, r.drop (b.toNat - 128))) ∧ (¬ (128 ≤ m ∧ (dig m).length = b.toNat - 128) → parse (b :: r) = none) := by
  have hlt : m < 18446744073709551616 := by omega
  have hlen : (r.take (b.toNat - 128)).length = b.toNat - 128 := by simp; omega
  have small : b.toNat - 128 ≤ 8 → m = big (r.take (b.toNat - 128)) := fun h8 => by
    have h1 := big_lt (r.take (b.toNat - 128))
    rw [hlen] at h1
    have h2 := Nat.pow_le_pow_right (show 0 < 256 by omega) h8
    rw [hm]
    exact Nat.mod_eq_of_lt (Nat.lt_of_lt_of_le h1 (by simpa using h2))
  refine ⟨fun ⟨h1, h2⟩ => ?_, fun h => ?_⟩
  · have h8 := dig_len8 hlt
    have he := small (by omega)
    rw [parse_cons, if_neg hb, ← he, if_pos ⟨hk, h1, h2, by omega⟩]
  · rw [parse_cons, if_neg hb, if_neg]
    rintro ⟨c1, c2, c3, c4⟩
    have he := small c4
    rw [← he] at c2 c3
    exact h ⟨c2, c3⟩

/-- What reading a number says of the state. -/
def ReadSaid (st : St) (n : Nat) (ok : Bool) (st' : St) : Prop :=
  n < 18446744073709551616 ∧ Small st' ∧ (match st.bind parse with | some (m, r) => n = m ∧ ok = true ∧ st' = some r | none => ok = false)

end Go.Proofs.YtagdapmnghnphaaDoor

/-
  Contracts of package wire: what is read.
-/
namespace Go.Proofs.YtagdapmnghnphaaDoor
open Go Go.RowKit Wire

set_option maxRecDepth 100000
set_option linter.unusedVariables false
set_option linter.unusedSimpArgs false
theorem small_drop {l : List UInt8} (h : Small (some l)) (n : Nat) : Small (some (l.drop n)) := by
  have h' : l.length ≤ 1000000 := h
  show (l.drop n).length ≤ 1000000
  rw [List.length_drop]; omega
theorem small_none : Small none := Nat.zero_le _

end Go.Proofs.YtagdapmnghnphaaDoor

/-
  Contracts of package wire: the readers' methods.
-/
namespace Go.Proofs.YtagdapmnghnphaaDoor
open Go Go.RowKit Wire

set_option maxRecDepth 100000
set_option linter.unusedVariables false
set_option linter.unusedSimpArgs false
theorem small_takeNum {st : St} (hs : Small st) (most : Nat) : Small (takeNum st most).2 := by
  cases h : (takeNum st most).2 with
  | none => exact small_none
  | some r =>
    obtain ⟨l, rfl, hl⟩ := takeNum_st h
    have h' : l.length ≤ 1000000 := hs
    show r.length ≤ 1000000
    omega

theorem takeText_is (st : St) (most : Int) : takeText st most = ((if (takeB (takeNum st most.toNat).2 (takeNum st most.toNat).1).1.2 then (takeB (takeNum st most.toNat).2 (takeNum st most.toNat).1).1.1 else []), (if (takeB (takeNum st most.toNat).2 (takeNum st most.toNat).1).1.2 then (takeB (takeNum st most.toNat).2 (takeNum st most.toNat).1).2 else none)) := by
  unfold takeText takeB
  cases h : (takeNum st most.toNat).2 with
  | none => simp
  | some r =>
    by_cases hl : (takeNum st most.toNat).1 ≤ r.length
    · simp [hl]
    · simp [hl]
theorem takeB_len {st : St} (hs : Small st) (n : Nat) : (takeB st n).1.1.length ≤ 1000000 := by
  cases st with
  | none => simp [takeB]
  | some l =>
    have h' : l.length ≤ 1000000 := hs
    by_cases hn : n ≤ l.length
    · have e : takeB (some l) n = ((l.take n, true), some (l.drop n)) := by simp [takeB, hn]
      rw [e]
      show (l.take n).length ≤ 1000000
      rw [List.length_take]; omega
    · have e : takeB (some l) n = (([], false), some l) := by simp [takeB, hn]
      rw [e]; exact Nat.zero_le _

theorem last_two (W : World) (a b : Obj) : ((W.alloc a).alloc b).heap[W.heap.size + 1]? = some b := by
  have := heap_alloc_last (W.alloc a) b
  rw [World.size_alloc] at this
  exact this
theorem mid_three (W : World) (a b c : Obj) : (((W.alloc a).alloc b).alloc c).heap[W.heap.size + 1]? = some b := by
  rw [Below.heap_alloc _ _ _ (by simp)]; exact last_two W a b
theorem below_three (W : World) (a b c : Obj) : Below W.heap.size W (((W.alloc a).alloc b).alloc c) := (((Below.refl _ W).alloc (Nat.le_refl _) a).alloc (by simp) b).alloc (by simp; omega) c
/-- The reader behind a failure. -/
def fallen (W : World) (g : Nat) : World := (W.setCell ⟨g, 0, none⟩ (.string ⟨#[]⟩)).setCell ⟨g, 1, none⟩ (.bool false)
theorem fallen_size (W : World) (g : Nat) : (fallen W g).heap.size = W.heap.size := by simp [fallen, World.setCell]
theorem mid_fallen (W : World) (g : Nat) (a b c : Obj) : ((((fallen W g).alloc a).alloc b).alloc c).heap[W.heap.size + 1]? = some b := by
  have := mid_three (fallen W g) a b c
  rw [fallen_size] at this; exact this
theorem row_two (W : World) (a : Obj) (z c : Array Value) (t : TypeId) : ((W.alloc a).alloc (.cells z t)).setRow (W.heap.size + 1) c = (W.alloc a).alloc (.cells c t) := by
  have := World.setRow_alloc_new (W.alloc a) z c t
  rw [World.size_alloc] at this
  exact this
theorem below_two (W : World) (a b : Obj) : Below W.heap.size W ((W.alloc a).alloc b) := ((Below.refl _ W).alloc (Nat.le_refl _) a).alloc (by simp) b

end Go.Proofs.YtagdapmnghnphaaDoor

/-
  Contracts of package wire: dots and vectors read; a reader made.
-/
namespace Go.Proofs.YtagdapmnghnphaaDoor
open Go Go.RowKit Wire

set_option maxRecDepth 100000
set_option linter.unusedVariables false
set_option linter.unusedSimpArgs false
theorem Keeps.setRow {W w : World} {p : Option Nat} (h : Keeps W.heap.size p W w) (g : Nat) (hg : W.heap.size ≤ g) (cs : Array Value) : Keeps W.heap.size p W (w.setRow g cs) :=
  ⟨h.os, h.tape, h.output, by simpa using h.size, fun k hk hp => (setRow_other w g k cs (by omega)).trans (h.block k hk hp),
    fun k c t fr hk ht hp => (setRow_other w g k cs (by have := lt_of_some hk; omega)).trans (h.other k c t fr hk ht hp)⟩
theorem takeDot_is (st : St) : takeDot st = ((if (takeNum (takeNum st m8).2 m32).2.isSome then ((takeNum st m8).1, (takeNum (takeNum st m8).2 m32).1) else (0, 0)), (takeNum (takeNum st m8).2 m32).2) := by
  unfold takeDot
  cases h : (takeNum (takeNum st m8).2 m32).2 with
  | none => rfl
  | some r => rfl
def dcells (d : Nat × Nat) : Array Value := #[.int .u8 (d.1 : Int), .int .u32 (d.2 : Int)]

/-- The vector's cells behind k numbers. -/
def vrow (k : Nat) (st : St) : Array Value := vcells ((vecGo k st).1 ++ List.replicate (8 - k) 0)
theorem vrow_zero (st : St) : vrow 0 st = #[.int .u32 0, .int .u32 0, .int .u32 0, .int .u32 0, .int .u32 0, .int .u32 0, .int .u32 0, .int .u32 0] := rfl
theorem vrow_size (k : Nat) (hk : k ≤ 8) (st : St) : (vrow k st).size = 8 := by
  unfold vrow; rw [vcells_size, List.length_append, vecGo_len, List.length_replicate]; omega
theorem vcells_set (l : List Nat) (m n : Nat) : (vcells (l ++ List.replicate (m + 1) 0)).setIfInBounds l.length (.int .u32 (n : Int)) = vcells ((l ++ [n]) ++ List.replicate m 0) := by
  unfold vcells
  simp [List.replicate_succ]
theorem vrow_set (k : Nat) (hk : k < 8) (st : St) : (vrow k st).setIfInBounds k (.int .u32 ((takeNum (vecGo k st).2 m32).1 : Int)) = vrow (k + 1) st := by
  have h := vcells_set (vecGo k st).1 (8 - (k + 1)) (takeNum (vecGo k st).2 m32).1
  rw [vecGo_len, show 8 - (k + 1) + 1 = 8 - k by omega] at h
  exact h
theorem vrow_at (k : Nat) (hk : k < 8) (st : St) : ∃ x, (vrow k st)[k]? = some x :=
  ⟨_, Array.getElem?_eq_getElem (by rw [vrow_size k (by omega) st]; exact hk)⟩
theorem vrow_end (st : St) : vrow 8 st = vcells (vecGo 8 st).1 := by unfold vrow; rw [Nat.sub_self]; simp
theorem small_vecGo {st : St} (hs : Small st) : ∀ k, Small (vecGo k st).2
  | 0 => hs
  | k + 1 => small_takeNum (small_vecGo hs k) _
theorem takeVec_is (st : St) : takeVec st = ((if (vecGo 8 st).2.isSome then (vecGo 8 st).1 else zeros8), (vecGo 8 st).2) := by
  unfold takeVec
  cases h : (vecGo 8 st).2 with
  | none => rfl
  | some r => rfl
theorem Keeps.setOwn {W w : World} {p : Option Nat} (h : Keeps W.heap.size p W w) (a : Addr) (hg : W.heap.size ≤ a.block) (x : Value) : Keeps W.heap.size p W (w.setCell a x) :=
  ⟨h.os, h.tape, h.output, by simpa [World.setCell] using h.size, fun k hk hp => (Below.heap_setCell _ _ _ _ (by omega)).trans (h.block k hk hp),
    fun k c t fr hk ht hp => (Below.heap_setCell _ _ _ _ (by have := lt_of_some hk; omega)).trans (h.other k c t fr hk ht hp)⟩
theorem cells8 {w : World} {g : Nat} {cs : Array Value} {t : TypeId} (h : w.heap[g]? = some (.cells cs t (0, 0))) (a0 a1 a2 a3 a4 a5 a6 a7 : Value) (hc : cs = #[a0, a1, a2, a3, a4, a5, a6, a7]) :
    w.cell? ⟨g, 0, none⟩ = some a0 ∧ w.cell? ⟨g, 1, none⟩ = some a1 ∧ w.cell? ⟨g, 2, none⟩ = some a2 ∧ w.cell? ⟨g, 3, none⟩ = some a3 ∧ w.cell? ⟨g, 4, none⟩ = some a4 ∧ w.cell? ⟨g, 5, none⟩ = some a5 ∧ w.cell? ⟨g, 6, none⟩ = some a6 ∧ w.cell? ⟨g, 7, none⟩ = some a7 := by
  subst hc
  exact ⟨(cell_of_heap h).trans rfl, (cell_of_heap h).trans rfl, (cell_of_heap h).trans rfl, (cell_of_heap h).trans rfl, (cell_of_heap h).trans rfl, (cell_of_heap h).trans rfl, (cell_of_heap h).trans rfl, (cell_of_heap h).trans rfl⟩
theorem set8_heap {w : World} {g : Nat} {cs : Array Value} {t : TypeId} {z0 z1 z2 z3 z4 z5 z6 z7 : Value} (h : w.heap[g]? = some (.cells cs t (0, 0))) (hc : cs = #[z0, z1, z2, z3, z4, z5, z6, z7]) (a0 a1 a2 a3 a4 a5 a6 a7 : Value) :
    ((((((((w.setCell ⟨g, 0, none⟩ a0).setCell ⟨g, 1, none⟩ a1).setCell ⟨g, 2, none⟩ a2).setCell ⟨g, 3, none⟩ a3).setCell ⟨g, 4, none⟩ a4).setCell ⟨g, 5, none⟩ a5).setCell ⟨g, 6, none⟩ a6).setCell ⟨g, 7, none⟩ a7).heap[g]? = some (.cells #[a0, a1, a2, a3, a4, a5, a6, a7] t (0, 0)) := by
  subst hc
  have h0 : (w.setCell ⟨g, 0, none⟩ a0).heap[g]? = some (.cells #[a0, z1, z2, z3, z4, z5, z6, z7] t (0, 0)) := by rw [heap_setCell_same w g 0 _ _ a0 h]; simp
  have h1 : ((w.setCell ⟨g, 0, none⟩ a0).setCell ⟨g, 1, none⟩ a1).heap[g]? = some (.cells #[a0, a1, z2, z3, z4, z5, z6, z7] t (0, 0)) := by rw [heap_setCell_same (w.setCell ⟨g, 0, none⟩ a0) g 1 _ _ a1 h0]; simp
  have h2 : (((w.setCell ⟨g, 0, none⟩ a0).setCell ⟨g, 1, none⟩ a1).setCell ⟨g, 2, none⟩ a2).heap[g]? = some (.cells #[a0, a1, a2, z3, z4, z5, z6, z7] t (0, 0)) := by rw [heap_setCell_same ((w.setCell ⟨g, 0, none⟩ a0).setCell ⟨g, 1, none⟩ a1) g 2 _ _ a2 h1]; simp
  have h3 : ((((w.setCell ⟨g, 0, none⟩ a0).setCell ⟨g, 1, none⟩ a1).setCell ⟨g, 2, none⟩ a2).setCell ⟨g, 3, none⟩ a3).heap[g]? = some (.cells #[a0, a1, a2, a3, z4, z5, z6, z7] t (0, 0)) := by rw [heap_setCell_same (((w.setCell ⟨g, 0, none⟩ a0).setCell ⟨g, 1, none⟩ a1).setCell ⟨g, 2, none⟩ a2) g 3 _ _ a3 h2]; simp
  have h4 : (((((w.setCell ⟨g, 0, none⟩ a0).setCell ⟨g, 1, none⟩ a1).setCell ⟨g, 2, none⟩ a2).setCell ⟨g, 3, none⟩ a3).setCell ⟨g, 4, none⟩ a4).heap[g]? = some (.cells #[a0, a1, a2, a3, a4, z5, z6, z7] t (0, 0)) := by rw [heap_setCell_same ((((w.setCell ⟨g, 0, none⟩ a0).setCell ⟨g, 1, none⟩ a1).setCell ⟨g, 2, none⟩ a2).setCell ⟨g, 3, none⟩ a3) g 4 _ _ a4 h3]; simp
  have h5 : ((((((w.setCell ⟨g, 0, none⟩ a0).setCell ⟨g, 1, none⟩ a1).setCell ⟨g, 2, none⟩ a2).setCell ⟨g, 3, none⟩ a3).setCell ⟨g, 4, none⟩ a4).setCell ⟨g, 5, none⟩ a5).heap[g]? = some (.cells #[a0, a1, a2, a3, a4, a5, z6, z7] t (0, 0)) := by rw [heap_setCell_same (((((w.setCell ⟨g, 0, none⟩ a0).setCell ⟨g, 1, none⟩ a1).setCell ⟨g, 2, none⟩ a2).setCell ⟨g, 3, none⟩ a3).setCell ⟨g, 4, none⟩ a4) g 5 _ _ a5 h4]; simp
  have h6 : (((((((w.setCell ⟨g, 0, none⟩ a0).setCell ⟨g, 1, none⟩ a1).setCell ⟨g, 2, none⟩ a2).setCell ⟨g, 3, none⟩ a3).setCell ⟨g, 4, none⟩ a4).setCell ⟨g, 5, none⟩ a5).setCell ⟨g, 6, none⟩ a6).heap[g]? = some (.cells #[a0, a1, a2, a3, a4, a5, a6, z7] t (0, 0)) := by rw [heap_setCell_same ((((((w.setCell ⟨g, 0, none⟩ a0).setCell ⟨g, 1, none⟩ a1).setCell ⟨g, 2, none⟩ a2).setCell ⟨g, 3, none⟩ a3).setCell ⟨g, 4, none⟩ a4).setCell ⟨g, 5, none⟩ a5) g 6 _ _ a6 h5]; simp
  have h7 : ((((((((w.setCell ⟨g, 0, none⟩ a0).setCell ⟨g, 1, none⟩ a1).setCell ⟨g, 2, none⟩ a2).setCell ⟨g, 3, none⟩ a3).setCell ⟨g, 4, none⟩ a4).setCell ⟨g, 5, none⟩ a5).setCell ⟨g, 6, none⟩ a6).setCell ⟨g, 7, none⟩ a7).heap[g]? = some (.cells #[a0, a1, a2, a3, a4, a5, a6, a7] t (0, 0)) := by rw [heap_setCell_same (((((((w.setCell ⟨g, 0, none⟩ a0).setCell ⟨g, 1, none⟩ a1).setCell ⟨g, 2, none⟩ a2).setCell ⟨g, 3, none⟩ a3).setCell ⟨g, 4, none⟩ a4).setCell ⟨g, 5, none⟩ a5).setCell ⟨g, 6, none⟩ a6) g 7 _ _ a7 h6]; simp
  exact h7
theorem list8 (v : List Nat) (h : v.length = 8) : ∃ a0 a1 a2 a3 a4 a5 a6 a7, v = [a0, a1, a2, a3, a4, a5, a6, a7] := by
  match v, h with
  | [a0, a1, a2, a3, a4, a5, a6, a7], _ => exact ⟨_, _, _, _, _, _, _, _, rfl⟩

end Go.Proofs.YtagdapmnghnphaaDoor

/-
  Contracts of the document's answer for package wire: what is read.
-/
namespace Go.Proofs.YtagdapmnghnphaaDoor
open Go Go.RowKit Wire

set_option maxRecDepth 100000
set_option linter.unusedVariables false
set_option linter.unusedSimpArgs false
theorem results_tmp_row {P : Program} {fn : Func} {u p : Tmp} {ty : TypeId} (h : fn.results = #[.tmp u, .cell p ty]) (tmps : Array Value) (w : World) (g : Nat) (t : TypeId) (cs : Array Value) (fr : Nat × Nat) (d : TypeDesc) (v : Value)
    (hv : tmps.getD u undef = v) (hp : tmps.getD p undef = .pointer (some ⟨g, 0, none⟩)) (hg : w.heap[g]? = some (.cells cs t fr))
    (hu : P.underlying ty = some d) (hd : (match d with | .struct _ | .array _ _ => true | _ => false) = true) (hi : (P.info? ty).map (·.size) = some cs.size) :
    (results fn tmps).run P w = .ok (.tuple #[v, .agg cs]) w := by
  have hp' : tmps[p]?.getD undef = .pointer (some ⟨g, 0, none⟩) := by simpa using hp
  have hv' : tmps[u]?.getD undef = v := by simpa using hv
  simp [results, h, hp', hv', asAddr, run_loadVar_row w g t ty cs fr d hg hu hd hi]
theorem results_row_tmp {P : Program} {fn : Func} {u p : Tmp} {ty : TypeId} (h : fn.results = #[.cell p ty, .tmp u]) (tmps : Array Value) (w : World) (g : Nat) (t : TypeId) (cs : Array Value) (fr : Nat × Nat) (d : TypeDesc) (v : Value)
    (hv : tmps.getD u undef = v) (hp : tmps.getD p undef = .pointer (some ⟨g, 0, none⟩)) (hg : w.heap[g]? = some (.cells cs t fr))
    (hu : P.underlying ty = some d) (hd : (match d with | .struct _ | .array _ _ => true | _ => false) = true) (hi : (P.info? ty).map (·.size) = some cs.size) :
    (results fn tmps).run P w = .ok (.tuple #[.agg cs, v]) w := by
  have hp' : tmps[p]?.getD undef = .pointer (some ⟨g, 0, none⟩) := by simpa using hp
  have hv' : tmps[u]?.getD undef = v := by simpa using hv
  simp [results, h, hp', hv', asAddr, run_loadVar_row w g t ty cs fr d hg hu hd hi]
theorem results_two_rows {P : Program} {fn : Func} {p q : Tmp} {ty ty' : TypeId} (h : fn.results = #[.cell p ty, .cell q ty']) (tmps : Array Value) (w : World) (g g' : Nat) (t t' : TypeId) (cs cs' : Array Value) (fr fr' : Nat × Nat) (d d' : TypeDesc)
    (hp : tmps.getD p undef = .pointer (some ⟨g, 0, none⟩)) (hg : w.heap[g]? = some (.cells cs t fr))
    (hu : P.underlying ty = some d) (hd : (match d with | .struct _ | .array _ _ => true | _ => false) = true) (hi : (P.info? ty).map (·.size) = some cs.size)
    (hp2 : tmps.getD q undef = .pointer (some ⟨g', 0, none⟩)) (hg2 : w.heap[g']? = some (.cells cs' t' fr'))
    (hu2 : P.underlying ty' = some d') (hd2 : (match d' with | .struct _ | .array _ _ => true | _ => false) = true) (hi2 : (P.info? ty').map (·.size) = some cs'.size) :
    (results fn tmps).run P w = .ok (.tuple #[.agg cs, .agg cs']) w := by
  have hp' : tmps[p]?.getD undef = .pointer (some ⟨g, 0, none⟩) := by simpa using hp
  have hq' : tmps[q]?.getD undef = .pointer (some ⟨g', 0, none⟩) := by simpa using hp2
  simp [results, h, hp', hq', asAddr, run_loadVar_row w g t ty cs fr d hg hu hd hi, run_loadVar_row w g' t' ty' cs' fr' d' hg2 hu2 hd2 hi2]

theorem first_two (W : World) (a b : Obj) : ((W.alloc a).alloc b).heap[W.heap.size]? = some a := (Below.heap_alloc _ _ _ (by simp)).trans (heap_alloc_last W a)
theorem set2_heap {w : World} {g : Nat} {z0 z1 : Value} {t : TypeId} (h : w.heap[g]? = some (.cells #[z0, z1] t (0, 0))) (a0 a1 : Value) :
    ((w.setCell ⟨g, 0, none⟩ a0).setCell ⟨g, 1, none⟩ a1).heap[g]? = some (.cells #[a0, a1] t (0, 0)) := by
  have h0 : (w.setCell ⟨g, 0, none⟩ a0).heap[g]? = some (.cells #[a0, z1] t (0, 0)) := by rw [heap_setCell_same w g 0 _ _ a0 h]; simp
  rw [heap_setCell_same _ g 1 _ _ a1 h0]; simp

end Go.Proofs.YtagdapmnghnphaaDoor

/-
  'none' and 'head' of stage 2: what the document fixes.
-/
namespace Go.Proofs.YtagdapmnghnphaaDoor
open Go Go.RowKit Wire

set_option maxRecDepth 100000
set_option linter.unusedVariables false
set_option linter.unusedSimpArgs false
theorem enc_vals : enc 5 = [5] ∧ enc 127 = [127] ∧ enc 128 = [129, 128] ∧ enc 256 = [130, 1, 0] ∧ enc 18446744073709551615 = [136, 255, 255, 255, 255, 255, 255, 255, 255] ∧ enc 2 = [2] ∧ enc 3 = [3] ∧ enc 300 = [130, 1, 44] := by
  refine ⟨?_, ?_, ?_, ?_, ?_, ?_, ?_, ?_⟩ <;> simp [enc, dig] <;> decide

theorem none_vals : (takeNum (some [129, 5]) 18446744073709551615).2 = none ∧ (takeNum (some [130, 0, 255]) 18446744073709551615).2 = none ∧ (takeNum (some [137]) 18446744073709551615).2 = none ∧ (takeNum (some [128]) 18446744073709551615).2 = none ∧ (takeNum (some [129]) 18446744073709551615).2 = none ∧ (takeNum (some [5]) 4).2 = none := by
  refine ⟨?_, ?_, ?_, ?_, ?_, ?_⟩ <;> simp [takeNum, parse, big, dig]

theorem head_text : takeText (some [2, 97, 98, 3, 130, 1, 44]) 2 = ([97, 98], some [3, 130, 1, 44]) := by
  have := takeText_enc (s := [97, 98]) (most := 2) (by decide) (by decide) [3, 130, 1, 44]
  rw [show ([97, 98] : List UInt8).length = 2 by rfl, enc_vals.2.2.2.2.2.1] at this
  exact this
theorem head_dot : takeDot (some [3, 130, 1, 44]) = ((3, 300), some []) := by
  have := takeDot_enc (a := 3) (b := 300) (by decide) (by decide) []
  rw [enc_vals.2.2.2.2.2.2.1, enc_vals.2.2.2.2.2.2.2] at this
  exact this
theorem head_bytes : ([] ++ encT [97, 98]) ++ encD 3 300 = [2, 97, 98, 3, 130, 1, 44] := by
  unfold encT encD
  rw [show ([97, 98] : List UInt8).length = 2 by rfl, enc_vals.2.2.2.2.2.1, enc_vals.2.2.2.2.2.2.1, enc_vals.2.2.2.2.2.2.2]
  rfl

end Go.Proofs.YtagdapmnghnphaaDoor

/-
  Two vectors compared.
-/
namespace Go.Proofs.YtagdapmnghnphaaDoor
open Go Go.RowKit Wire

set_option maxRecDepth 100000
set_option linter.unusedVariables false
set_option linter.unusedSimpArgs false
theorem vec_info : (Tryd.prog.info? 23).map (fun i => (i.zero, i.size)) = some (some (.int .u32 0), 1) := by kernel_rfl
theorem eq_vec8 (a0 a1 a2 a3 a4 a5 a6 a7 b0 b1 b2 b3 b4 b5 b6 b7 : Int) (w : World) : (Op.equalIn 10000 25 (.agg #[.int .u32 a0, .int .u32 a1, .int .u32 a2, .int .u32 a3, .int .u32 a4, .int .u32 a5, .int .u32 a6, .int .u32 a7]) (.agg #[.int .u32 b0, .int .u32 b1, .int .u32 b2, .int .u32 b3, .int .u32 b4, .int .u32 b5, .int .u32 b6, .int .u32 b7])).run Tryd.prog w = .ok (a0 == b0 && a1 == b1 && a2 == b2 && a3 == b3 && a4 == b4 && a5 == b5 && a6 == b6 && a7 == b7) w := by
  obtain ⟨hz, hi⟩ := zero_of_info vec_info
  have u3 := Tryd.underlying23
  rw [show (10000 : Nat) = 9999 + 1 from rfl, Op.equalIn]
  simp only [Sem.run_bind, run_underlying Tryd.underlying25, Result.andThen_ok]
  simp only [Std.Legacy.Range.forIn_eq_forIn_range', Std.Legacy.Range.size, Nat.sub_zero, Nat.add_sub_cancel, Nat.div_one, List.range'_succ, List.range'_zero, List.forIn_cons, List.forIn_nil]
  go_simp
  by_cases h0 : a0 = b0
  · by_cases h1 : a1 = b1
    · by_cases h2 : a2 = b2
      · by_cases h3 : a3 = b3
        · by_cases h4 : a4 = b4
          · by_cases h5 : a5 = b5
            · by_cases h6 : a6 = b6
              · by_cases h7 : a7 = b7
                · simp [h0, h1, h2, h3, h4, h5, h6, h7]
                · simp [h0, h1, h2, h3, h4, h5, h6, h7]
              · simp [h0, h1, h2, h3, h4, h5, h6]
            · simp [h0, h1, h2, h3, h4, h5]
          · simp [h0, h1, h2, h3, h4]
        · simp [h0, h1, h2, h3]
      · simp [h0, h1, h2]
    · simp [h0, h1]
  · simp [h0]

theorem list8' (v : List Nat) (h : v.length = 8) : ∃ a0 a1 a2 a3 a4 a5 a6 a7, v = [a0, a1, a2, a3, a4, a5, a6, a7] := by
  match v, h with
  | [a0, a1, a2, a3, a4, a5, a6, a7], _ => exact ⟨_, _, _, _, _, _, _, _, rfl⟩

theorem eq_vec (v u : List Nat) (hv : v.length = 8) (hu : u.length = 8) (w : World) : (Op.equalIn 10000 25 (.agg (vcells v)) (.agg (vcells u))).run Tryd.prog w = .ok (decide (v = u)) w := by
  obtain ⟨a0, a1, a2, a3, a4, a5, a6, a7, rfl⟩ := list8' v hv
  obtain ⟨b0, b1, b2, b3, b4, b5, b6, b7, rfl⟩ := list8' u hu
  refine (eq_vec8 a0 a1 a2 a3 a4 a5 a6 a7 b0 b1 b2 b3 b4 b5 b6 b7 w).trans ?_
  congr 1
  rw [Bool.eq_iff_iff]
  simp only [Bool.and_eq_true, beq_iff_eq, decide_eq_true_eq, List.cons.injEq, Int.natCast_inj, and_true]
  constructor
  · rintro ⟨⟨⟨⟨⟨⟨⟨h0, h1⟩, h2⟩, h3⟩, h4⟩, h5⟩, h6⟩, h7⟩
    exact ⟨h0, h1, h2, h3, h4, h5, h6, h7⟩
  · rintro ⟨h0, h1, h2, h3, h4, h5, h6, h7⟩
    exact ⟨⟨⟨⟨⟨⟨⟨h0, h1⟩, h2⟩, h3⟩, h4⟩, h5⟩, h6⟩, h7⟩
theorem eq_zero8 (w : World) : (Op.equalIn 10000 25 (.agg #[.int .u32 0, .int .u32 0, .int .u32 0, .int .u32 0, .int .u32 0, .int .u32 0, .int .u32 0, .int .u32 0]) (.agg #[.int .u32 0, .int .u32 0, .int .u32 0, .int .u32 0, .int .u32 0, .int .u32 0, .int .u32 0, .int .u32 0])).run Tryd.prog w = .ok true w :=
  eq_vec8 0 0 0 0 0 0 0 0 0 0 0 0 0 0 0 0 w

end Go.Proofs.YtagdapmnghnphaaDoor

/-
  The walk of the law 'WireOrder'.
-/
namespace Go.Proofs.YtagdapmnghnphaaDoor
open Go Go.RowKit Wire

set_option maxRecDepth 100000
set_option linter.unusedVariables false
set_option linter.unusedSimpArgs false
theorem u64_nat {a : Int} (h : (Lit.int .u64 a).wf = true) : ∃ n : Nat, a = (n : Int) ∧ n < 18446744073709551616 := by
  have hx : 0 ≤ a ∧ a ≤ 18446744073709551615 := by simpa [Lit.wf, IntKind.min, IntKind.max, IntKind.signed, IntKind.bits] using h
  exact ⟨a.toNat, by omega, by omega⟩

theorem Keeps.nobody {B : Nat} {a b : World} (h : Keeps B none a b) : Below B a b := h.below (fun _ e => by cases e)
theorem beq_lists (a b : ByteArray) : (a.toList == b.toList) = decide (a.data.toList = b.data.toList) := by
  rw [Lib.toList_data, Lib.toList_data, Bool.eq_iff_iff]; simp
theorem ne_lists {a b : List UInt8} (h : a ≠ b) : ((ba a).toList == (ba b).toList) = false := by
  rw [beq_lists, ba_list, ba_list]; simpa using h
theorem eq_lists (a : ByteArray) : (a.toList == a.toList) = true := by simp

end Go.Proofs.YtagdapmnghnphaaDoor
