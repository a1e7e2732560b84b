/-
  Contracts of strings.Builder, of a builder that the call has made itself.
-/
import Derived.Test.YtnglalahhdkebaaRM
import Derived.Lib.Builder
import Derived.Laws.Externs
namespace Go.Proofs.Ytnglalahhdkebaa.Q
set_option linter.unusedVariables false
set_option linter.unusedSimpArgs false
set_option maxRecDepth 100000
open Go Go.RowKit Wire

theorem bu_info : (Try.prog.info? 47).map (fun i => i.size) = some 2 := by kernel_rfl
theorem bu_lies : liesAt Try.prog Try.prog.depth 47 (2 / Try.prog.cellsOf 47) 0 47 1 = true := by kernel_rfl
theorem bu_u8 : Try.prog.cellsOf 5 = 1 := by kernel_rfl

/-- The builder in block b has these bytes. -/
def BuAt (w : World) (B b : Nat) (l : Bs) : Prop := Lib.IsBuilder 47 5 B b (Lib.byteCells l) w
theorem BuAt.at {w : World} {B b : Nat} {l : Bs} (h : BuAt w B b l) : ∃ p, Lib.BuilderAt 47 5 B b p (Lib.byteCells l) w := h.elim (fun h => ⟨_, h⟩) (fun h => ⟨_, h⟩)
theorem BuAt.lt {w : World} {B b : Nat} {l : Bs} (h : BuAt w B b l) : b < w.heap.size := by obtain ⟨p, h⟩ := h.at; exact h.lt
theorem bu_below {w w' : World} {B b : Nat} {p : Value} {bs : List Value} (h : Lib.BuilderAt 47 5 B b p bs w) (hb : Below w.heap.size w w') : Lib.BuilderAt 47 5 B b p bs w' := by
  obtain ⟨hB, v, hg, ho, hne⟩ := h
  refine ⟨hB, v, (hb.block b (lt_of_some hg)).trans hg, ⟨ho.1, ?_⟩, hne⟩
  rcases ho.2 with hn | ⟨g', cap, cur, rfl, hB', hgg, rest⟩
  · exact .inl hn
  · exact .inr ⟨g', cap, cur, rfl, hB', (hb.block g' (lt_of_some hgg)).trans hgg, rest⟩
theorem BuAt.below {w w' : World} {B b : Nat} {l : Bs} (h : BuAt w B b l) (hb : Below w.heap.size w w') : BuAt w' B b l := h.elim (fun h => .inl (bu_below h hb)) (fun h => .inr (bu_below h hb))
theorem BuAt.new (w : World) : BuAt (w.alloc (.cells #[.pointer none, .slice none 0 0] 47)) w.heap.size w.heap.size [] :=
  .inl ⟨Nat.le_refl _, .slice none 0 0, heap_alloc_last _ _, World.ownsRow_nil _ _ _ _, by simp [Value.ownBlock]⟩
theorem BuAt.mono {w : World} {B B' b : Nat} {l : Bs} (h : BuAt w B b l) (hB : B' ≤ B) : BuAt w B' b l := by
  have key : ∀ p, Lib.BuilderAt 47 5 B b p (Lib.byteCells l) w → Lib.BuilderAt 47 5 B' b p (Lib.byteCells l) w := by
    rintro p ⟨h0, v, hg, ho, hne⟩
    refine ⟨by omega, v, hg, ⟨ho.1, ?_⟩, hne⟩
    rcases ho.2 with hn | ⟨g', cap, cur, rfl, hB', rest⟩
    · exact .inl hn
    · exact .inr ⟨g', cap, cur, rfl, by omega, rest⟩
  exact h.elim (fun h => .inl (key _ h)) (fun h => .inr (key _ h))

set_option maxHeartbeats 1000000 in
theorem bu_check_used (b : Nat) (w : World) (h0 : w.cell? ⟨b, 0, none⟩ = some (.pointer (some ⟨b, 0, none⟩))) :
    Calls Try.prog 33 #[.pointer (some ⟨b, 0, none⟩)] w fun e w' => e = .returned (.tuple #[]) ∧ w' = w := by
  obtain ⟨j, hj, _⟩ := Option.map_eq_some_iff.1 bu_info
  go_enter Try.func33, Try.ntmps33
  go_wp2
  rw [Lib.run_neq_ptr_same w _ Try.underlying45 hj]
  go_wp2
  go_end0
  exact ⟨rfl, rfl⟩

set_option maxHeartbeats 1000000 in
theorem bu_check_fresh (b : Nat) (w : World) (h0 : w.cell? ⟨b, 0, none⟩ = some (.pointer none)) (hsh : w.shape? b = some (47, 2)) (hfz : w.frozen? ⟨b, 0, none⟩ = false) :
    Calls Try.prog 33 #[.pointer (some ⟨b, 0, none⟩)] w fun e w' => e = .returned (.tuple #[]) ∧ w' = w.setCell ⟨b, 0, none⟩ (.pointer (some ⟨b, 0, none⟩)) := by
  obtain ⟨j, hj, hjs⟩ := Option.map_eq_some_iff.1 bu_info
  have e1 : (convert 45 79 (.pointer (some ⟨b, 0, none⟩))).run Try.prog w = .ok (.pointer (some ⟨b, 0, none⟩)) w :=
    Lib.run_to_unsafe w ⟨b, 0, none⟩ Try.underlying45 Try.underlying79 hj (by rw [hjs]; decide) hsh (Nat.zero_lt_succ 1)
  have e2 : (convert 79 45 (.pointer (some ⟨b, 0, none⟩))).run Try.prog w = .ok (.pointer (some ⟨b, 0, none⟩)) w :=
    Lib.run_from_unsafe w ⟨b, 0, none⟩ Try.underlying79 Try.underlying45 hj hsh bu_lies
  have e3 : (callFunc 45 #[.pointer (some ⟨b, 0, none⟩)]).run Try.prog w = .ok (.value (.pointer (some ⟨b, 0, none⟩))) w := by
    rw [run_callFunc_extern Try.func45 (by kernel_rfl) (by kernel_rfl) (by kernel_rfl) (e := Extern.AbiNoEscape.same) (by kernel_rfl), Lib.run_noEscape]
    rfl
  go_enter Try.func33, Try.ntmps33
  go_wp2
  go_end0
  exact ⟨rfl, rfl⟩

theorem bu_check (B b : Nat) (l : Bs) (w : World) (h : BuAt w B b l) :
    Calls Try.prog 33 #[.pointer (some ⟨b, 0, none⟩)] w fun e w' => e = .returned (.tuple #[]) ∧ Lib.BuilderAt 47 5 B b (.pointer (some ⟨b, 0, none⟩)) (Lib.byteCells l) w' ∧ Below B w w' := by
  rcases h with h | h
  · refine (bu_check_fresh b w h.cell0 h.shape h.frozen0).mono ?_
    rintro e w' ⟨rfl, rfl⟩
    exact ⟨rfl, h.used _, (Below.refl B w).setCell (p := ⟨b, 0, none⟩) h.1 _⟩
  · refine (bu_check_used b w h.cell0).mono ?_
    rintro e w' ⟨rfl, rfl⟩
    exact ⟨rfl, h, Below.refl B _⟩

set_option maxHeartbeats 1000000 in
theorem bu_WriteString (B b : Nat) (l m : Bs) (w : World) (h : BuAt w B b l) (hB : B ≤ w.heap.size) (hl : l.length ≤ 1000000) (hm : m.length ≤ 1000000) :
    Calls Try.prog 20 #[.pointer (some ⟨b, 0, none⟩), .string (ba m)] w fun e w' => e = .returned (.tuple #[.int .i64 (m.length : Nat), .nilIface]) ∧ BuAt w' B b (l ++ m) ∧ Below B w w' := by
  have hcheck := bu_check B b l w h
  obtain ⟨i0, hi, hz0, hz1, hz2⟩ := info_parts u8w_info
  have hms : (ba m).size = m.length := ba_size m
  go_enter Try.func20, Try.ntmps20
  go_wp2_with (first
    | (go_at_call 33; refine hcheck.mono ?_; rintro e w1 ⟨rfl, h1, hb1⟩; obtain ⟨hBb, v, hbk, hown, hne⟩ := h1; have c1 : w1.cell? ⟨b, 1, none⟩ = some v := (cell_of_heap hbk).trans rfl; rw [show (Lib.byteCells l).length = l.length from Lib.byteCells_length l] at hown; have HBK := hid hbk; clear hbk)
    | (at_builtin; refine Lib.wpList_append_own_string _ rfl _ _ 40 9 rfl B 5 i0 Try.underlying40 Try.underlying9 hi hz0 hz1 hz2 v l.length (Lib.byteCells l) rfl hown (ba m) rfl (by rw [hms]; unfold maxLen; omega) (by rw [hms]; omega) (Nat.le_trans hB hb1.size) ?_; intro v' w2 hown' hgr hnil; obtain ⟨q, c', rfl⟩ := owner_form hown'; have hg2 := grown_heap hown HBK.out (by decide) (Below.refl _ _) hgr; have hc2 : w2.cell? ⟨b, 1, none⟩ = some v := (cell_of_heap hg2).trans rfl; have hf2 : w2.frozen? ⟨b, 1, none⟩ = false := free_of_heap hg2; have HG2 := hid hg2; clear hg2 hnil))
  go_ret2
  refine ⟨rfl, .inr ?_, ?_⟩
  · refine Lib.BuilderAt.put hBb HG2.out ?_ (by decide)
    rw [← byteCells_append, List.length_append, Lib.byteCells_length, Lib.byteCells_length, ← hms]
    rw [show Lib.byteCells m = Lib.strCells (ba m) by rw [Lib.strCells_eq, ba_list]]
    exact hown'
  · exact (hb1.grown hgr (Nat.le_trans hB hb1.size) (fun k hk => (hown.lt k hk).1)).setCell (p := ⟨b, 1, none⟩) hBb _

set_option maxHeartbeats 1000000 in
theorem bu_String_some (B b : Nat) (l : Bs) (w : World) (h : BuAt w B b l) (h0 : l ≠ []) :
    Calls Try.prog 23 #[.pointer (some ⟨b, 0, none⟩)] w fun e w' => e = .returned (.string (ba l)) ∧ Below B w w' := by
  obtain ⟨p, hB, v, hbk, hown, hne⟩ := h.at
  clear h
  have hl0 : l.length ≠ 0 := by simpa using h0
  rw [Lib.byteCells_length] at hown
  obtain ⟨g, cap, cur, rfl, hbg, hg, hnc, hcm, hcs, htake⟩ : ∃ g cap cur, v = .slice (some ⟨g, 0, none⟩) l.length cap ∧ B ≤ g ∧ w.heap[g]? = some (.cells cur 5 (0, 0)) ∧ l.length ≤ cap ∧ cap ≤ maxLen ∧ cur.size = cap * 1 ∧ cur.toList.take (l.length * 1) = Lib.byteCells l := by
    rcases hown.2 with ⟨_, hz⟩ | ⟨g, cap, cur, hv, r⟩
    · exact absurd hz hl0
    · exact ⟨g, cap, cur, hv, r⟩
  have c1 : w.drew.cell? ⟨b, 1, none⟩ = some (.slice (some ⟨g, 0, none⟩) l.length cap) := by
    have : w.drew.heap[b]? = some (.cells #[p, .slice (some ⟨g, 0, none⟩) l.length cap] 47 (0, 0)) := hbk
    exact (cell_of_heap this).trans rfl
  have hSD : (Builtin.unsafeSliceData_ #[40] 68 #[.slice (some ⟨g, 0, none⟩) l.length cap]).run Try.prog w.drew = .ok (.pointer (some ⟨g, 0, none⟩)) w.drew :=
    Lib.run_unsafeSliceData_row _ _ _ _ _ _ (by omega)
  have hUS : (Builtin.unsafeString_ #[68, 3] 9 #[.pointer (some ⟨g, 0, none⟩), .int .i64 l.length]).run Try.prog w.drew = .ok (.string (ba l)) (w.drew.freeze ⟨g, 0, none⟩ l.length) := by
    refine Lib.run_unsafeString_row w.drew 68 3 9 5 Try.underlying68 bu_u8 g cur.size (by have hg' : w.drew.heap[g]? = some (.cells cur 5 (0, 0)) := hg; simp [World.shape?, hg']) l h0 (by omega) (by unfold maxLen at hcm; omega) ?_
    intro j x hx
    exact hown.cells (g := g) rfl j (.int .u8 x.toNat) (by simp [Lib.byteCells, hx])
  have HH := hid hbk
  have HO := hid hown
  clear hbk hown htake hcs hg
  go_enter Try.func23, Try.ntmps23
  go_wp2
  go_region
  all_goals (go_wp2; go_ret; exact ⟨rfl, Lib.below_freeze (Below.drew (Below.refl B w)) (p := ⟨g, 0, none⟩) hbg _⟩)

end Go.Proofs.Ytnglalahhdkebaa.Q
