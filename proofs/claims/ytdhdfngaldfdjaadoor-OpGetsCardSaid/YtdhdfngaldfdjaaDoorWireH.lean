/-
  'none' and 'head' of stage 2: what the document fixes.
-/
import Derived.Test.YtdhdfngaldfdjaaDoorWireG
namespace Go.Proofs.YtdhdfngaldfdjaaDoor
open Go Go.RowKit Wire

set_option maxRecDepth 100000
set_option linter.unusedVariables false
set_option linter.unusedSimpArgs false
theorem enc_vals : enc 5 = [5] ∧ enc 127 = [127] ∧ enc 128 = [129, 128] ∧ enc 256 = [130, 1, 0] ∧ enc 18446744073709551615 = [136, 255, 255, 255, 255, 255, 255, 255, 255] ∧ enc 2 = [2] ∧ enc 3 = [3] ∧ enc 300 = [130, 1, 44] := by
  refine ⟨?_, ?_, ?_, ?_, ?_, ?_, ?_, ?_⟩ <;> simp [enc, dig] <;> decide

theorem none_vals : (takeNum (some [129, 5]) 18446744073709551615).2 = none ∧ (takeNum (some [130, 0, 255]) 18446744073709551615).2 = none ∧ (takeNum (some [137]) 18446744073709551615).2 = none ∧ (takeNum (some [128]) 18446744073709551615).2 = none ∧ (takeNum (some [129]) 18446744073709551615).2 = none ∧ (takeNum (some [5]) 4).2 = none := by
  refine ⟨?_, ?_, ?_, ?_, ?_, ?_⟩ <;> simp [takeNum, parse, big, dig]

/-- A writer beside a reader's doing. -/
theorem WAt.beside {w w' : World} {B g : Nat} {l : List UInt8} {p : Option Nat} {st : St} (h : WAt w B g l) (hr : RAt w p st) (hk : Keeps w.heap.size p w w') : WAt w' B g l := by
  obtain ⟨v, hg, ho⟩ := h
  have key : ∀ (k : Nat) (cs : Array Value) (t : TypeId), w.heap[k]? = some (Obj.cells cs t (0, 0)) → t ≠ 101 → w'.heap[k]? = some (Obj.cells cs t (0, 0)) := fun k cs t hkk ht => by
    refine (hk.block k (lt_of_some hkk) (fun e => ?_)).trans hkk
    subst e
    have hr' : w.heap[k]? = some (.cells (rcells st) 101 (0, 0)) := hr
    rw [hr'] at hkk
    cases hkk
    exact ht rfl
  refine ⟨v, key g _ _ hg (by decide), ho.1, ?_⟩
  rcases ho.2 with hn | ⟨g', cap, cur, rfl, hB, hgg, rest⟩
  · exact .inl hn
  · exact .inr ⟨g', cap, cur, rfl, hB, key g' _ _ hgg (by decide), rest⟩
/-- A reader beside a writer's doing. -/
theorem RAt.beside {w w' : World} {B g : Nat} {l : List UInt8} {p : Option Nat} {st : St} (h : RAt w p st) (hw : WAt w B g l) (hk : Keeps B (some g) w w') : RAt w' p st := by
  cases p with
  | none => exact h
  | some q =>
    refine hk.other q _ _ _ h (by decide) (fun e => ?_)
    obtain ⟨v, hg, _⟩ := hw
    have e' : q = g := Option.some.inj e
    have h' : w.heap[q]? = some (Obj.cells (rcells st) 101 (0, 0)) := h
    rw [e', hg] at h'
    have ht := (Obj.cells.inj (Option.some.inj h')).2.1
    exact absurd ht (by decide)

theorem head_text : takeText (some [2, 97, 98, 3, 130, 1, 44]) 2 = ([97, 98], some [3, 130, 1, 44]) := by
  have := takeText_enc (s := [97, 98]) (most := 2) (by decide) (by decide) [3, 130, 1, 44]
  rw [show ([97, 98] : List UInt8).length = 2 by rfl, enc_vals.2.2.2.2.2.1] at this
  exact this
theorem head_dot : takeDot (some [3, 130, 1, 44]) = ((3, 300), some []) := by
  have := takeDot_enc (a := 3) (b := 300) (by decide) (by decide) []
  rw [enc_vals.2.2.2.2.2.2.1, enc_vals.2.2.2.2.2.2.2] at this
  exact this
theorem head_bytes : ([] ++ encT [97, 98]) ++ encD 3 300 = [2, 97, 98, 3, 130, 1, 44] := by
  unfold encT encD
  rw [show ([97, 98] : List UInt8).length = 2 by rfl, enc_vals.2.2.2.2.2.1, enc_vals.2.2.2.2.2.2.1, enc_vals.2.2.2.2.2.2.2]
  rfl

theorem dot_head (g : Nat) (W : World) (h : RAt W (some g) (some [3, 130, 1, 44])) :
    Calls Tryd.prog 39 #[.pointer (some ⟨g, 0, none⟩)] W fun e w' => e = .returned (.agg #[.int .u8 3, .int .u32 300]) ∧ RAt w' (some g) (some []) ∧ Keeps W.heap.size (some g) W w' := by
  have := wire_Dot (some g) _ (by unfold Small; decide) W h
  rw [head_dot] at this
  exact this
theorem end_head (g : Nat) (W : World) (h : RAt W (some g) (some [])) :
    Calls Tryd.prog 45 #[.pointer (some ⟨g, 0, none⟩)] W fun e w' => e = .returned (.int .i64 0) ∧ W = w' := wire_End (some g) (some []) W h
theorem bytes_head (B g : Nat) (W : World) (h : WAt W B g (([] ++ encT [97, 98]) ++ encD 3 300)) :
    Calls Tryd.prog 34 #[.pointer (some ⟨g, 0, none⟩)] W fun e w' => e = .returned (.string ⟨#[2, 97, 98, 3, 130, 1, 44]⟩) ∧ W = w' := by
  have := wire_Bytes W B g _ h
  rw [head_bytes] at this
  exact this

end Go.Proofs.YtdhdfngaldfdjaaDoor
