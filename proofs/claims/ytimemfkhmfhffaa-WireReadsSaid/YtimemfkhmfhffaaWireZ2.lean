/-
  A thing read alike: all kinds.
-/
import Derived.Test.YtimemfkhmfhffaaWireZ
namespace Go.Proofs.Ytimemfkhmfhffaa
open Go Go.RowKit Wire

theorem small_stepI {st : St} (hs : Small st) (x : Thing) : Small (stepI st x) := by
  cases h : stepI st x with
  | none => exact small_none
  | some r =>
    cases st with
    | none =>
      unfold stepI at h
      rw [takeText_none, takeDot_none, takeVec_none, takeNum_none] at h
      simp at h
    | some l =>
      have hl : l.length ≤ 1000000 := hs
      have hlt : r.length < l.length := by
        unfold stepI at h
        split at h
        · exact takeNum_left h
        · split at h
          · exact takeText_left h
          · split at h
            · exact takeDot_left h
            · exact takeVec_left h
      show r.length ≤ 1000000
      omega

theorem law_take (W : World) (g : Nat) (x : Thing) (hok : x.ok) (st : St) (hs : Small st) (hr : RAt W (some g) st) :
    Calls Try.prog 14 #[.pointer (some ⟨g, 0, none⟩), .agg (rcells st), .agg x.cells] W fun e w' => e = .returned (.tuple #[.agg (rcells (stepI st x)), .bool true]) ∧ RAt w' (some g) (stepI st x) ∧ Keeps W.heap.size (some g) W w' := by
  obtain ⟨X, f, hX⟩ := rcells_form st
  obtain ⟨X', f', hX'⟩ := rcells_form (stepI st x)
  rw [hX, hX']
  have hmo := hok.2.2.2.2.2.2
  by_cases k0 : x.kind % 4 = 0
  · have e : stepI st x = (takeNum st x.most).2 := by unfold stepI; rw [if_pos k0]
    have h1 := fun W => ref_TakeNum st hs x.most W
    have h2 := fun w (h : RAt w (some g) st) => wire_Num (some g) st x.most hs w h
    rw [← e, hX, hX'] at h1
    rw [← e] at h2
    exact take_0 W g x st _ X X' f f' _ x.most rfl k0 hr h1 h2
  by_cases k1 : x.kind % 4 = 1
  · have e : stepI st x = (takeText st (((x.most % 5000 : Nat) : Int) - 10)).2 := by unfold stepI; rw [if_neg k0, if_pos k1]
    have h1 := fun W => ref_TakeText st hs (((x.most % 5000 : Nat) : Int) - 10) (by omega) (by omega) W
    have h2 := fun w (h : RAt w (some g) st) => wire_Text (some g) st (((x.most % 5000 : Nat) : Int) - 10) (by omega) (by omega) hs w h
    rw [← e, hX, hX'] at h1
    rw [← e] at h2
    exact take_1 W g x st _ X X' f f' _ _ _ rfl rfl k1 hr h1 h2
  by_cases k2 : x.kind % 4 = 2
  · have e : stepI st x = (takeDot st).2 := by unfold stepI; rw [if_neg k0, if_neg k1, if_pos k2]
    have h1 := fun W => ref_TakeDot st hs W
    have h2 := fun w (h : RAt w (some g) st) => wire_Dot (some g) st hs w h
    rw [← e, hX, hX'] at h1
    rw [← e] at h2
    exact take_2 W g x st _ X X' f f' _ _ k2 hr h1 h2
  · have e : stepI st x = (takeVec st).2 := by unfold stepI; rw [if_neg k0, if_neg k1, if_neg k2]
    have h1 := fun W => ref_TakeVector st hs W
    have h2 := fun w (h : RAt w (some g) st) => wire_Vector (some g) st hs w h
    obtain ⟨b0, b1, b2, b3, b4, b5, b6, b7, hv⟩ := list8 _ (takeVec_len st)
    rw [← e, hX, hX', hv] at h1
    rw [← e, hv] at h2
    exact take_3 W g x st _ X X' f f' b0 b1 b2 b3 b4 b5 b6 b7 (by omega) hr h1 h2

end Go.Proofs.Ytimemfkhmfhffaa
