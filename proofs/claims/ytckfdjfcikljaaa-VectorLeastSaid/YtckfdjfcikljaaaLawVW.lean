/-
  Merged and met, plainly.
-/
import Derived.Test.YtckfdjfcikljaaaLawVC
namespace Go.Proofs.Ytckfdjfcikljaaa
set_option linter.unusedVariables false
set_option linter.unusedSimpArgs false
open Go Go.RowKit Go.Maps

theorem mx_comm (a b : Vec) : mx b a = mx a b := by funext i; simp only [mx]; omega
theorem mn_comm (a b : Vec) : mn b a = mn a b := by funext i; simp only [mn]; omega
theorem mx_mn (a b : Vec) : mx a (mn a b) = a := by funext i; simp only [mx, mn]; omega
theorem mn_mx (a b : Vec) : mn a (mx a b) = a := by funext i; simp only [mx, mn]; omega
theorem mx_assoc (a b c : Vec) : mx a (mx b c) = mx (mx a b) c := by funext i; simp only [mx]; omega
theorem above_mx1 (a b : Vec) : aboveB (mx a b) a = true := above_iff.2 fun i _ => by simp only [mx]; omega
theorem above_mx2 (a b : Vec) : aboveB (mx a b) b = true := above_iff.2 fun i _ => by simp only [mx]; omega
theorem above_mn1 (a b : Vec) : aboveB a (mn a b) = true := above_iff.2 fun i _ => by simp only [mn]; omega
theorem above_mn2 (a b : Vec) : aboveB b (mn a b) = true := above_iff.2 fun i _ => by simp only [mn]; omega
theorem above_least {a b c : Vec} (h : aboveB c a = true) (h' : aboveB c b = true) : aboveB c (mx a b) = true := above_iff.2 fun i hi => by
  have h1 := above_iff.1 h i hi
  have h2 := above_iff.1 h' i hi
  simp only [mx]; omega
theorem above_most {a b c : Vec} (h : aboveB a c = true) (h' : aboveB b c = true) : aboveB (mn a b) c = true := above_iff.2 fun i hi => by
  have h1 := above_iff.1 h i hi
  have h2 := above_iff.1 h' i hi
  simp only [mn]; omega
theorem above_eq {a b : Vec} (ha : okV a) (hb : okV b) : aboveB a b = eqV (mx a b) a := by
  have key : aboveB a b = true ↔ eqV (mx a b) a = true := by
    rw [eqV_iff (ok_mx ha hb) ha, above_iff]
    constructor
    · intro h
      funext i
      by_cases hi : i < 8
      · have := h i hi
        simp only [mx]; omega
      · simp only [mx]; rw [ha.2 i (by omega), hb.2 i (by omega)]; rfl
    · intro h i hi
      have := congrFun h i
      simp only [mx] at this; omega
  cases h1 : aboveB a b <;> cases h2 : eqV (mx a b) a
  · rfl
  · rw [h1] at key; exact absurd (key.2 h2) (by simp)
  · rw [h2] at key; exact absurd (key.1 h1) (by simp)
  · rfl
theorem merge3 (a b c : Vec) (v : Value) (W : World) (h : VecsV W v [a, b, c]) : Calls Try.prog 24 #[v] W fun e w' => e = .returned (.agg #[.int .u32 ((mx (mx a b) c) 0 : Int), .int .u32 ((mx (mx a b) c) 1 : Int), .int .u32 ((mx (mx a b) c) 2 : Int), .int .u32 ((mx (mx a b) c) 3 : Int), .int .u32 ((mx (mx a b) c) 4 : Int), .int .u32 ((mx (mx a b) c) 5 : Int), .int .u32 ((mx (mx a b) c) 6 : Int), .int .u32 ((mx (mx a b) c) 7 : Int)]) ∧ Below W.heap.size W w' := vec_Merge v [a, b, c] W h
theorem meet3 (a b c : Vec) (v : Value) (W : World) (h : VecsV W v [a, b, c]) : Calls Try.prog 26 #[v] W fun e w' => e = .returned (.agg #[.int .u32 ((mn (mn a b) c) 0 : Int), .int .u32 ((mn (mn a b) c) 1 : Int), .int .u32 ((mn (mn a b) c) 2 : Int), .int .u32 ((mn (mn a b) c) 3 : Int), .int .u32 ((mn (mn a b) c) 4 : Int), .int .u32 ((mn (mn a b) c) 5 : Int), .int .u32 ((mn (mn a b) c) 6 : Int), .int .u32 ((mn (mn a b) c) 7 : Int)]) ∧ Below W.heap.size W w' := vec_Meet v [a, b, c] W h

end Go.Proofs.Ytckfdjfcikljaaa
