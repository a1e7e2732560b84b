/-
  Check and the document's Check agree; a form that is right is right for more replicas.
-/
import Derived.Test.YtfnmekmgjcjglaaDoorYOK
namespace Go.Proofs.YtfnmekmgjcjglaaDoor.V
set_option linter.unusedVariables false
set_option linter.unusedSimpArgs false
set_option maxRecDepth 100000
open Go Go.RowKit Go.Maps
set_option maxRecDepth 100000
set_option linter.unusedVariables false
set_option linter.unusedSimpArgs false
set_option maxRecDepth 100000
set_option linter.unusedVariables false
set_option linter.unusedSimpArgs false
theorem refIn_eq (o : OpM) (l : List Claim) (n : Nat) : refIn o l n = if badB o l n = false ∧ restB o.dep n = true ∧ refB o = false ∧ refC o l = false then 0 else 5 := by
  unfold refIn
  cases badB o l n <;> cases restB o.dep n <;> cases refB o <;> cases refC o l <;> rfl
theorem checkM_eq (o : OpM) (l : List Claim) (n : Nat) (h1 : 1 ≤ n) (h8 : n ≤ 8) : checkM o l (n : Int) = if nameM o n = true ∧ headM o = true ∧ simM o (hasP o.kd) = true ∧ dotsM o (hasP o.kd) = true ∧ linesM o l (hasP o.kd) = true then 0 else 5 := by
  unfold checkM
  rw [if_neg (by omega), if_neg (by omega), Int.toNat_natCast]
  cases nameM o n <;> cases headM o <;> cases simM o (hasP o.kd) <;> cases dotsM o (hasP o.kd) <;> cases linesM o l (hasP o.kd) <;> rfl
theorem ite_iff {p q : Prop} [Decidable p] [Decidable q] (h : p ↔ q) : (if p then (0 : Int) else 5) = if q then 0 else 5 := by
  by_cases hp : p
  · rw [if_pos hp, if_pos (h.1 hp)]
  · rw [if_neg hp, if_neg (fun hq => hp (h.2 hq))]
theorem badB_false (o : OpM) (l : List Claim) (n : Nat) : badB o l n = false ↔ o.r < n ∧ o.n ≠ 0 ∧ o.dep o.r = o.n - 1 ∧ 1 ≤ o.tm ∧ o.tm ≤ 281474976710656 ∧ o.who ≠ 0 ∧ o.kd ≤ 8 ∧ zeroM o l = true := by
  show decide (badA o l n) = false ↔ _
  rw [decide_eq_false_iff_not]
  unfold badA
  cases zeroM o l <;> simp <;> omega
theorem nameM_true (o : OpM) (n : Nat) : nameM o n = true ↔ o.r < n ∧ o.n ≠ 0 ∧ o.dep o.r = o.n - 1 ∧ restB o.dep n = true := by
  unfold nameM
  simp
theorem near_none (n l m : Nat) : n = nearM 0 n l m ↔ n = 0 := by unfold nearM; simp
theorem eq0 (a : Nat) : ((a : Int) == 0) = decide (a = 0) := by by_cases h : a = 0 <;> simp [h]
theorem lt1 (a : Nat) : decide ((a : Int) < 1) = decide (a = 0) := by by_cases h : a = 0 <;> simp [h] <;> omega
set_option maxHeartbeats 1000000 in
theorem agree_0 (o : OpM) (hok : okO o) (l : List Claim) (n : Nat) (hk : o.kd = 0) : (badB o l n = false ∧ restB o.dep n = true ∧ refB o = false ∧ refC o l = false) ↔ (nameM o n = true ∧ headM o = true ∧ simM o (hasP o.kd) = true ∧ dotsM o (hasP o.kd) = true ∧ linesM o l (hasP o.kd) = true) := by
  have hto := hok.to
  have hit := hok.it
  clear hok
  rw [badB_false, nameM_true]
  unfold refB refC headM simM dotsM linesM zeroM fitD
  rw [hk]
  simp only [show inS (letS 0) 99 = false from rfl, show inS (letS 0) 116 = false from rfl, show inS (letS 0) 114 = false from rfl, show inS (letS 0) 100 = false from rfl, show inS (letS 0) 112 = false from rfl, show inS (letS 0) 97 = false from rfl, show inS (letS 0) 118 = false from rfl, show inS (letS 0) 105 = false from rfl, show inS (letS 0) 113 = false from rfl, show inS (letS 0) 101 = false from rfl, show inS (letS 0) 108 = false from rfl, show (hasP 0 &&& 1) = 0 from rfl, show (hasP 0 &&& 2) = 0 from rfl, show (hasP 0 &&& 4) = 0 from rfl, show (hasP 0 &&& 8) = 0 from rfl, show (hasP 0 &&& 16) = 0 from rfl, show (hasP 0 &&& 32) = 0 from rfl, show (hasP 0 &&& 64) = 0 from rfl, show (hasP 0 &&& 128) = 0 from rfl, show (hasP 0 &&& 256) = 0 from rfl, show (hasP 0 &&& 512) = 0 from rfl, show (hasP 0 &&& 1024) = 0 from rfl]
  simp only [near_none, nearM, eq0, lt1]
  simp only [Bool.true_or, Bool.false_or, Bool.or_false, Bool.and_true, Bool.true_and, Bool.false_and, Bool.not_false, Bool.not_true, if_false, if_true, reduceIte]
  grind
set_option maxHeartbeats 1000000 in
theorem agree_1 (o : OpM) (hok : okO o) (l : List Claim) (n : Nat) (hk : o.kd = 1) : (badB o l n = false ∧ restB o.dep n = true ∧ refB o = false ∧ refC o l = false) ↔ (nameM o n = true ∧ headM o = true ∧ simM o (hasP o.kd) = true ∧ dotsM o (hasP o.kd) = true ∧ linesM o l (hasP o.kd) = true) := by
  have hto := hok.to
  have hit := hok.it
  clear hok
  rw [badB_false, nameM_true]
  unfold refB refC headM simM dotsM linesM zeroM fitD
  rw [hk]
  simp only [show inS (letS 1) 99 = true from rfl, show inS (letS 1) 116 = true from rfl, show inS (letS 1) 114 = true from rfl, show inS (letS 1) 100 = true from rfl, show inS (letS 1) 112 = true from rfl, show inS (letS 1) 97 = false from rfl, show inS (letS 1) 118 = false from rfl, show inS (letS 1) 105 = false from rfl, show inS (letS 1) 113 = false from rfl, show inS (letS 1) 101 = false from rfl, show inS (letS 1) 108 = false from rfl, show (hasP 1 &&& 1) = 1 from rfl, show (hasP 1 &&& 2) = 2 from rfl, show (hasP 1 &&& 4) = 4 from rfl, show (hasP 1 &&& 8) = 8 from rfl, show (hasP 1 &&& 16) = 16 from rfl, show (hasP 1 &&& 32) = 0 from rfl, show (hasP 1 &&& 64) = 0 from rfl, show (hasP 1 &&& 128) = 0 from rfl, show (hasP 1 &&& 256) = 0 from rfl, show (hasP 1 &&& 512) = 0 from rfl, show (hasP 1 &&& 1024) = 0 from rfl]
  simp only [near_none, nearM, eq0, lt1]
  simp only [Bool.true_or, Bool.false_or, Bool.or_false, Bool.and_true, Bool.true_and, Bool.false_and, Bool.not_false, Bool.not_true, if_false, if_true, reduceIte]
  grind
set_option maxHeartbeats 1000000 in
theorem agree_2 (o : OpM) (hok : okO o) (l : List Claim) (n : Nat) (hk : o.kd = 2) : (badB o l n = false ∧ restB o.dep n = true ∧ refB o = false ∧ refC o l = false) ↔ (nameM o n = true ∧ headM o = true ∧ simM o (hasP o.kd) = true ∧ dotsM o (hasP o.kd) = true ∧ linesM o l (hasP o.kd) = true) := by
  have hto := hok.to
  have hit := hok.it
  clear hok
  rw [badB_false, nameM_true]
  unfold refB refC headM simM dotsM linesM zeroM fitD
  rw [hk]
  simp only [show inS (letS 2) 99 = true from rfl, show inS (letS 2) 116 = false from rfl, show inS (letS 2) 114 = false from rfl, show inS (letS 2) 100 = false from rfl, show inS (letS 2) 112 = false from rfl, show inS (letS 2) 97 = true from rfl, show inS (letS 2) 118 = false from rfl, show inS (letS 2) 105 = false from rfl, show inS (letS 2) 113 = false from rfl, show inS (letS 2) 101 = false from rfl, show inS (letS 2) 108 = false from rfl, show (hasP 2 &&& 1) = 1 from rfl, show (hasP 2 &&& 2) = 0 from rfl, show (hasP 2 &&& 4) = 0 from rfl, show (hasP 2 &&& 8) = 0 from rfl, show (hasP 2 &&& 16) = 0 from rfl, show (hasP 2 &&& 32) = 32 from rfl, show (hasP 2 &&& 64) = 0 from rfl, show (hasP 2 &&& 128) = 0 from rfl, show (hasP 2 &&& 256) = 0 from rfl, show (hasP 2 &&& 512) = 0 from rfl, show (hasP 2 &&& 1024) = 0 from rfl]
  simp only [near_none, nearM, eq0, lt1]
  simp only [Bool.true_or, Bool.false_or, Bool.or_false, Bool.and_true, Bool.true_and, Bool.false_and, Bool.not_false, Bool.not_true, if_false, if_true, reduceIte]
  grind
set_option maxHeartbeats 1000000 in
theorem agree_3 (o : OpM) (hok : okO o) (l : List Claim) (n : Nat) (hk : o.kd = 3) : (badB o l n = false ∧ restB o.dep n = true ∧ refB o = false ∧ refC o l = false) ↔ (nameM o n = true ∧ headM o = true ∧ simM o (hasP o.kd) = true ∧ dotsM o (hasP o.kd) = true ∧ linesM o l (hasP o.kd) = true) := by
  have hto := hok.to
  have hit := hok.it
  clear hok
  rw [badB_false, nameM_true]
  unfold refB refC headM simM dotsM linesM zeroM fitD
  rw [hk]
  simp only [show inS (letS 3) 99 = true from rfl, show inS (letS 3) 116 = false from rfl, show inS (letS 3) 114 = false from rfl, show inS (letS 3) 100 = false from rfl, show inS (letS 3) 112 = false from rfl, show inS (letS 3) 97 = false from rfl, show inS (letS 3) 118 = false from rfl, show inS (letS 3) 105 = true from rfl, show inS (letS 3) 113 = true from rfl, show inS (letS 3) 101 = true from rfl, show inS (letS 3) 108 = false from rfl, show (hasP 3 &&& 1) = 1 from rfl, show (hasP 3 &&& 2) = 0 from rfl, show (hasP 3 &&& 4) = 0 from rfl, show (hasP 3 &&& 8) = 0 from rfl, show (hasP 3 &&& 16) = 0 from rfl, show (hasP 3 &&& 32) = 0 from rfl, show (hasP 3 &&& 64) = 0 from rfl, show (hasP 3 &&& 128) = 128 from rfl, show (hasP 3 &&& 256) = 256 from rfl, show (hasP 3 &&& 512) = 512 from rfl, show (hasP 3 &&& 1024) = 0 from rfl]
  simp only [near_none, nearM, eq0, lt1]
  simp only [Bool.true_or, Bool.false_or, Bool.or_false, Bool.and_true, Bool.true_and, Bool.false_and, Bool.not_false, Bool.not_true, if_false, if_true, reduceIte]
  grind
set_option maxHeartbeats 1000000 in
theorem agree_4 (o : OpM) (hok : okO o) (l : List Claim) (n : Nat) (hk : o.kd = 4) : (badB o l n = false ∧ restB o.dep n = true ∧ refB o = false ∧ refC o l = false) ↔ (nameM o n = true ∧ headM o = true ∧ simM o (hasP o.kd) = true ∧ dotsM o (hasP o.kd) = true ∧ linesM o l (hasP o.kd) = true) := by
  have hto := hok.to
  have hit := hok.it
  clear hok
  rw [badB_false, nameM_true]
  unfold refB refC headM simM dotsM linesM zeroM fitD
  rw [hk]
  simp only [show inS (letS 4) 99 = true from rfl, show inS (letS 4) 116 = false from rfl, show inS (letS 4) 114 = false from rfl, show inS (letS 4) 100 = false from rfl, show inS (letS 4) 112 = false from rfl, show inS (letS 4) 97 = true from rfl, show inS (letS 4) 118 = false from rfl, show inS (letS 4) 105 = false from rfl, show inS (letS 4) 113 = true from rfl, show inS (letS 4) 101 = false from rfl, show inS (letS 4) 108 = false from rfl, show (hasP 4 &&& 1) = 1 from rfl, show (hasP 4 &&& 2) = 0 from rfl, show (hasP 4 &&& 4) = 0 from rfl, show (hasP 4 &&& 8) = 0 from rfl, show (hasP 4 &&& 16) = 0 from rfl, show (hasP 4 &&& 32) = 32 from rfl, show (hasP 4 &&& 64) = 0 from rfl, show (hasP 4 &&& 128) = 0 from rfl, show (hasP 4 &&& 256) = 256 from rfl, show (hasP 4 &&& 512) = 0 from rfl, show (hasP 4 &&& 1024) = 0 from rfl]
  simp only [near_none, nearM, eq0, lt1]
  simp only [Bool.true_or, Bool.false_or, Bool.or_false, Bool.and_true, Bool.true_and, Bool.false_and, Bool.not_false, Bool.not_true, if_false, if_true, reduceIte]
  grind
set_option maxHeartbeats 1000000 in
theorem agree_5 (o : OpM) (hok : okO o) (l : List Claim) (n : Nat) (hk : o.kd = 5) : (badB o l n = false ∧ restB o.dep n = true ∧ refB o = false ∧ refC o l = false) ↔ (nameM o n = true ∧ headM o = true ∧ simM o (hasP o.kd) = true ∧ dotsM o (hasP o.kd) = true ∧ linesM o l (hasP o.kd) = true) := by
  have hto := hok.to
  have hit := hok.it
  clear hok
  rw [badB_false, nameM_true]
  unfold refB refC headM simM dotsM linesM zeroM fitD
  rw [hk]
  simp only [show inS (letS 5) 99 = true from rfl, show inS (letS 5) 116 = false from rfl, show inS (letS 5) 114 = false from rfl, show inS (letS 5) 100 = false from rfl, show inS (letS 5) 112 = false from rfl, show inS (letS 5) 97 = true from rfl, show inS (letS 5) 118 = false from rfl, show inS (letS 5) 105 = false from rfl, show inS (letS 5) 113 = false from rfl, show inS (letS 5) 101 = false from rfl, show inS (letS 5) 108 = false from rfl, show (hasP 5 &&& 1) = 1 from rfl, show (hasP 5 &&& 2) = 0 from rfl, show (hasP 5 &&& 4) = 0 from rfl, show (hasP 5 &&& 8) = 0 from rfl, show (hasP 5 &&& 16) = 0 from rfl, show (hasP 5 &&& 32) = 32 from rfl, show (hasP 5 &&& 64) = 0 from rfl, show (hasP 5 &&& 128) = 0 from rfl, show (hasP 5 &&& 256) = 0 from rfl, show (hasP 5 &&& 512) = 0 from rfl, show (hasP 5 &&& 1024) = 0 from rfl]
  simp only [near_none, nearM, eq0, lt1]
  simp only [Bool.true_or, Bool.false_or, Bool.or_false, Bool.and_true, Bool.true_and, Bool.false_and, Bool.not_false, Bool.not_true, if_false, if_true, reduceIte]
  grind
set_option maxHeartbeats 1000000 in
theorem agree_6 (o : OpM) (hok : okO o) (l : List Claim) (n : Nat) (hk : o.kd = 6) : (badB o l n = false ∧ restB o.dep n = true ∧ refB o = false ∧ refC o l = false) ↔ (nameM o n = true ∧ headM o = true ∧ simM o (hasP o.kd) = true ∧ dotsM o (hasP o.kd) = true ∧ linesM o l (hasP o.kd) = true) := by
  have hto := hok.to
  have hit := hok.it
  clear hok
  rw [badB_false, nameM_true]
  unfold refB refC headM simM dotsM linesM zeroM fitD
  rw [hk]
  simp only [show inS (letS 6) 99 = true from rfl, show inS (letS 6) 116 = false from rfl, show inS (letS 6) 114 = false from rfl, show inS (letS 6) 100 = false from rfl, show inS (letS 6) 112 = false from rfl, show inS (letS 6) 97 = true from rfl, show inS (letS 6) 118 = true from rfl, show inS (letS 6) 105 = false from rfl, show inS (letS 6) 113 = false from rfl, show inS (letS 6) 101 = false from rfl, show inS (letS 6) 108 = false from rfl, show (hasP 6 &&& 1) = 1 from rfl, show (hasP 6 &&& 2) = 0 from rfl, show (hasP 6 &&& 4) = 0 from rfl, show (hasP 6 &&& 8) = 0 from rfl, show (hasP 6 &&& 16) = 0 from rfl, show (hasP 6 &&& 32) = 32 from rfl, show (hasP 6 &&& 64) = 64 from rfl, show (hasP 6 &&& 128) = 0 from rfl, show (hasP 6 &&& 256) = 0 from rfl, show (hasP 6 &&& 512) = 0 from rfl, show (hasP 6 &&& 1024) = 0 from rfl]
  simp only [near_none, nearM, eq0, lt1]
  simp only [Bool.true_or, Bool.false_or, Bool.or_false, Bool.and_true, Bool.true_and, Bool.false_and, Bool.not_false, Bool.not_true, if_false, if_true, reduceIte]
  grind
set_option maxHeartbeats 1000000 in
theorem agree_7 (o : OpM) (hok : okO o) (l : List Claim) (n : Nat) (hk : o.kd = 7) : (badB o l n = false ∧ restB o.dep n = true ∧ refB o = false ∧ refC o l = false) ↔ (nameM o n = true ∧ headM o = true ∧ simM o (hasP o.kd) = true ∧ dotsM o (hasP o.kd) = true ∧ linesM o l (hasP o.kd) = true) := by
  have hto := hok.to
  have hit := hok.it
  clear hok
  rw [badB_false, nameM_true]
  unfold refB refC headM simM dotsM linesM zeroM fitD
  rw [hk]
  simp only [show inS (letS 7) 99 = true from rfl, show inS (letS 7) 116 = false from rfl, show inS (letS 7) 114 = false from rfl, show inS (letS 7) 100 = false from rfl, show inS (letS 7) 112 = false from rfl, show inS (letS 7) 97 = true from rfl, show inS (letS 7) 118 = true from rfl, show inS (letS 7) 105 = false from rfl, show inS (letS 7) 113 = false from rfl, show inS (letS 7) 101 = false from rfl, show inS (letS 7) 108 = false from rfl, show (hasP 7 &&& 1) = 1 from rfl, show (hasP 7 &&& 2) = 0 from rfl, show (hasP 7 &&& 4) = 0 from rfl, show (hasP 7 &&& 8) = 0 from rfl, show (hasP 7 &&& 16) = 0 from rfl, show (hasP 7 &&& 32) = 32 from rfl, show (hasP 7 &&& 64) = 64 from rfl, show (hasP 7 &&& 128) = 0 from rfl, show (hasP 7 &&& 256) = 0 from rfl, show (hasP 7 &&& 512) = 0 from rfl, show (hasP 7 &&& 1024) = 0 from rfl]
  simp only [near_none, nearM, eq0, lt1]
  simp only [Bool.true_or, Bool.false_or, Bool.or_false, Bool.and_true, Bool.true_and, Bool.false_and, Bool.not_false, Bool.not_true, if_false, if_true, reduceIte]
  grind
set_option maxHeartbeats 1000000 in
theorem agree_8 (o : OpM) (hok : okO o) (l : List Claim) (n : Nat) (hk : o.kd = 8) : (badB o l n = false ∧ restB o.dep n = true ∧ refB o = false ∧ refC o l = false) ↔ (nameM o n = true ∧ headM o = true ∧ simM o (hasP o.kd) = true ∧ dotsM o (hasP o.kd) = true ∧ linesM o l (hasP o.kd) = true) := by
  have hto := hok.to
  have hit := hok.it
  clear hok
  rw [badB_false, nameM_true]
  unfold refB refC headM simM dotsM linesM zeroM fitD
  rw [hk]
  simp only [show inS (letS 8) 99 = true from rfl, show inS (letS 8) 116 = false from rfl, show inS (letS 8) 114 = false from rfl, show inS (letS 8) 100 = false from rfl, show inS (letS 8) 112 = false from rfl, show inS (letS 8) 97 = false from rfl, show inS (letS 8) 118 = false from rfl, show inS (letS 8) 105 = false from rfl, show inS (letS 8) 113 = false from rfl, show inS (letS 8) 101 = false from rfl, show inS (letS 8) 108 = true from rfl, show (hasP 8 &&& 1) = 1 from rfl, show (hasP 8 &&& 2) = 0 from rfl, show (hasP 8 &&& 4) = 0 from rfl, show (hasP 8 &&& 8) = 0 from rfl, show (hasP 8 &&& 16) = 0 from rfl, show (hasP 8 &&& 32) = 0 from rfl, show (hasP 8 &&& 64) = 0 from rfl, show (hasP 8 &&& 128) = 0 from rfl, show (hasP 8 &&& 256) = 0 from rfl, show (hasP 8 &&& 512) = 0 from rfl, show (hasP 8 &&& 1024) = 1024 from rfl]
  simp only [near_none, nearM, eq0, lt1]
  simp only [Bool.true_or, Bool.false_or, Bool.or_false, Bool.and_true, Bool.true_and, Bool.false_and, Bool.not_false, Bool.not_true, if_false, if_true, reduceIte]
  grind
theorem agree (o : OpM) (hok : okO o) (l : List Claim) (n : Nat) (h1 : 1 ≤ n) (h8 : n ≤ 8) : refIn o l n = checkM o l (n : Int) := by
  rw [refIn_eq, checkM_eq o l n h1 h8]
  apply ite_iff
  by_cases hk : o.kd ≤ 8
  · have : o.kd = 0 ∨ o.kd = 1 ∨ o.kd = 2 ∨ o.kd = 3 ∨ o.kd = 4 ∨ o.kd = 5 ∨ o.kd = 6 ∨ o.kd = 7 ∨ o.kd = 8 := by omega
    rcases this with h | h | h | h | h | h | h | h | h
    · exact agree_0 o hok l n h
    · exact agree_1 o hok l n h
    · exact agree_2 o hok l n h
    · exact agree_3 o hok l n h
    · exact agree_4 o hok l n h
    · exact agree_5 o hok l n h
    · exact agree_6 o hok l n h
    · exact agree_7 o hok l n h
    · exact agree_8 o hok l n h
  · constructor
    · rintro ⟨h, _⟩
      exact absurd ((badB_false o l n).1 h).2.2.2.2.2.2.1 hk
    · rintro ⟨_, h, _⟩
      unfold headM at h
      rw [Bool.and_eq_true] at h
      exact absurd (of_decide_eq_true h.1).2.2.2 hk
end Go.Proofs.YtfnmekmgjcjglaaDoor.V
