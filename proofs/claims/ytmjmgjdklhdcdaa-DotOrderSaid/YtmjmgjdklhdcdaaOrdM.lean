/-
  What the laws DotOrder and DotKeys say of dots and keys, in numbers.
-/
import Derived.Test.YtmjmgjdklhdcdaaHead
import Derived.Test.YtmjmgjdklhdcdaaArg
namespace Go.Proofs.Ytmjmgjdklhdcdaa
set_option linter.unusedVariables false
set_option linter.unusedSimpArgs false
open Go Go.RowKit

theorem cmpC (a b : Dot) (x : Int) (h : cmpD a b = x) (W : World) : Calls Try.prog 14 #[.agg #[.int .u8 (a.1 : Int), .int .u32 (a.2 : Int)], .agg #[.int .u8 (b.1 : Int), .int .u32 (b.2 : Int)]] W
    fun e w' => e = .returned (.int .i64 x) ∧ Below W.heap.size W w' := h ▸ compare_below a b W
theorem keyC (a : Dot) (ha : a.ok) (x : Int) (h : keyE a = x) (W : World) : Calls Try.prog 8 #[.agg #[.int .u8 (a.1 : Int), .int .u32 (a.2 : Int)]] W
    fun e w' => e = .returned (.tuple #[.int .u64 (keyD a : Nat), .int .i64 x]) ∧ Below W.heap.size W w' := h ▸ dot_Key a ha W
theorem keyE_no {a : Dot} (h : mayD a = false) : keyE a = 2 := by simp [keyE, h]
theorem keyE_yes {a : Dot} (h : mayD a = true) : keyE a = 0 := by simp [keyE, h]
theorem may_iff {a : Dot} : mayD a = true ↔ a.1 < 8 ∧ a.2 ≠ 0 := by simp [mayD]
theorem key_yes {a : Dot} (h : mayD a = true) : keyD a = 8 * a.2 + a.1 := by simp [keyD, h]
theorem key_bound (a : Dot) (ha : a.ok) : keyD a < 18446744073709551616 := by
  cases h : mayD a
  · simp [keyD, h]
  · have := (may_iff.1 h).1; have := ha.2; rw [key_yes h]; omega
theorem key_ne {a b : Dot} (hne : a ≠ b) (h : mayD a = true) (k : mayD b = true) : (((keyD a : Nat) : Int) == ((keyD b : Nat) : Int)) = false := by
  rw [key_yes h, key_yes k]
  have h1 := (may_iff.1 h).1; have k1 := (may_iff.1 k).1
  simp only [beq_eq_false_iff_ne, ne_eq, Int.natCast_inj]
  intro e
  exact hne (Prod.ext (by omega) (by omega))
theorem key_lt {r n m : Nat} (h : mayD (r, n) = true) (k : mayD (r, m) = true) (hl : ltD (r, n) (r, m)) : ((keyD (r, n) : Nat) : Int) < ((keyD (r, m) : Nat) : Int) := by
  rw [key_yes h, key_yes k]
  unfold ltD at hl
  simp only at hl ⊢
  omega
theorem key_ge {r n m : Nat} (h : mayD (r, n) = true) (k : mayD (r, m) = true) (hl : ltD (r, m) (r, n)) : ¬ ((keyD (r, n) : Nat) : Int) < ((keyD (r, m) : Nat) : Int) := by
  rw [key_yes h, key_yes k]
  unfold ltD at hl
  simp only at hl ⊢
  omega
theorem cmpD_lt {a b : Dot} (h : ltD a b) : cmpD a b = -1 := by rw [cmpD_eq, if_pos h]
theorem cmpD_gt {a b : Dot} (h : ltD b a) : cmpD a b = 1 := by rw [cmpD_eq, if_neg (ltD_asymm h), if_pos h]
theorem cmpD_same (a : Dot) : cmpD a a = 0 := by rw [cmpD_eq, if_neg (ltD_irrefl a), if_neg (ltD_irrefl a)]
theorem cmp_le {a b : Dot} : cmpD a b ≤ 0 ↔ ¬ ltD b a := by
  rw [cmpD_eq]
  constructor
  · intro h k
    rw [if_neg (ltD_asymm k), if_pos k] at h
    omega
  · intro h
    split
    · omega
    · first
      | omega
      | (rw [if_neg h]; omega)
theorem cmp_le_trans {a b c : Dot} (h : cmpD a b ≤ 0) (k : cmpD b c ≤ 0) : ¬ 0 < cmpD a c := by
  have h' := cmp_le.1 h
  have k' := cmp_le.1 k
  have : cmpD a c ≤ 0 := cmp_le.2 (by unfold ltD at *; omega)
  omega
theorem eql_no {r n s m : Nat} (h : (r, n) ≠ (s, m)) (W : World) : (binOp .eql 24 (.agg #[.int .u8 (r : Int), .int .u32 (n : Int)]) (.agg #[.int .u8 (s : Int), .int .u32 (m : Int)])).run Try.prog W = .ok (.bool false) W := by rw [run_eql, eqB_false h]
theorem eql_yes (r n : Nat) (W : World) : (binOp .eql 24 (.agg #[.int .u8 (r : Int), .int .u32 (n : Int)]) (.agg #[.int .u8 (r : Int), .int .u32 (n : Int)])).run Try.prog W = .ok (.bool true) W := by rw [run_eql, eqB_true rfl]
theorem neq_same (r n : Nat) (W : World) : (binOp .neq 24 (.agg #[.int .u8 (r : Int), .int .u32 (n : Int)]) (.agg #[.int .u8 (r : Int), .int .u32 (n : Int)])).run Try.prog W = .ok (.bool false) W := by rw [run_neq, eqB_true rfl]; rfl

theorem of_key {a : Dot} (ha : a.ok) (h : mayD a = true) : ofD (keyD a) = a ∧ ofE (keyD a) = 0 := by
  have h1 := may_iff.1 h
  have h2 := ha.2
  have hk : ofOk (keyD a) = true := by rw [key_yes h]; simp [ofOk]; omega
  refine ⟨?_, by simp [ofE, hk]⟩
  unfold ofD
  rw [if_pos hk, key_yes h]
  exact Prod.ext (by show (8 * a.2 + a.1) % 8 = a.1; omega) (by show (8 * a.2 + a.1) / 8 = a.2; omega)
theorem of_ok (k : Nat) : (ofD k).ok := by
  unfold ofD
  split
  · rename_i h
    simp [ofOk] at h
    exact ⟨by show k % 8 < 256; omega, by show k / 8 < 4294967296; omega⟩
  · exact ⟨by decide, by decide⟩
theorem key_of {k : Nat} (h : ofOk k = true) : keyD (ofD k) = k ∧ keyE (ofD k) = 0 := by
  have h' := h
  simp [ofOk] at h'
  have hm : mayD (ofD k) = true := by
    rw [may_iff]; unfold ofD; rw [if_pos h]
    exact ⟨by show k % 8 < 8; omega, by show k / 8 ≠ 0; omega⟩
  refine ⟨?_, keyE_yes hm⟩
  rw [key_yes hm]; unfold ofD; rw [if_pos h]
  show 8 * (k / 8) + k % 8 = k
  omega

end Go.Proofs.Ytmjmgjdklhdcdaa
