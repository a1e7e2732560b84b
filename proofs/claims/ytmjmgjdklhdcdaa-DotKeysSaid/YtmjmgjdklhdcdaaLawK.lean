/-
  The law DotKeys: which dots may be, their order, their keys, and the dots of any numbers.
-/
import Derived.Test.YtmjmgjdklhdcdaaKeyW
import Derived.Test.YtmjmgjdklhdcdaaOrdM
namespace Go.Proofs.Ytmjmgjdklhdcdaa
set_option linter.unusedVariables false
set_option linter.unusedSimpArgs false
open Go Go.RowKit

theorem refKeyC (a : Dot) (ha : a.ok) (x : Int) (h : keyE a = x) (W : World) : Calls Try.prog 9 #[.agg #[.int .u8 (a.1 : Int), .int .u32 (a.2 : Int)]] W
    fun e w' => e = .returned (.tuple #[.int .u64 (keyD a : Nat), .int .i64 x]) ∧ Below W.heap.size W w' := h ▸ ref_Key a ha W
theorem ofC (k : Nat) (hk : k < 18446744073709551616) (d : Dot) (x : Int) (h : ofD k = d) (h' : ofE k = x) (W : World) : Calls Try.prog 10 #[.int .u64 (k : Int)] W
    fun e w' => e = .returned (.tuple #[.agg #[.int .u8 (d.1 : Int), .int .u32 (d.2 : Int)], .int .i64 x]) ∧ Below W.heap.size W w' := h ▸ h' ▸ dot_Of k hk W
theorem refOfC (k : Nat) (hk : k < 18446744073709551616) (d : Dot) (x : Int) (h : ofD k = d) (h' : ofE k = x) (W : World) : Calls Try.prog 11 #[.int .u64 (k : Int)] W
    fun e w' => e = .returned (.tuple #[.agg #[.int .u8 (d.1 : Int), .int .u32 (d.2 : Int)], .int .i64 x]) ∧ Below W.heap.size W w' := h ▸ h' ▸ ref_Of k hk W
theorem keyC2 (a : Dot) (ha : a.ok) (k : Nat) (x : Int) (h : keyD a = k) (h' : keyE a = x) (W : World) : Calls Try.prog 8 #[.agg #[.int .u8 (a.1 : Int), .int .u32 (a.2 : Int)]] W
    fun e w' => e = .returned (.tuple #[.int .u64 (k : Int), .int .i64 x]) ∧ Below W.heap.size W w' := h ▸ h' ▸ dot_Key a ha W
theorem ofE_yes {k : Nat} (h : ofOk k = true) : ofE k = 0 := by simp [ofE, h]
theorem ofE_no {k : Nat} (h : ofOk k = false) : ofE k = 5 := by simp [ofE, h]

theorem law_DotKeys (x0 x1 : Dot) (a2 : Int) (w : World) (w0 : x0.ok) (w1 : x1.ok) (w2 : (Lit.int .u64 a2).wf = true) :
    Calls Try.prog 3 #[.agg #[.int .u8 (x0.1 : Int), .int .u32 (x0.2 : Int)], .agg #[.int .u8 (x1.1 : Int), .int .u32 (x1.2 : Int)], .int .u64 a2] w fun e w' => e = .returned (.bool true) ∧ Below w.heap.size w w' := by
  obtain ⟨key, rfl, hk⟩ := arg64 w2
  have hK := key_bound x0 w0
  have h4 := dot_May x0
  have h5 := ref_May x0
  have h6 := compare_below x0 x1
  have h7 := refCompare x0 x1 w0 w1
  obtain ⟨p, hp⟩ : ∃ p, ofD key = p := ⟨_, rfl⟩
  have hpo : p.ok := hp ▸ of_ok key
  have h10 := neq_same p.1 p.2
  cases hm : mayD x0
  · have h0 := keyC x0 w0 2 (keyE_no hm)
    have h1 := refKeyC x0 w0 2 (keyE_no hm)
    have h8 := ofC (keyD x0) hK _ _ rfl rfl
    cases ho : ofOk key
    · exact keys_00 w h0 h1 (ofC key hk p 5 hp (ofE_no ho)) (refOfC key hk p 5 hp (ofE_no ho)) h4 h5 h6 h7 h8 (keyC2 p hpo _ _ rfl rfl) h10
    · exact keys_01 w h0 h1 (ofC key hk p 0 hp (ofE_yes ho)) (refOfC key hk p 0 hp (ofE_yes ho)) h4 h5 h6 h7 h8 (keyC2 p hpo key 0 (hp ▸ (key_of ho).1) (hp ▸ (key_of ho).2)) h10
  · have h0 := keyC x0 w0 0 (keyE_yes hm)
    have h1 := refKeyC x0 w0 0 (keyE_yes hm)
    have h8 := ofC (keyD x0) hK x0 0 (of_key w0 hm).1 (of_key w0 hm).2
    have h11 := eql_yes x0.1 x0.2
    cases ho : ofOk key
    · exact keys_10 w h0 h1 (ofC key hk p 5 hp (ofE_no ho)) (refOfC key hk p 5 hp (ofE_no ho)) h4 h5 h6 h7 h8 (keyC2 p hpo _ _ rfl rfl) h10 h11
    · exact keys_11 w h0 h1 (ofC key hk p 0 hp (ofE_yes ho)) (refOfC key hk p 0 hp (ofE_yes ho)) h4 h5 h6 h7 h8 (keyC2 p hpo key 0 (hp ▸ (key_of ho).1) (hp ▸ (key_of ho).2)) h10 h11

end Go.Proofs.Ytmjmgjdklhdcdaa
