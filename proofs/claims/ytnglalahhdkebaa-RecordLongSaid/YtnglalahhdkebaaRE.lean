/-
  Contracts of the document's record: what is read.
-/
import Derived.Test.YtnglalahhdkebaaRP
namespace Go.Proofs.Ytnglalahhdkebaa.Q
set_option linter.unusedVariables false
set_option linter.unusedSimpArgs false
set_option maxRecDepth 100000
open Go Go.RowKit Wire

theorem prefix_is (x y : Bs) : x.isPrefixOf y = (decide (x.length ≤ y.length) && decide (y.take x.length = x)) := by
  rw [Bool.eq_iff_iff, List.isPrefixOf_iff_prefix, Bool.and_eq_true, decide_eq_true_eq, decide_eq_true_eq]
  constructor
  · rintro ⟨t, rfl⟩
    exact ⟨by simp, List.take_left⟩
  · rintro ⟨_, h⟩
    exact ⟨y.drop x.length, by conv => lhs; arg 1; rw [← h]
                               exact List.take_append_drop _ _⟩
theorem beq_ba (a b : Bs) : ((ba a).toList == (ba b).toList) = decide (a = b) := by rw [beq_lists, ba_list, ba_list]

theorem ref_begins (x y : Bs) (hx : x.length ≤ 1000000) (hy : y.length ≤ 1000000) (w : World) :
    Calls Try.prog 43 #[.string (ba x), .string (ba y)] w fun e w' => e = .returned (.bool (x.isPrefixOf y)) ∧ w = w' := by
  have hxs := ba_size x
  have hys := ba_size y
  have he := ba_extract_to y x.length
  rw [prefix_is]
  by_cases h : x.length ≤ y.length
  · have hb := beq_ba (y.take x.length) x
    rw [decide_eq_true h, Bool.true_and]
    generalize decide (y.take x.length = x) = b at hb
    go_enter Try.func43, Try.ntmps43
    go_wp2
    go_ret
    exact ⟨rfl, rfl⟩
  · have hn : ¬ x.length ≤ y.length := h
    rw [decide_eq_false h, Bool.false_and]
    go_enter Try.func43, Try.ntmps43
    go_wp2
    go_ret
    exact ⟨rfl, rfl⟩

/-! ### The length's bytes -/
theorem len_nil (S : ByteArray) (hs : S.size = 0) (w : World) :
    Calls Try.prog 42 #[.string S] w fun e w' => e = .returned (.bool true) ∧ w = w' := by
  go_enter Try.func42, Try.ntmps42
  go_wp2
  go_ret
  exact ⟨rfl, rfl⟩
theorem len_low (S : ByteArray) (n a : Nat) (hs : S.size = n + 1) (hn : n ≤ 1000000) (hat : S[0].toNat = a) (ha : a < 128) (w : World) :
    Calls Try.prog 42 #[.string S] w fun e w' => e = .returned (.bool true) ∧ w = w' := by
  go_enter Try.func42, Try.ntmps42
  go_wp2
  go_ret
  exact ⟨rfl, rfl⟩
theorem len_one (S : ByteArray) (hs : S.size = 1) (a : Nat) (hat : S[0].toNat = a) (ha : a = 129 ∨ a = 130) (w : World) :
    Calls Try.prog 42 #[.string S] w fun e w' => e = .returned (.bool true) ∧ w = w' := by
  rcases ha with rfl | rfl
  · go_enter Try.func42, Try.ntmps42
    go_wp2
    go_ret
    exact ⟨rfl, rfl⟩
  · go_enter Try.func42, Try.ntmps42
    go_wp2
    go_ret
    exact ⟨rfl, rfl⟩
theorem len_129 (S : ByteArray) (n b : Nat) (hs : S.size = n + 2) (hn : n ≤ 1000000) (hat : S[0].toNat = 129) (hb : S[1].toNat = b) (r : Bool) (hr : decide (128 ≤ b) = r) (w : World) :
    Calls Try.prog 42 #[.string S] w fun e w' => e = .returned (.bool r) ∧ w = w' := by
  have hr2 : decide ((128 : Int) ≤ (b : Int)) = r := by rw [← hr]; exact decide_eq_decide.2 ⟨fun h => by omega, fun h => by omega⟩
  clear hr
  go_enter Try.func42, Try.ntmps42
  go_wp2
  go_ret
  exact ⟨rfl, rfl⟩
theorem len_130 (S : ByteArray) (n b : Nat) (hs : S.size = n + 2) (hn : n ≤ 1000000) (hat : S[0].toNat = 130) (hb : S[1].toNat = b) (r : Bool) (hr : decide (1 ≤ b) = r) (w : World) :
    Calls Try.prog 42 #[.string S] w fun e w' => e = .returned (.bool r) ∧ w = w' := by
  have hr2 : decide ((1 : Int) ≤ (b : Int)) = r := by rw [← hr]; exact decide_eq_decide.2 ⟨fun h => by omega, fun h => by omega⟩
  clear hr
  go_enter Try.func42, Try.ntmps42
  go_wp2
  go_ret
  exact ⟨rfl, rfl⟩
theorem len_else (S : ByteArray) (n m a : Nat) (hs : S.size = n + 1) (hn : n ≤ 1000000) (hat : S[0].toNat = a) (h1 : ¬ a < 128) (h2 : ¬ a = 129) (h3 : ¬ a = 130) (hm : min (n + 1) 4 = m) (p : Bs) (hp : S.extract 0 m = ba p) (r : Bool)
    (hr : ∀ w, Calls Try.prog 43 #[.string (ba p), .string (ba [131, 1, 0, 0])] w fun e w' => e = .returned (.bool r) ∧ w = w') (w : World) :
    Calls Try.prog 42 #[.string S] w fun e w' => e = .returned (.bool r) ∧ w = w' := by
  have hmi : min ((n : Int) + 1) 4 = (m : Int) := by omega
  have hmi2 : min (((n + 1 : Nat) : Int)) 4 = (m : Int) := by omega
  have hm1 : m ≤ n + 1 := by omega
  have q1 : ((n : Int) + 1 == 0) = false := by simp; omega
  have q2 : decide ((a : Int) < 128) = false := decide_eq_false (by omega)
  have e2 : ¬ (a : Int) = 129 := by omega
  have e3 : ¬ (a : Int) = 130 := by omega
  clear hm
  go_enter Try.func42, Try.ntmps42
  go_wp2_with (go_at_call 43; refine (hr _).mono ?_; rintro e w1 ⟨rfl, rfl⟩)
  go_ret
  exact ⟨rfl, rfl⟩
end Go.Proofs.Ytnglalahhdkebaa.Q
