/-
  The document's letters of a kind; is a letter in a text?
-/
import Derived.Test.YtdhdfngaldfdjaaDoorOG
import Derived.Test.YtdhdfngaldfdjaaDoorWireY
namespace Go.Proofs.YtdhdfngaldfdjaaDoor.V
set_option linter.unusedVariables false
set_option linter.unusedSimpArgs false
set_option maxRecDepth 100000
open Go Go.RowKit Go.Maps

def letS (k : Nat) : ByteArray := match k with
  | 0 => ⟨#[]⟩
  | 1 => ⟨#[99, 116, 114, 100, 112]⟩
  | 2 => ⟨#[99, 97]⟩
  | 3 => ⟨#[99, 105, 113, 101]⟩
  | 4 => ⟨#[99, 97, 113]⟩
  | 5 => ⟨#[99, 97]⟩
  | 6 => ⟨#[99, 97, 118]⟩
  | 7 => ⟨#[99, 97, 118]⟩
  | 8 => ⟨#[99, 108]⟩
  | _ => ⟨#[]⟩

set_option maxHeartbeats 1000000 in
theorem ref_Has (k : Nat) (hk : k < 9) (w : World) :
    Calls Tryd.prog 25 #[.int .u8 (k : Int)] w fun e w' => e = .returned (.string (letS k)) ∧ Below w.heap.size w w' := by
  match k, hk with
  | 0, _ =>
    go_enter Tryd.func25, Tryd.ntmps25
    go_wp2
    go_ret
    exact ⟨rfl, (Below.refl _ _).alloc (Nat.le_refl _) _⟩
  | 1, _ =>
    go_enter Tryd.func25, Tryd.ntmps25
    go_wp2
    go_ret
    exact ⟨rfl, (Below.refl _ _).alloc (Nat.le_refl _) _⟩
  | 2, _ =>
    go_enter Tryd.func25, Tryd.ntmps25
    go_wp2
    go_ret
    exact ⟨rfl, (Below.refl _ _).alloc (Nat.le_refl _) _⟩
  | 3, _ =>
    go_enter Tryd.func25, Tryd.ntmps25
    go_wp2
    go_ret
    exact ⟨rfl, (Below.refl _ _).alloc (Nat.le_refl _) _⟩
  | 4, _ =>
    go_enter Tryd.func25, Tryd.ntmps25
    go_wp2
    go_ret
    exact ⟨rfl, (Below.refl _ _).alloc (Nat.le_refl _) _⟩
  | 5, _ =>
    go_enter Tryd.func25, Tryd.ntmps25
    go_wp2
    go_ret
    exact ⟨rfl, (Below.refl _ _).alloc (Nat.le_refl _) _⟩
  | 6, _ =>
    go_enter Tryd.func25, Tryd.ntmps25
    go_wp2
    go_ret
    exact ⟨rfl, (Below.refl _ _).alloc (Nat.le_refl _) _⟩
  | 7, _ =>
    go_enter Tryd.func25, Tryd.ntmps25
    go_wp2
    go_ret
    exact ⟨rfl, (Below.refl _ _).alloc (Nat.le_refl _) _⟩
  | 8, _ =>
    go_enter Tryd.func25, Tryd.ntmps25
    go_wp2
    go_ret
    exact ⟨rfl, (Below.refl _ _).alloc (Nat.le_refl _) _⟩

def inS (s : ByteArray) (c : Nat) : Bool := s.data.toList.any fun b => decide (b.toNat = c)

set_option maxHeartbeats 1000000 in
theorem ref_in (s : ByteArray) (hs : s.size ≤ 1000000) (c : Nat) (w : World) :
    Calls Tryd.prog 26 #[.string s, .int .u8 (c : Int)] w fun e w' => e = .returned (.bool (inS s c)) ∧ w = w' := by
  go_enter Tryd.func26, Tryd.ntmps26
  go_wp2
  go_loop [5] (fun i => ∃ k : Nat, k ≤ s.size ∧ i = .int .i64 k ∧ ∀ j, j < k → ∀ b, s.data.toList[j]? = some b → b.toNat ≠ c) (fun i => s.size - (intOf i).toNat)
  case atStart => exact ⟨0, by omega, rfl, fun j hj => absurd hj (by omega)⟩
  case round =>
    obtain ⟨k, hk, rfl, hall⟩ := hrel
    by_cases hlt : k < s.size
    · have hget : s.data.toList[k]? = some s[k] := by
        rw [List.getElem?_eq_getElem (by simpa using hlt)]; rfl
      have HA := hid (And.intro hall hget)
      clear hall hget
      by_cases hc : s[k].toNat = c
      · have e1 : ((s[k].toNat : Int) == (c : Int)) = true := by simp [hc]
        have HC := hid hc
        clear hc
        go_wp2
        go_ret
        refine ⟨?_, rfl⟩
        have : inS s c = true := by
          unfold inS
          rw [List.any_eq_true]
          exact ⟨_, List.mem_of_getElem? HA.out.2, by rw [HC.out]; simp⟩
        rw [this]; rfl
      · have e1 : ((s[k].toNat : Int) == (c : Int)) = false := by simp; omega
        have HC := hid hc
        clear hc
        go_wp2
        go_round
        case rel =>
          refine ⟨k + 1, by omega, by go_num, fun j hj b hb => ?_⟩
          by_cases hjk : j = k
          · rw [hjk] at hb
            rw [HA.out.2] at hb
            cases hb
            exact HC.out
          · exact HA.out.1 j (by omega) b hb
        case measure => simp [intOf]; omega
    · obtain rfl : k = s.size := by omega
      have HA := hid hall
      clear hall
      go_wp2
      go_ret
      refine ⟨?_, rfl⟩
      have : inS s c = false := by
        cases hb : inS s c
        · rfl
        · unfold inS at hb
          rw [List.any_eq_true] at hb
          obtain ⟨b, hm, hb⟩ := hb
          obtain ⟨j, hj, rfl⟩ := List.mem_iff_getElem.1 hm
          exact absurd (of_decide_eq_true hb) (HA.out j (by simpa using hj) _ (List.getElem?_eq_getElem hj))
      rw [this]; rfl

end Go.Proofs.YtdhdfngaldfdjaaDoor.V
