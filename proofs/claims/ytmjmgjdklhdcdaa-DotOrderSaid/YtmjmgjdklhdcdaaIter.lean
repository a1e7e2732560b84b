/-
  The iterator over a map's keys (maps.Keys) and what collects it (slices.AppendSeq, slices.Collect), at dots.
-/
import Derived.RangeFuncNested
import Derived.RangeFuncBound
import Derived.RangeFuncLeaves
import Derived.Shelf.Abstract
import Derived.WalkKit
import Derived.OwnWalkIn
import Derived.TacticsInMore
import Derived.LoopNIn
import Derived.LoopIn
import Derived.Maps.AppendAt
import Derived.Sort.MapsRangeIn
import Derived.Test.YtmjmgjdklhdcdaaDotC
namespace Go.Proofs.Ytmjmgjdklhdcdaa
set_option linter.unusedVariables false
set_option linter.unusedSimpArgs false
open Go Go.RowKit Go.Maps Go.Shelf
attribute [local go_sem] Oper.semAt_some

/-- No dot twice; a dot is on the list just where the map has it and it is no longer to come. -/
def Coll (D0 : Dat) (left : Lit → Bool) (ss : List Dot) : Prop := ss.Nodup ∧ (∀ x ∈ ss, x.ok) ∧ ∀ x : Dot, x.ok → (x ∈ ss ↔ (Maps.has D0 (dk x) = true ∧ left (dk x) = false))

theorem Coll.start (D0 : Dat) : Coll D0 (Maps.has D0) [] := ⟨List.nodup_nil, by simp, fun x _ => by cases Maps.has D0 (dk x) <;> simp⟩
theorem Coll.step {D0 : Dat} {left : Lit → Bool} {ss : List Dot} (h : Coll D0 left ss) {x : Dot} (hx : x.ok) {y : Dat} (hlk : left (dk x) = true) (hat : ∀ zd, D0.atKey (dk x) zd = y) : Coll D0 (fun z => left z && !z.sameKey (dk x)) (ss ++ [x]) := by
  have hhas : Maps.has D0 (dk x) = true := has_true_of_atKey hat
  have hnew : x ∉ ss := fun hm => by have := ((h.2.2 x hx).1 hm).2; rw [hlk] at this; cases this
  refine ⟨List.nodup_append.2 ⟨h.1, by simp, fun a ha b hb => by simp at hb; subst hb; exact fun e => hnew (e ▸ ha)⟩, fun y hy => ?_, fun y hy => ?_⟩
  · rcases List.mem_append.1 hy with hy | hy
    · exact h.2.1 y hy
    · simp at hy; subst hy; exact hx
  · by_cases e : y = x
    · subst e; simp [hhas, WideAt.sameKey_self (dk_key hx)]
    · have hne : dk y ≠ dk x := fun e' => e (dk_inj hy hx e')
      simp [h.2.2 y hy, e, sameKey_ne hne]
theorem Coll.done {D0 : Dat} {left : Lit → Bool} {ss : List Dot} (h : Coll D0 left ss) (hl : ∀ kl, left kl = false) : Coll D0 (fun _ => false) ss :=
  ⟨h.1, h.2.1, fun x hx => by rw [h.2.2 x hx, hl]⟩

set_option maxRecDepth 100000 in
set_option maxHeartbeats 1000000 in
theorem keys1_in (F : Fence) (n : Nat) (hf : F.fn 47) (hro : F.round = none) (hn : 1 ≤ n) (l Bm b nn : Nat) (D0 : Dat) (J Jx : List Dot → World → Prop)
    (hY : ∀ pre (x : Dot) W, J pre W → pre.length < Maps.size D0 → YieldAt F (n - 1) Try.prog l #[.agg #[.int .u8 (x.1 : Int), .int .u32 (x.2 : Int)]] W fun e W' =>
      (e = .returned (.bool true) ∧ J (pre ++ [x]) W' ∧ KeepsWalks W W') ∨ (e = .returned (.bool false) ∧ Jx (pre ++ [x]) W'))
    (W : World) (hJ : AbidesFrom W.heap.size J) (hm : W.cell? ⟨Bm, 0, none⟩ = some (.map (some b))) (hown : W.ownsMap Try.prog 24 unitElem b nn D0) (h0 : J [] W) :
    CallsIn F n Try.prog 47 #[.func (.yield l) #[] #[], .pointer (some ⟨Bm, 0, none⟩)] W fun e W' => (∃ v, e = .returned v) ∧
      ((∃ ss, Coll D0 (fun _ => false) ss ∧ J ss W') ∨ (∃ pre, True ∧ Jx pre W')) := by
  refine callsIn_of_wp Try.func47 rfl hf ?_ hro
  simp only [Try.ntmps47, List.size_toArray, List.length_cons, List.length_nil, Nat.reduceAdd, Nat.reduceSub, Array.replicate_succ, Array.replicate_zero, List.push_toArray, List.append_toArray, List.nil_append, List.cons_append]
  gi_wp2_with (first
    | (gi_at_range; refine wpListIn_range_own _ rfl _ 56 rfl 24 66 dotKeyed Try.underlying56 _ b nn _ rfl hown ?_; intro w0 hrg0 hg0 hs0)
    | gi_in)
  go_frame
  gi_loopw [3] (fun _ wr => ∃ (left : Lit → Bool) (cnt : Nat) (ss : List Dot), wr.ranges Try.prog 24 unitElem b W.heap.size nn D0 left cnt ∧ ss.length + cnt ≤ Maps.size D0 ∧ W.heap.size ≤ wr.heap.size ∧ Coll D0 left ss ∧ J ss wr)
    (fun _ wr => wr.rangeLeft b W.heap.size)
  case atStart =>
    exact ⟨_, _, [], hrg0, by simp, by omega, Coll.start D0, hJ [] W w0 none h0 hg0 (fun r e => by cases e)⟩
  case round =>
    obtain ⟨left, cnt, ss, hrg, hcs, hsz, hC, hJs⟩ := hrel
    gi_wp2_with (first
      | (gi_at_next; refine wpListIn_next_ranges _ rfl _ rfl 24 dotKeyed unitElem (fun x : Dot => Value.agg #[.int .u8 (x.1 : Int), .int .u32 (x.2 : Int)]) id (fun key kl hk => by obtain ⟨x, _, hx, _⟩ := keyOf_inv hk; exact ⟨x, hx⟩) (fun v _ _ => ⟨v, rfl⟩) b W.heap.size nn _ _ _ rfl hrg ?_ ?_)
      | gi_in)
    · -- nothing is left
      intro hc0 hl0
      gi_wp2
      go_end0
      exact ⟨⟨_, rfl⟩, .inl ⟨ss, hC.done hl0, hJs⟩⟩
    · -- an entry has come
      intro xr xn c kl yd yp w2 cnt2 hkey hlk hv hat hrg2 hlt hg2 hs2 hen
      obtain ⟨x, hxo, ex, rfl⟩ := keyOf_inv hkey
      obtain rfl : (xr, xn) = x := dv_inj ex
      have hJ2 : J ss w2 := hJ ss wr w2 (some W.heap.size) hJs hg2 (fun r e => by cases e; exact ⟨Nat.le_refl _, hrg.iter_walk⟩)
      have hJ3 : J ss (w2.alloc (.cells #[.int .u8 (xr : Int), .int .u32 (xn : Int)] 24)) := hJ ss w2 _ none hJ2 (World.grownBy_alloc w2 _ none) (fun r e => by cases e)
      obtain ⟨fn, tmps, assign, body, hy, hR⟩ := hY ss (xr, xn) _ hJ3 (by omega)
      dsimp only at hy
      have hsz2 : W.heap.size ≤ w2.heap.size := by omega
      have hen' : (Instr.entry (.pointer (some ⟨W.heap.size, 0, none⟩))).run Try.prog w2 = .ok (.tuple #[.agg #[.int .u8 (xr : Int), .int .u32 (xn : Int)], c]) w2 := hen
      clear hs2 ex hen hkey
      gi_wp2
      refine hR.mono ?_
      rintro e W3 (⟨rfl, hJ4, hk3⟩ | ⟨rfl, hJx⟩)
      · gi_wp2
        have hk4 := (KeepsWalks.alloc w2 (.cells #[.int .u8 (xr : Int), .int .u32 (xn : Int)] 24)).trans hk3
        have hrg3 := hrg2.of_walks hk4
        go_roundw
        case rel => exact ⟨_, cnt2, ss ++ [(xr, xn)], hrg3, by simp; omega, by have := hk4.size; omega, hC.step hxo hlk hat, hJ4⟩
        case measure => rw [hrg3.left_eq, hrg.left_eq]; exact hlt
      · gi_wp2
        refine bodyPost_ret (results_none rfl _ _ _) rfl ?_
        exact ⟨⟨_, rfl⟩, .inr ⟨_, trivial, hJx⟩⟩

end Go.Proofs.Ytmjmgjdklhdcdaa
