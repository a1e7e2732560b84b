/-
  The document's answer: In, Same.
-/
import Derived.Test.YtmjmgjdklhdcdaaRefA
import Derived.Deep.QuietTactic
import Derived.BigQuiet
namespace Go.Proofs.Ytmjmgjdklhdcdaa
set_option linter.unusedVariables false
set_option linter.unusedSimpArgs false
open Go Go.RowKit Go.Maps

theorem mem_take_succ {l : List Dot} {k : Nat} {x d : Dot} (hx : l[k]? = some x) : d ∈ l.take (k + 1) ↔ d ∈ l.take k ∨ d = x := by
  have hk : k < l.length := (List.getElem?_eq_some_iff.1 hx).1
  rw [List.take_succ_eq_append_getElem hk, (List.getElem?_eq_some_iff.1 hx).2]
  simp

set_option maxHeartbeats 1000000 in
theorem ref_In (a : Option Addr) (len cap : Nat) (xs : List Dot) (d : Dot) (w : World) (hI : IsDots w a len cap xs) :
    Calls Try.prog 39 #[.slice a len cap, .agg #[.int .u8 (d.1 : Int), .int .u32 (d.2 : Int)]] w fun e w' => e = .returned (.bool (inB xs d)) ∧ Below w.heap.size w w' := by
  obtain ⟨r, m⟩ := d
  have hcap : len ≤ 9223372036854775807 := by have := hI.2.1; have := hI.2.2.1; unfold maxLen at this; omega
  have hlen := hI.1
  have hb1 : Below w.heap.size w (w.alloc (.cells #[.int .u8 (r : Int), .int .u32 (m : Int)] 24)) := (Below.refl _ _).alloc (Nat.le_refl _) _
  have HI := hid (hI.keep hb1)
  clear hI
  have HL := hid hlen
  clear hlen
  go_enter Try.func39, Try.ntmps39
  go_wp2
  go_loopw [5] (fun i wr => ∃ k : Nat, k ≤ len ∧ i = .int .i64 k ∧ inB (xs.take k) (r, m) = false ∧ wr.cell? ⟨w.heap.size, 0, none⟩ = some (.int .u8 (r : Int)) ∧ wr.cell? ⟨w.heap.size, 1, none⟩ = some (.int .u32 (m : Int)) ∧ Below w.heap.size w wr ∧ IsDots wr a len cap xs) (fun i _ => len - (intOf i).toNat)
  case atStart => exact ⟨0, by omega, rfl, by simp [inB], by simp, by simp, hb1, HI.out⟩
  case round =>
    obtain ⟨k, hk, rfl, hno, hx0, hx1, hB, hI⟩ := hrel
    by_cases hlt : k < len
    · cases a with
      | none => have := HI.out.none_len; omega
      | some ad =>
        obtain ⟨s, q, B, O, sp, hx, hs, hq, hA, hc0, hc1⟩ := hI.at k hlt
        have HX := hid (And.intro hx hno)
        have HJ := hid (And.intro hI (And.intro hx0 hx1))
        clear hx hno hI
        by_cases he : (s, q) = (r, m)
        · have heq : ∀ W, (binOp .eql 24 (.agg #[.int .u8 (s : Int), .int .u32 (q : Int)]) (.agg #[.int .u8 (r : Int), .int .u32 (m : Int)])).run Try.prog W = .ok (.bool true) W := fun W => by rw [run_eql, eqB_true he]
          have HE := hid he
          clear he
          go_wp2
          go_quiet (fail)
          go_wp2
          go_ret
          refine ⟨?_, hB.trans (below_drewN _ _ _)⟩
          have hm : (r, m) ∈ xs := by rw [← HE.out]; exact List.mem_of_getElem? HX.out.1
          rw [show inB xs (r, m) = true by simp [inB, hm]]; rfl
        · have heq : ∀ W, (binOp .eql 24 (.agg #[.int .u8 (s : Int), .int .u32 (q : Int)]) (.agg #[.int .u8 (r : Int), .int .u32 (m : Int)])).run Try.prog W = .ok (.bool false) W := fun W => by rw [run_eql, eqB_false he]
          have HE := hid he
          clear he
          go_wp2
          go_quiet (fail)
          go_wp2
          go_roundw
          case rel =>
            refine ⟨k + 1, by omega, by go_num, ?_, HJ.out.2.1, HJ.out.2.2, hB.trans (below_drewN _ _ _), HJ.out.1.keep (below_drewN _ _ _)⟩
            have h1 := HX.out.2
            have h2 := HE.out
            simp only [inB, decide_eq_false_iff_not] at h1 ⊢
            rw [mem_take_succ HX.out.1]
            rintro (h | h)
            · exact h1 h
            · exact h2 h.symm
          case measure => simp [intOf]; omega
    · obtain rfl : k = len := by omega
      have hno' := hno
      rw [show xs.take k = xs by rw [← HL.out]; exact List.take_length] at hno'
      have HN := hid hno'
      clear hno hno'
      go_wp2
      go_ret
      exact ⟨by rw [HN.out]; rfl, hB⟩

def SameTo (xs ys : List Dot) (k : Nat) : Prop := xs.take k = ys.take k
theorem SameTo.step {xs ys : List Dot} {k : Nat} {x : Dot} (h : SameTo xs ys k) (hx : xs[k]? = some x) (hy : ys[k]? = some x) : SameTo xs ys (k + 1) := by
  have h1 := (List.getElem?_eq_some_iff.1 hx)
  have h2 := (List.getElem?_eq_some_iff.1 hy)
  unfold SameTo at *
  rw [List.take_succ_eq_append_getElem h1.1, List.take_succ_eq_append_getElem h2.1, h, h1.2, h2.2]
/-- Are two rows the same? -/
def sameB (xs ys : List Dot) : Bool := decide (xs = ys)

set_option maxHeartbeats 1000000 in
theorem ref_Same (a a' : Option Addr) (len cap len' cap' : Nat) (xs ys : List Dot) (w : World) (hI : IsDots w a len cap xs) (hI' : IsDots w a' len' cap' ys) :
    Calls Try.prog 19 #[.slice a len cap, .slice a' len' cap'] w fun e w' => e = .returned (.bool (sameB xs ys)) ∧ Below w.heap.size w w' := by
  have hcap : len ≤ 9223372036854775807 := by have := hI.2.1; have := hI.2.2.1; unfold maxLen at this; omega
  have hcap' : len' ≤ 9223372036854775807 := by have := hI'.2.1; have := hI'.2.2.1; unfold maxLen at this; omega
  have hlen := hI.1
  have hlen' := hI'.1
  have HL := hid (And.intro hlen hlen')
  clear hlen hlen'
  by_cases hll : len = len'
  · subst hll
    have HI := hid (And.intro hI hI')
    clear hI hI'
    go_enter Try.func19, Try.ntmps19
    go_wp2
    go_loopw [5] (fun i wr => ∃ k : Nat, k ≤ len ∧ i = .int .i64 k ∧ SameTo xs ys k ∧ Below w.heap.size w wr) (fun i _ => len - (intOf i).toNat)
    case atStart => exact ⟨0, by omega, rfl, by simp [SameTo], Below.refl _ _⟩
    case round =>
      obtain ⟨k, hk, rfl, hsame, hB⟩ := hrel
      by_cases hlt : k < len
      · cases a with
        | none => have := HI.out.1.none_len; omega
        | some ad =>
          cases a' with
          | none => have := HI.out.2.none_len; omega
          | some ad' =>
            obtain ⟨r, m, B, O, sp, hx, _, _, hA, hc0, hc1⟩ := (HI.out.1.keep hB).at k hlt
            obtain ⟨s, q, B', O', sp', hy, _, _, hA', hd0, hd1⟩ := (HI.out.2.keep hB).at k hlt
            have HX := hid (And.intro hx (And.intro hy hsame))
            clear hx hy hsame
            by_cases he : (r, m) = (s, q)
            · have heq : ∀ W, (binOp .neq 24 (.agg #[.int .u8 (r : Int), .int .u32 (m : Int)]) (.agg #[.int .u8 (s : Int), .int .u32 (q : Int)])).run Try.prog W = .ok (.bool false) W := fun W => by rw [run_neq, eqB_true he]; rfl
              have HE := hid he
              clear he
              go_wp2
              go_quiet (fail)
              go_wp2
              go_roundw
              case rel => exact ⟨k + 1, by omega, by go_num, HX.out.2.2.step HX.out.1 (by rw [HE.out]; exact HX.out.2.1), hB.trans (below_drewN _ _ _)⟩
              case measure => simp [intOf]; omega
            · have heq : ∀ W, (binOp .neq 24 (.agg #[.int .u8 (r : Int), .int .u32 (m : Int)]) (.agg #[.int .u8 (s : Int), .int .u32 (q : Int)])).run Try.prog W = .ok (.bool true) W := fun W => by rw [run_neq, eqB_false he]; rfl
              have HE := hid he
              clear he
              go_wp2
              go_quiet (fail)
              go_wp2
              go_ret
              have hne : sameB xs ys = false := by
                unfold sameB
                rw [decide_eq_false_iff_not]
                intro e
                have h1 := HX.out.1
                rw [e, HX.out.2.1] at h1
                exact HE.out (Option.some.inj h1).symm
              exact ⟨by rw [hne]; rfl, hB.trans (below_drewN _ _ _)⟩
      · obtain rfl : k = len := by omega
        have he : sameB xs ys = true := by
          unfold sameB SameTo at *
          rw [List.take_of_length_le (by rw [HL.out.1]; exact Nat.le_refl _), List.take_of_length_le (by rw [HL.out.2]; exact Nat.le_refl _)] at hsame
          simp [hsame]
        have HE := hid he
        clear he hsame
        go_wp2
        go_ret
        exact ⟨by rw [HE.out]; rfl, hB⟩
  · have he : sameB xs ys = false := by
      unfold sameB
      rw [decide_eq_false_iff_not]
      intro e
      exact hll (by rw [← HL.out.1, ← HL.out.2, e])
    have hne : ((len : Int) == len') = false := by simp; omega
    have hne' : ((len : Int) != len') = true := by simp; omega
    have HE := hid he
    clear he hI hI'
    go_enter Try.func19, Try.ntmps19
    go_wp2
    go_ret
    exact ⟨by rw [HE.out]; rfl, Below.refl _ _⟩

end Go.Proofs.Ytmjmgjdklhdcdaa
