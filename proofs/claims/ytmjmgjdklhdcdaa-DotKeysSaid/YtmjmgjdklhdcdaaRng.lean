/-
  dot.Range and the document's.
-/
import Derived.Test.YtmjmgjdklhdcdaaRefE
namespace Go.Proofs.Ytmjmgjdklhdcdaa
set_option linter.unusedVariables false
set_option linter.unusedSimpArgs false
open Go Go.RowKit Go.Maps

/-- The dots of a replica from one number on. -/
def dotsFrom (r f n : Nat) : List Dot := (List.range n).map fun i => (r, f + i)
/-- A range's dots, and its error. -/
def rngD (r f t : Nat) : List Dot := if mayD (r, f) = true ∧ f ≤ t ∧ t - f + 1 ≤ 65536 then dotsFrom r f (t - f + 1) else []
def rngE (r f t : Nat) : Int := if mayD (r, f) = true then (if f ≤ t ∧ ¬ t - f + 1 ≤ 65536 then 3 else 0) else 2

def RngPost (w : World) (r f t : Nat) (e : Ending) (w' : World) : Prop :=
  ∃ v, e = .returned (.tuple #[v, .int .i64 (rngE r f t)]) ∧ w'.ownsRow w.heap.size 24 2 v (rngD r f t).length (flat (rngD r f t)) ∧ Below w.heap.size w w'

theorem made_size (n : Nat) : (madeCells (Value.agg #[.int .u8 0, .int .u32 0]).cells (n * 2)).size = n * 2 := by simp [madeCells]
theorem made_row (n : Nat) : (madeCells (Value.agg #[.int .u8 0, .int .u32 0]).cells (n * 2)).toList = flat (List.replicate n ((0, 0) : Dot)) := by
  induction n with
  | zero => simp [madeCells, flat]
  | succ n ih =>
    rw [List.replicate_succ', flat_snoc, ← ih, show (n + 1) * 2 = n * 2 + 1 + 1 by omega]
    simp [madeCells, Array.range_succ, Value.cells]

theorem dotsFrom_length (r f k : Nat) : (dotsFrom r f k).length = k := by simp [dotsFrom]
theorem dotsFrom_succ (r f k : Nat) : dotsFrom r f (k + 1) = dotsFrom r f k ++ [(r, f + k)] := by simp [dotsFrom, List.range_succ]
def half (r f k n : Nat) : List Dot := dotsFrom r f k ++ List.replicate (n - k) (0, 0)
theorem half_length {r f k n : Nat} (h : k ≤ n) : (half r f k n).length = n := by simp [half, dotsFrom_length]; omega
theorem half_get {r f k n : Nat} (h : k < n) : (half r f k n)[k]? = some (0, 0) := by
  unfold half
  rw [List.getElem?_append_right (by rw [dotsFrom_length]; exact Nat.le_refl _), dotsFrom_length, Nat.sub_self, List.getElem?_replicate, if_pos (by omega)]
theorem half_set {r f k n : Nat} (h : k < n) : (half r f k n).set k (r, f + k) = half r f (k + 1) n := by
  unfold half
  rw [List.set_append_right _ _ (by rw [dotsFrom_length]; exact Nat.le_refl _), dotsFrom_length, Nat.sub_self, dotsFrom_succ, show n - k = (n - (k + 1)) + 1 by omega, List.replicate_succ, List.set_cons_zero, List.append_assoc]
  rfl

theorem run_make_dots (n : Nat) (hn : n ≤ 65536) (W : World) : (Instr.makeSlice 39 (.int .u32 (n : Int)) (.int .u32 (n : Int))).run Try.prog W = .ok (.slice (some ⟨W.heap.size, 0, none⟩) n n) (W.alloc (.cells (madeCells (Value.agg #[.int .u8 0, .int .u32 0]).cells (n * 2)) 24)) := by
  obtain ⟨i0, hi, hz0, hz1, hz2⟩ := info_parts infoDot
  have h := run_makeSlice (P := Try.prog) W 39 24 i0 (.agg #[.int .u8 0, .int .u32 0]) Try.underlying39 hi hz0 .u32 .u32 (n : Int) (n : Int) (by omega) (Int.le_refl _) (by rw [hz1]; simp; omega) (by rw [hz2]; omega) (by omega)
  rw [hz1] at h
  simpa using h

set_option maxRecDepth 100000 in
set_option maxHeartbeats 2000000 in
theorem dot_Range (r f t : Nat) (hr : r < 256) (hf : f < 4294967296) (ht : t < 4294967296) (w : World) :
    Calls Try.prog 17 #[.int .u8 (r : Int), .int .u32 (f : Int), .int .u32 (t : Int)] w (RngPost w r f t) := by
  have hmay := fun W => dot_May (r, f) W
  dsimp only at hmay
  cases hb : mayD (r, f)
  · rw [hb] at hmay
    have hE := hid (show rngD r f t = [] ∧ rngE r f t = 2 by simp [rngD, rngE, hb])
    clear hb
    go_enter Try.func17, Try.ntmps17
    go_wp2_with (go_at_call 12; refine (hmay _).mono ?_; rintro e w1 ⟨rfl, hB⟩)
    go_ret2
    refine ⟨_, by rw [hE.out.2]; rfl, ?_, hB⟩
    rw [hE.out.1]
    exact World.ownsRow_nil _ _ _ _
  · rw [hb] at hmay
    have hf1 : 1 ≤ f := by simp [mayD] at hb; omega
    by_cases hlt : t < f
    · have hE := hid (show rngD r f t = [] ∧ rngE r f t = 0 by
        have : ¬ f ≤ t := by omega
        simp [rngD, rngE, hb, this])
      clear hb
      go_enter Try.func17, Try.ntmps17
      go_wp2_with (go_at_call 12; refine (hmay _).mono ?_; rintro e w1 ⟨rfl, hB⟩)
      go_ret2
      refine ⟨_, by rw [hE.out.2]; rfl, ?_, hB⟩
      rw [hE.out.1]
      exact World.ownsRow_nil _ _ _ _
    · obtain ⟨n, hn⟩ : ∃ n, n = t - f + 1 := ⟨_, rfl⟩
      have htn : t = f + n - 1 := by omega
      have hn1 : 1 ≤ n := by omega
      by_cases hbig : n ≤ 65536
      · have hE := hid (show rngD r f t = dotsFrom r f n ∧ rngE r f t = 0 by
          have h1 : f ≤ t := by omega
          have h2 : t - f + 1 ≤ 65536 := by omega
          simp [rngD, rngE, hb, h1, h2, hn])
        have HN := hid (And.intro hn htn)
        clear hb
        have e1 : (t : Int) - f + 1 = n := by omega
        clear hn htn
        have hmk := fun W => run_make_dots n hbig W
        generalize hcs : madeCells (Value.agg #[.int .u8 0, .int .u32 0]).cells (n * 2) = cs at hmk
        have HCS := hid hcs
        clear hcs
        go_enter Try.func17, Try.ntmps17
        go_wp2_with (go_at_call 12; refine (hmay _).mono ?_; rintro e w1 ⟨rfl, hB⟩)
        go_loopw [29] (fun i wr => ∃ k : Nat, k ≤ n ∧ i = .int .i64 k ∧ RowAt wr w1.heap.size (n * 2) (half r f k n) ∧ Below w.heap.size w wr) (fun i _ => n - (intOf i).toNat)
        case atStart =>
          refine ⟨0, by omega, rfl, ⟨cs, heap_alloc_last' _ _, ?_, by rw [half_length (by omega)]; exact Nat.le_refl _, ?_⟩, hB.alloc hB.size _⟩
          · rw [← HCS.out]; exact made_size n
          · have e := made_row n
            rw [HCS.out] at e
            rw [half_length (by omega), e, show half r f 0 n = List.replicate n (0, 0) by simp [half, dotsFrom]]
            exact List.take_of_length_le (by rw [flat_length]; simp)
        case round =>
          obtain ⟨k, hk, rfl, hrow, hBr⟩ := hrel
          by_cases hkn : k < n
          · obtain ⟨o0, o1⟩ := hrow.at (half_get hkn)
            have f0 := hrow.free (k * 2)
            have f1 := hrow.free (k * 2 + 1)
            have hbn : (f : Int) + k ≤ 4294967295 := by have h1 := HN.out.2; omega
            have hst := hrow.set (i := k) (by rw [half_length hk]; exact hkn) r (f + k)
            rw [half_set hkn, Int.natCast_add] at hst
            have HST := hid hst
            clear hst hrow
            go_wp2
            go_roundw
            case rel => exact ⟨k + 1, by omega, by go_num, HST.out, (hBr.setCell (p := ⟨w1.heap.size, k * 2, none⟩) hB.size _).setCell (p := ⟨w1.heap.size, k * 2 + 1, none⟩) hB.size _⟩
            case measure => simp [intOf]; omega
          · obtain rfl : k = n := by omega
            have HR := hid hrow
            clear hrow
            go_wp2
            go_ret2
            refine ⟨_, by rw [hE.out.2]; rfl, ?_, hBr⟩
            rw [hE.out.1, dotsFrom_length]
            have h := HR.out.owns hB.size (by unfold maxLen; omega)
            rw [half_length (Nat.le_refl _)] at h
            simpa [half] using h
      · have hE := hid (show rngD r f t = [] ∧ rngE r f t = 3 by
          have h1 : f ≤ t := by omega
          have h2 : ¬ t - f + 1 ≤ 65536 := by omega
          simp [rngD, rngE, hb, h1, h2])
        have e1 : 65536 < (t : Int) - f + 1 := by omega
        clear hb hn htn hn1 hbig n
        go_enter Try.func17, Try.ntmps17
        go_wp2_with (go_at_call 12; refine (hmay _).mono ?_; rintro e w1 ⟨rfl, hB⟩)
        go_ret2
        refine ⟨_, by rw [hE.out.2]; rfl, ?_, hB⟩
        rw [hE.out.1]
        exact World.ownsRow_nil _ _ _ _

end Go.Proofs.Ytmjmgjdklhdcdaa
