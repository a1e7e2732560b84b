/-
  Disks: is there a disk; how many bytes its files have; copies of its files.
-/
import Derived.Test.YtfmigkmkdhciiaaKV
namespace Go.Proofs.Ytfmigkmkdhciiaa.K
set_option linter.unusedVariables false
set_option linter.unusedSimpArgs false
set_option maxRecDepth 100000
open Go Go.RowKit Go.Maps Go.MapKept Go.ChangeMaps

/-- A disk's cells. -/
def dcells (room : Nat) (ms mv vs : Value) (units left : Nat) (down : Bool) : Array Value := #[.int .i64 (room : Int), ms, mv, vs, .int .i64 (units : Int), .int .i64 (left : Int), .bool down]

theorem none_nil (w : World) : Calls Try.prog 28 #[.pointer none] w fun e w' => e = .returned (.bool true) ∧ w = w' := by
  go_enter Try.func28, Try.ntmps28
  go_wp2
  go_ret
  exact ⟨rfl, rfl⟩
theorem eqm_some (m : Nat) (W : World) : (binOp .eql 43 (.map (some m)) (.map none)).run Try.prog W = .ok (.bool false) W := by
  obtain ⟨k, hk⟩ : ∃ k, Op.maxDepth = k + 1 := ⟨Op.maxDepth - 1, by decide⟩
  simp [binOp, Op.equal, hk, Op.equalIn, run_underlying Try.underlying43]
theorem eqm_none (W : World) : (binOp .eql 43 (.map none) (.map none)).run Try.prog W = .ok (.bool true) W := by
  obtain ⟨k, hk⟩ : ∃ k, Op.maxDepth = k + 1 := ⟨Op.maxDepth - 1, by decide⟩
  simp [binOp, Op.equal, hk, Op.equalIn, run_underlying Try.underlying43]
theorem none_some (p m : Nat) (w : World) (h : w.cell? ⟨p, 1, none⟩ = some (.map (some m))) : Calls Try.prog 28 #[.pointer (some ⟨p, 0, none⟩)] w fun e w' => e = .returned (.bool false) ∧ w = w' := by
  have hq := eqm_some m w
  go_enter Try.func28, Try.ntmps28
  go_wp2
  go_ret
  exact ⟨rfl, rfl⟩
theorem none_empty (p : Nat) (w : World) (h : w.cell? ⟨p, 1, none⟩ = some (.map none)) : Calls Try.prog 28 #[.pointer (some ⟨p, 0, none⟩)] w fun e w' => e = .returned (.bool true) ∧ w = w' := by
  have hq := eqm_none w
  go_enter Try.func28, Try.ntmps28
  go_wp2
  go_ret
  exact ⟨rfl, rfl⟩

def usedL (left : Lit → Bool) : Fs → Nat
  | [] => 0
  | (s, c) :: r => (if left (.string s) then 0 else c.length) + usedL left r
theorem usedL_start {left : Lit → Bool} : ∀ {fs : Fs}, (∀ p ∈ fs, left (.string p.1) = true) → usedL left fs = 0
  | [], _ => rfl
  | (s, c) :: r, h => by
    rw [usedL, h (s, c) (List.mem_cons_self ..), usedL_start (fun p hp => h p (List.mem_cons_of_mem _ hp))]; rfl
theorem usedL_end {left : Lit → Bool} (h : ∀ kl, left kl = false) : ∀ fs : Fs, usedL left fs = used fs
  | [] => rfl
  | (s, c) :: r => by rw [usedL, h, usedL_end h r]; simp [used]
theorem usedL_other {left left' : Lit → Bool} : ∀ {fs : Fs}, (∀ p ∈ fs, left (.string p.1) = left' (.string p.1)) → usedL left fs = usedL left' fs
  | [], _ => rfl
  | (s, c) :: r, h => by
    rw [usedL, usedL, h (s, c) (List.mem_cons_self ..), usedL_other (fun p hp => h p (List.mem_cons_of_mem _ hp))]
theorem usedL_step {left : Lit → Bool} {x c : Str} (hx : x.length ≤ maxLen) (hl : left (.string x) = true) : ∀ {fs : Fs}, Sorted fs → get fs x = some c → usedL (fun z => left z && !z.sameKey (.string x)) fs = usedL left fs + c.length
  | [], _, h => by cases h
  | (s, d) :: r, hs, h => by
    obtain ⟨h1, h2⟩ := List.pairwise_cons.1 hs
    unfold get at h
    rw [usedL, usedL]
    by_cases e : s = x
    · rw [if_pos e] at h
      cases h
      subst e
      rw [sameKey_str hx, hl]
      have : usedL (fun z => left z && !z.sameKey (.string s)) r = usedL left r := usedL_other (fun p hp => by
        have hne : p.1 ≠ s := fun e => by have := h1 p hp; rw [e] at this; exact lt_irrefl _ this
        rw [sameKey_str hx]; simp [hne])
      rw [this]
      simp
      omega
    · rw [if_neg e] at h
      rw [sameKey_str hx, usedL_step hx hl h2 h]
      simp [e]
      omega
theorem usedL_le (left : Lit → Bool) : ∀ fs : Fs, usedL left fs ≤ used fs
  | [] => Nat.le_refl _
  | (s, c) :: r => by
    have := usedL_le left r
    rw [usedL]
    have e : used ((s, c) :: r) = c.length + used r := by simp [used]
    rw [e]
    split <;> omega

/-- The slices of a map are as long as the files. -/
def Lens (f : Str → Option Value) (fs : Fs) : Prop := ∀ s c, get fs s = some c → ∃ v, f s = some v ∧ Form v ∧ lenV v = c.length
theorem Files.lens {t : Nat} {A : Gh} {w : World} {m : Nat} {fs : Fs} {f : Str → Option Value} (h : Files t A w m fs f) : Lens f fs := fun s c hc => by
  obtain ⟨v, hv, hb⟩ := h.holds s c hc
  exact ⟨v, hv, hb.form⟩

theorem len_form {v : Value} (h : Form v) (ty : TypeId) (w : World) : (Builtin.len_ #[68] ty #[v]).run Try.prog w = .ok (.int .i64 (lenV v : Int)) w := by
  rcases h with rfl | ⟨g, n, cap, rfl, _⟩ <;> simp [Builtin.len_, run_underlying Try.underlying68, goInt, lenV]

set_option maxHeartbeats 1000000 in
theorem disk_Used {p mv n : Nat} {ms : Nat} {w : World} {f : Str → Option Value} {fs : Fs} (h1 : w.cell? ⟨p, 1, none⟩ = some (.map (some ms))) (h2 : w.cell? ⟨p, 2, none⟩ = some (.map (some mv))) (hm : MapAt w mv n f) (hs : Sorted fs) (hf : Same f fs) (hL : Lens f fs) (hu : used fs ≤ 1099511627776) :
    Calls Try.prog 21 #[.pointer (some ⟨p, 0, none⟩)] w fun e w' => e = .returned (.int .i64 (used fs : Int)) ∧ Below w.heap.size w w' := by
  obtain ⟨D, hown, hD⟩ := hm
  have hstart : ∀ q ∈ fs, Maps.has D (.string q.1) = true := fun q hq => by
    obtain ⟨v, hv, _⟩ := hL q.1 q.2 (get_of_mem hs hq)
    exact ((hD q.1 (nm (hf.1 q hq))).2 v hv).1
  have HD := Lib.hid hD
  have HL := Lib.hid hL
  have HS := Lib.hid hstart
  have HU := Lib.hid hu
  have HF := Lib.hid hf
  clear hD hL hstart hu hf
  go_enter Try.func21, Try.ntmps21
  go_wp2_with (first
    | (go_at_call 28; refine (none_some p ms w h1).mono ?_; rintro e w' ⟨rfl, rfl⟩)
    | (at_range; refine wpList_range_own _ rfl _ 43 rfl 9 68 strK Try.underlying43 hv mv n D rfl hown ?_; intro w0 hrg0 hg0 hs0)
    | go_in)
  go_frame
  go_loopw [3] (fun u wr => ∃ (left : Lit → Bool) (cnt : Nat), wr.ranges Try.prog 9 hv mv w.heap.size n D left cnt ∧ u = .int .i64 (usedL left fs : Int) ∧ Below w.heap.size w wr)
    (fun _ wr => wr.rangeLeft mv w.heap.size)
  case atStart => exact ⟨_, _, hrg0, by rw [usedL_start HS.out]; rfl, (Below.refl _ w).grown hg0 (Nat.le_refl _) (fun k e => by cases e)⟩
  case round =>
    obtain ⟨left, cnt, hrg, rfl, hbw⟩ := hrel
    go_wp2_with (first
      | (at_next; refine next_files _ rfl _ rfl mv w.heap.size n D left cnt rfl hrg ?_ ?_)
      | go_in)
    · intro _ hl0
      have E := Lib.hid (usedL_end hl0 fs)
      go_wp2
      go_ret
      exact ⟨by show Ending.returned (.int .i64 (usedL left fs : Int)) = _; rw [E.out], hbw⟩
    · intro x v w1 cnt1 hx hlx hat hrg1 hlt hg1 hs1 hen
      obtain ⟨c, hc⟩ : ∃ c, get fs x = some c := by
        cases hfx : f x with
        | none =>
          have h3 := (HD.out x hx).1 hfx
          have := hat .nil
          rw [atKey_of_not_has h3] at this
          cases this
        | some v' =>
          have := HF.out.2 x hx
          rw [hfx] at this
          exact Option.isSome_iff_exists.1 this.symm
      obtain ⟨v', hv', hform, hlen⟩ := HL.out x c hc
      obtain rfl : v = v' := by
        have := ((HD.out x hx).2 v' hv').2 .nil
        rw [hat] at this
        injection this
      have hstep := usedL_step hx hlx hs hc
      have hle := usedL_le (fun z => left z && !z.sameKey (.string x)) fs
      have hln := fun ty => len_form hform ty w1
      rw [hlen] at hln
      have hb0 : (0 : Int) ≤ (usedL left fs : Int) + (c.length : Int) := by omega
      have hb9 : (usedL left fs : Int) + (c.length : Int) ≤ 1099511627776 := by have := HU.out; omega
      have HST := Lib.hid hstep
      clear hstep hle hlen
      go_wp2
      go_roundw
      case rel => exact ⟨_, cnt1, hrg1, by rw [HST.out]; rfl, hbw.trans ⟨hg1.os, hg1.tape, hg1.output, hg1.size, fun k hk => hg1.block k (by have := hbw.size; omega) (fun e => by cases e; omega)⟩⟩
      case measure => rw [hrg1.left_eq, hrg.left_eq]; exact hlt
end Go.Proofs.Ytfmigkmkdhciiaa.K
