/-
  What is handed on: the mathematics.
-/
import Derived.Test.YtfnmekmgjcjglaaDoorYNH
namespace Go.Proofs.YtfnmekmgjcjglaaDoor.V
set_option linter.unusedVariables false
set_option linter.unusedSimpArgs false
set_option maxRecDepth 100000
open Go Go.RowKit Go.Maps Wire
/-- What was handed on of what was put, and what waits. -/
structure RunP (n : Nat) (L out : List OC) (h : Vec) (w : List OC) : Prop where
  perm : (out ++ w).Perm L
  known : h = knownM out
  each : ∀ i x, out[i]? = some x → mayB (knownM (out.take i)) x = true
theorem drain_run {n : Nat} {L : List OC} (h32 : ∀ x ∈ L, x.1.n < 4294967296) : ∀ (k : Nat) (h : Vec) (w pre : List OC), RunP n L pre h w → BufP n h w →
    RunP n L (pre ++ (drainM k h w).1) (drainM k h w).2.1 (drainM k h w).2.2 ∧ BufP n (drainM k h w).2.1 (drainM k h w).2.2 ∧ (w.length ≤ k → nextM (drainM k h w).2.1 (drainM k h w).2.2 = none)
  | 0, h, w, pre, r, b => by
    refine ⟨by show RunP n L (pre ++ []) h w; rwa [List.append_nil], b, fun hl => ?_⟩
    obtain rfl : w = [] := List.length_eq_zero_iff.1 (by omega)
    rfl
  | k + 1, h, w, pre, r, b => by
    cases e : nextM h w with
    | none =>
      rw [drain_none e]
      exact ⟨by show RunP n L (pre ++ []) h w; rwa [List.append_nil], b, fun _ => e⟩
    | some x =>
      rw [drain_some e]
      obtain ⟨h1, h2, h3⟩ := next_some e
      have hxL : x ∈ L := r.perm.mem_iff.1 (List.mem_append.2 (.inr h1))
      have hm := h2
      unfold mayB at hm
      rw [Bool.and_eq_true, decide_eq_true_eq] at hm
      have hr : RunP n L (pre ++ [x]) (upX h x) (remM w (dt x)) := by
        refine ⟨?_, ?_, fun i y hy => ?_⟩
        · rw [List.append_assoc]
          exact ((rem_perm b.nodup h1).append_left pre).trans r.perm
        · rw [known_snoc, if_pos (b.name h1).1, ← r.known]
          unfold upX
          rw [show max (h x.1.r) x.1.n = x.1.n by omega]
        · by_cases hi : i < pre.length
          · rw [List.getElem?_append_left hi] at hy
            rw [List.take_append_of_le_length (by omega)]
            exact r.each i y hy
          · have hl := (List.getElem?_eq_some_iff.1 hy).1
            rw [List.length_append, List.length_singleton] at hl
            obtain rfl : i = pre.length := by omega
            rw [List.getElem?_append_right (Nat.le_refl _), Nat.sub_self] at hy
            obtain rfl : x = y := by simpa using hy
            rw [List.take_append_of_le_length (Nat.le_refl _), List.take_of_length_le (Nat.le_refl _), ← r.known]
            exact h2
      obtain ⟨k1, k2, k3⟩ := drain_run h32 k (upX h x) (remM w (dt x)) (pre ++ [x]) hr (b.step h1 (h32 x hxL) h2)
      refine ⟨?_, k2, fun hl => k3 ?_⟩
      · rw [List.append_assoc] at k1
        exact k1
      · have := rem_length b.nodup h1
        omega
theorem admit_all {h : Vec} : ∀ {xs l : List OC}, ((l ++ xs).map dt).Nodup → (∀ x ∈ xs, h x.1.r < x.1.n) → admitM h l xs = l ++ xs
  | [], l, _, _ => by rw [List.append_nil]; rfl
  | x :: xs, l, hn, hx => by
    have h1 : thereB h l (dt x) = false := thereB_false.2 ⟨fun y hy e => by
      rw [List.map_append] at hn
      have := (List.nodup_append.1 hn).2.2 (dt y) (List.mem_map_of_mem hy) (dt x) (List.mem_map_of_mem (List.mem_cons_self ..))
      exact this e, hx x (List.mem_cons_self ..)⟩
    unfold admitM
    rw [List.foldl_cons]
    have h2 : V.admit1 h l x = l ++ [x] := by
      unfold V.admit1
      rw [h1]; rfl
    rw [h2]
    have := admit_all (h := h) (xs := xs) (l := l ++ [x]) (by rw [List.append_assoc]; exact hn) (fun y hy => hx y (List.mem_cons_of_mem _ hy))
    unfold admitM at this
    rw [this, List.append_assoc]
    rfl
theorem run_put {n : Nat} {xs : List OC} (n1 : 1 ≤ n) (n8 : n ≤ 8) (hok : okAll n xs) (hn : (xs.map dt).Nodup) (h32 : ∀ x ∈ xs, x.1.n < 4294967296) :
    RunP n xs (putM z8 [] xs).1 (putM z8 [] xs).2.1 (putM z8 [] xs).2.2 ∧ BufP n (putM z8 [] xs).2.1 (putM z8 [] xs).2.2 ∧ nextM (putM z8 [] xs).2.1 (putM z8 [] xs).2.2 = none := by
  have hnew : ∀ x ∈ xs, z8 x.1.r < x.1.n := fun x hx => by
    have := (name_of (by omega) (by omega) (hok x hx)).2.1
    unfold z8; omega
  have ha : admitM z8 [] xs = xs := admit_all (by simpa using hn) hnew
  have hb : BufP n z8 xs := ⟨n1, n8, h_okz, hn, hok, hnew⟩
  have hr : RunP n xs [] z8 xs := ⟨by simp, known_nil.symm, fun i x hx => by simp at hx⟩
  obtain ⟨k1, k2, k3⟩ := drain_run h32 xs.length z8 xs [] hr hb
  unfold putM
  rw [ha]
  exact ⟨k1, k2, k3 (Nat.le_refl _)⟩
/-- All dots up to what is known are there. -/
theorem RunP.dots {n : Nat} {L out w : List OC} {h : Vec} (r : RunP n L out h w) : ∀ i, i ≤ out.length → ∀ q m, 1 ≤ m → m ≤ knownM (out.take i) q → ∃ z ∈ out.take i, dt z = (q, m)
  | 0, _, q, m, h1, h2 => by
    rw [List.take_zero, known_nil] at h2
    have : zeroV q = 0 := rfl
    omega
  | i + 1, hi, q, m, h1, h2 => by
    obtain ⟨x, hx⟩ : ∃ x, out[i]? = some x := ⟨_, List.getElem?_eq_getElem (by omega)⟩
    have hm := r.each i x hx
    unfold mayB at hm
    rw [Bool.and_eq_true, decide_eq_true_eq] at hm
    have ih := r.dots i (by omega) q m h1
    rw [take_snocO hx]
    by_cases hc : m ≤ knownM (out.take i) q
    · obtain ⟨z, hz, hd⟩ := ih hc
      exact ⟨z, List.mem_append.2 (.inl hz), hd⟩
    · rw [known_step hx] at h2
      by_cases h8 : x.1.r < 8
      · rw [if_pos h8] at h2
        unfold upd at h2
        by_cases e : q = x.1.r
        · rw [if_pos e] at h2
          rw [e] at hc
          refine ⟨x, List.mem_append.2 (.inr (List.mem_singleton.2 rfl)), ?_⟩
          unfold dt
          rw [e, show x.1.n = m by omega]
        · rw [if_neg e] at h2
          exact absurd h2 hc
      · rw [if_neg h8] at h2
        exact absurd h2 hc
/-- What is handed on of a part of a history is a history. -/
theorem RunP.hist {n : Nat} {l L out w : List OC} {h : Vec} (r : RunP n L out h w) (hP : HistP n l) (hs : ∀ x ∈ L, x ∈ l) (hn : (L.map dt).Nodup) : HistP n out := by
  have hnd : ((out ++ w).map dt).Nodup := ((r.perm.map dt).nodup_iff).2 hn
  have hsub : ∀ x ∈ out, x ∈ l := fun x hx => hs x (r.perm.mem_iff.1 (List.mem_append.2 (.inl hx)))
  refine hP.part ?_ hsub fun x hx y hy hb => ?_
  · rw [List.map_append] at hnd
    exact (List.nodup_append.1 hnd).1
  · obtain ⟨i, hi⟩ := List.mem_iff_getElem?.1 hx
    have hil := (List.getElem?_eq_some_iff.1 hi).1
    have hm := r.each i x hi
    unfold mayB at hm
    rw [Bool.and_eq_true] at hm
    unfold befB at hb
    obtain ⟨b1, b2, b3⟩ := covB_iff.1 hb
    have b4 := aboveB_iff.1 hm.2 (dt y).1 b1
    obtain ⟨z, hz, hd⟩ := r.dots i (by omega) (dt y).1 (dt y).2 (by omega) (by omega)
    have hzo : z ∈ out := List.mem_of_mem_take hz
    rw [← nodup_inj hP.is.1 (hsub z hzo) hy (by rw [hd])]
    exact hzo
/-- Of a whole history nothing waits. -/
theorem RunP.whole {n : Nat} {l out w : List OC} {h : Vec} (r : RunP n l out h w) (hP : HistP n l) (b : BufP n h w) (hnx : nextM h w = none) : w = [] := by
  have key : ∀ t x, x ∈ w → x.1.tm = t → False := by
    intro t
    induction t using Nat.strongRecOn with
    | ind t ih =>
      intro x hx ht
      have hxl : x ∈ l := r.perm.mem_iff.1 (List.mem_append.2 (.inr hx))
      have hdep : ∀ q, q < 8 → x.1.dep q ≤ h q := fun q hq => by
        by_cases h0 : x.1.dep q = 0
        · omega
        · obtain ⟨y, hy, hd, _, hty⟩ := hP.is.2 x hxl q hq h0
          have hyo : y ∈ out := by
            rcases List.mem_append.1 (r.perm.mem_iff.2 hy) with h1 | h1
            · exact h1
            · exact (ih y.1.tm (by omega) y h1 rfl).elim
          have e1 : y.1.r = q := congrArg Prod.fst hd
          have e2 : y.1.n = x.1.dep q := congrArg Prod.snd hd
          have := known_ge hyo (by omega)
          rw [← r.known, e1, e2] at this
          exact this
      have hnm := hP.name hxl
      have h1 := hdep x.1.r hnm.1
      have h2 := b.new x hx
      have hmay : mayB h x = true := by
        unfold mayB
        rw [Bool.and_eq_true, decide_eq_true_eq]
        exact ⟨by omega, aboveB_iff.2 hdep⟩
      rw [next_none hnx x hx] at hmay
      cases hmay
  cases w with
  | nil => rfl
  | cons x w => exact (key x.1.tm x (List.mem_cons_self ..) rfl).elim
end Go.Proofs.YtfnmekmgjcjglaaDoor.V
