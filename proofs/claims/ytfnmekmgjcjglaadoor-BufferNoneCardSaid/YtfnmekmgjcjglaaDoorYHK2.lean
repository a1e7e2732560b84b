/-
  Sorting indices by a comparing method value: the heap.
-/
import Derived.Test.YtfnmekmgjcjglaaDoorYMI
namespace Go.Proofs.YtfnmekmgjcjglaaDoor.V
set_option linter.unusedVariables false
set_option linter.unusedSimpArgs false
set_option maxRecDepth 100000
open Go Go.RowKit Go.Maps Wire
set_option maxRecDepth 100000
set_option linter.unusedVariables false
set_option linter.unusedSimpArgs false
open Go.Sort (swp PermIn SortedIn SWO)
variable {w0 : World} {blk : Nat} {ok : Nat → Prop} {d : Array Nat} {W W' : World}
def chM (lt : Nat → Nat → Bool) (hi first root : Nat) (d : Array Nat) : Nat := if (decide (2 * root + 1 + 1 < hi) && lt (gA d (first + (2 * root + 1))) (gA d (first + (2 * root + 1) + 1))) = true then 2 * root + 2 else 2 * root + 1
theorem sift_stop {lt : Nat → Nat → Bool} {hi first root : Nat} {d : Array Nat} (h : hi ≤ 2 * root + 1) : Go.Sort.siftDown lt hi first root d = d := by
  unfold Go.Sort.siftDown; rw [dif_pos h]
theorem sift_go {lt : Nat → Nat → Bool} {hi first root : Nat} {d : Array Nat} (h : ¬ hi ≤ 2 * root + 1) {ch : Nat} (hc : chM lt hi first root d = ch) :
    Go.Sort.siftDown lt hi first root d = if lt (gA d (first + root)) (gA d (first + ch)) = true then Go.Sort.siftDown lt hi first ch (swp d (first + root) (first + ch)) else d := by
  subst hc
  conv => lhs; unfold Go.Sort.siftDown
  rw [dif_neg h]
  unfold chM gA
  by_cases h1 : (decide (2 * root + 1 + 1 < hi) && lt d[first + (2 * root + 1)]! d[first + (2 * root + 1) + 1]!) = true
  · rw [if_pos h1]
    have h2 : 2 * root + 2 < hi := by
      rw [Bool.and_eq_true, decide_eq_true_eq] at h1
      exact h1.1
    rw [if_pos h1, dif_pos h2]
    cases h3 : lt d[first + root]! d[first + (2 * root + 2)]! <;> simp
  · rw [if_neg h1, if_neg h1]
    cases h3 : lt d[first + root]! d[first + (2 * root + 1)]! <;> simp
theorem sift_size (lt : Nat → Nat → Bool) (hi first : Nat) : ∀ (m root : Nat) (d : Array Nat), hi - root ≤ m → (Go.Sort.siftDown lt hi first root d).size = d.size := by
  intro m
  induction m with
  | zero =>
    intro root d h
    rw [sift_stop (by omega)]
  | succ m ih =>
    intro root d h
    by_cases hs : hi ≤ 2 * root + 1
    · rw [sift_stop hs]
    · rw [sift_go hs rfl]
      split
      · have : root < chM lt hi first root d := by unfold chM; split <;> omega
        rw [ih _ _ (by omega), Go.Sort.size_swp]
      · rfl
set_option maxHeartbeats 1000000 in
theorem sort_sift (recv : Value) (c : Nat → Nat → Int) (HC : Hid (CmpOK w0 recv ok c)) (n cap lo hi first : Nat) (d0 : Array Nat) (hn : d0.size = n) (hlo : lo ≤ n) (hhi : first + hi ≤ n) (hsz : n < 1000000000) (W0 : World) (h : Srt w0 blk ok d0 W0) :
    Calls Tryd.prog 96 #[.slice (some ⟨blk, 0, none⟩) n cap, .int .i64 (lo : Nat), .int .i64 (hi : Nat), .int .i64 (first : Nat), .func (.func 59) #[recv] #[]] W0 fun e w' => e = .returned (.tuple #[]) ∧ Srt w0 blk ok (Go.Sort.siftDown (ltC c) hi first lo d0) w' := by
  have H := hid h
  clear h
  go_enter Tryd.func96, Tryd.ntmps96
  go_wp2
  go_loopw [10] (fun x wr => ∃ (root : Nat) (d : Array Nat), x = .int .i64 (root : Nat) ∧ root ≤ n ∧ d.size = n ∧ Hid (Go.Sort.siftDown (ltC c) hi first root d = Go.Sort.siftDown (ltC c) hi first lo d0) ∧ Srt w0 blk ok d wr) (fun x _ => n - (intOf x).toNat)
  case atStart => exact ⟨lo, d0, rfl, hlo, hn, rfl, H.out⟩
  case round =>
    obtain ⟨root, d, rfl, hr, hds, htw, hs⟩ := hrel
    by_cases hst : hi ≤ 2 * root + 1
    · have HT := hid ((sift_stop hst).symm.trans htw.out)
      have HS := hid hs
      have k0 : (hi : Int) ≤ 2 * (root : Int) + 1 := by omega
      clear hs htw
      go_wp2
      go_end0
      exact ⟨rfl, HT.out ▸ HS.out⟩
    · have HS := hid hs
      clear hs
      have k0 : ¬ (hi : Int) ≤ 2 * (root : Int) + 1 := by omega
      go_upto_region 3 with (fail)
      obtain ⟨ch, hch⟩ : ∃ ch : Nat, ch = 2 * root + 1 := ⟨_, rfl⟩
      have e1 : 2 * (root : Int) + 1 = (ch : Int) := by omega
      rw [e1]
      have hcb1 : ch < hi := by omega
      have hcb2 : root < ch := by omega
      have HCE := hid hch
      clear hch e1
      refine wp_flow (fun _ => none) (Fa.eq (.int .i64 (ch : Int)) :: Fa.eq (.int .i64 ((ch : Int) + (1))) :: Fa.eq (.int .i64 ((hi : Nat))) :: Fa.eq (.bool (decide (((ch : Int) + (1)) < ((hi : Nat))))) :: Fa.eq (.bool (decide (((ch : Int) + (1)) < ((hi : Nat))))) :: Fa.eq (gd (decide (((ch : Int) + (1)) < ((hi : Nat)))) (.func (.func 59) #[recv] #[])) :: Fa.eq (gd (decide (((ch : Int) + (1)) < ((hi : Nat)))) (.slice (some ⟨blk, 0, none⟩) n cap)) :: Fa.eq (gd (decide (((ch : Int) + (1)) < ((hi : Nat)))) (.int .i64 ((first : Nat)))) :: Fa.eq (gd (decide (((ch : Int) + (1)) < ((hi : Nat)))) (.int .i64 (ch : Int))) :: Fa.eq (gd (decide (((ch : Int) + (1)) < ((hi : Nat)))) (.int .i64 (((first : Nat)) + (ch : Int)))) :: Fa.eq (gd (decide (((ch : Int) + (1)) < ((hi : Nat)))) (.pointer (some ⟨blk, (first + ch), none⟩))) :: Fa.eq (gd (decide (((ch : Int) + (1)) < ((hi : Nat)))) (.int .i64 (gA d ((first + ch)) : Nat))) :: Fa.eq (gd (decide (((ch : Int) + (1)) < ((hi : Nat)))) (.slice (some ⟨blk, 0, none⟩) n cap)) :: Fa.eq (gd (decide (((ch : Int) + (1)) < ((hi : Nat)))) (.int .i64 ((first : Nat)))) :: Fa.eq (gd (decide (((ch : Int) + (1)) < ((hi : Nat)))) (.int .i64 (ch : Int))) :: Fa.eq (gd (decide (((ch : Int) + (1)) < ((hi : Nat)))) (.int .i64 (((first : Nat)) + (ch : Int)))) :: Fa.eq (gd (decide (((ch : Int) + (1)) < ((hi : Nat)))) (.int .i64 ((((first : Nat)) + (ch : Int)) + (1)))) :: Fa.eq (gd (decide (((ch : Int) + (1)) < ((hi : Nat)))) (.pointer (some ⟨blk, (first + ch + 1), none⟩))) :: Fa.eq (gd (decide (((ch : Int) + (1)) < ((hi : Nat)))) (.int .i64 (gA d ((first + ch + 1)) : Nat))) :: Fa.eq (gd (decide (((ch : Int) + (1)) < ((hi : Nat)))) (.int .i64 (c (gA d ((first + ch))) (gA d ((first + ch + 1)))))) :: Fa.eq (gd (decide (((ch : Int) + (1)) < ((hi : Nat)))) (.bool (decide ((c (gA d ((first + ch))) (gA d ((first + ch + 1)))) < (0))))) :: Fa.eq (.bool ((decide (((ch : Int) + (1)) < ((hi : Nat)))) && (decide ((c (gA d ((first + ch))) (gA d ((first + ch + 1)))) < (0))))) :: []) 82 (by kernel_rfl) rfl (by kernel_rfl) rfl (by kernel_rfl) ?_ ?_ ?_
      · exact fits_plain _ _ rfl
      · refine ⟨?_, ?_, ?_, ?_, ?_, ?_, ?_, ?_, ?_, ?_, ?_, ?_, ?_, ?_, ?_, ?_, ?_, ?_, ?_, ?_, ?_, ?_, trivial⟩
        · exact v_move (.inl rfl) rfl (by kernel_rfl) True.intro (Ev.out (by kernel_rfl) rfl)
        · exact v_bin (u := .int .i64 (ch : Int)) (v := .int .i64 (1)) (c := .int .i64 ((ch : Int) + (1))) rfl (fun w => (bin_add_i64 (by omega) (by omega) w)) rfl (by kernel_rfl) True.intro (Ev.at (i := 0) (by kernel_rfl) (by kernel_rfl) rfl) Ev.const
        · exact v_move (.inl rfl) rfl (by kernel_rfl) True.intro (Ev.out (by kernel_rfl) rfl)
        · exact v_bin (u := .int .i64 ((ch : Int) + (1))) (v := .int .i64 ((hi : Nat))) (c := .bool (decide (((ch : Int) + (1)) < ((hi : Nat))))) rfl (fun w => (by go_simp)) rfl (by kernel_rfl) True.intro (Ev.at (i := 1) (by kernel_rfl) (by kernel_rfl) rfl) (Ev.at (i := 2) (by kernel_rfl) (by kernel_rfl) rfl)
        · exact v_move (.inl rfl) rfl (by kernel_rfl) True.intro (Ev.at (i := 3) (by kernel_rfl) (by kernel_rfl) rfl)
        · exact flow_gd (decide (((ch : Int) + (1)) < ((hi : Nat)))) (.func (.func 59) #[recv] #[]) 4 true (.bool (decide (((ch : Int) + (1)) < ((hi : Nat))))) rfl (by kernel_rfl) rfl gu_t rfl (fun hg hF hj => v_move (.inl rfl) hF (by kernel_rfl) (guard_of rfl (by kernel_rfl) (by kernel_rfl) hj) (Ev.out (by kernel_rfl) rfl))
        · exact flow_gd (decide (((ch : Int) + (1)) < ((hi : Nat)))) (.slice (some ⟨blk, 0, none⟩) n cap) 4 true (.bool (decide (((ch : Int) + (1)) < ((hi : Nat))))) rfl (by kernel_rfl) rfl gu_t rfl (fun hg hF hj => v_move (.inl rfl) hF (by kernel_rfl) (guard_of rfl (by kernel_rfl) (by kernel_rfl) hj) (Ev.out (by kernel_rfl) rfl))
        · exact flow_gd (decide (((ch : Int) + (1)) < ((hi : Nat)))) (.int .i64 ((first : Nat))) 4 true (.bool (decide (((ch : Int) + (1)) < ((hi : Nat))))) rfl (by kernel_rfl) rfl gu_t rfl (fun hg hF hj => v_move (.inl rfl) hF (by kernel_rfl) (guard_of rfl (by kernel_rfl) (by kernel_rfl) hj) (Ev.out (by kernel_rfl) rfl))
        · exact flow_gd (decide (((ch : Int) + (1)) < ((hi : Nat)))) (.int .i64 (ch : Int)) 4 true (.bool (decide (((ch : Int) + (1)) < ((hi : Nat))))) rfl (by kernel_rfl) rfl gu_t rfl (fun hg hF hj => v_move (.inl rfl) hF (by kernel_rfl) (guard_of rfl (by kernel_rfl) (by kernel_rfl) hj) (Ev.out (by kernel_rfl) rfl))
        · exact flow_gd (decide (((ch : Int) + (1)) < ((hi : Nat)))) (.int .i64 (((first : Nat)) + (ch : Int))) 4 true (.bool (decide (((ch : Int) + (1)) < ((hi : Nat))))) rfl (by kernel_rfl) rfl gu_t rfl (fun hg hF hj => v_bin (u := .int .i64 ((first : Nat))) (v := .int .i64 (ch : Int)) (c := .int .i64 (((first : Nat)) + (ch : Int))) rfl (fun w => (bin_add_i64 (by omega) (by omega) w)) hF (by kernel_rfl) (guard_of rfl (by kernel_rfl) (by kernel_rfl) hj) (Ev.at (i := 7) (by kernel_rfl) (by kernel_rfl) (fe rfl (gd_t hg))) (Ev.at (i := 8) (by kernel_rfl) (by kernel_rfl) (fe rfl (gd_t hg))))
        · exact flow_gd (decide (((ch : Int) + (1)) < ((hi : Nat)))) (.pointer (some ⟨blk, (first + ch), none⟩)) 4 true (.bool (decide (((ch : Int) + (1)) < ((hi : Nat))))) rfl (by kernel_rfl) rfl gu_t rfl (fun hg hF hj => v_iaddr (u := .slice (some ⟨blk, 0, none⟩) n cap) (v := .int .i64 (((first : Nat)) + (ch : Int))) (c := .pointer (some ⟨blk, (first + ch), none⟩)) rfl (fun w => idx_int (by have := of_decide_eq_true hg; omega) (by omega) w) hF (by kernel_rfl) (guard_of rfl (by kernel_rfl) (by kernel_rfl) hj) (Ev.at (i := 6) (by kernel_rfl) (by kernel_rfl) (fe rfl (gd_t hg))) (Ev.at (i := 9) (by kernel_rfl) (by kernel_rfl) (fe rfl (gd_t hg))))
        · exact flow_gd (decide (((ch : Int) + (1)) < ((hi : Nat)))) (.int .i64 (gA d ((first + ch)) : Nat)) 4 true (.bool (decide (((ch : Int) + (1)) < ((hi : Nat))))) rfl (by kernel_rfl) rfl gu_t rfl (fun hg hF hj => v_load (u := .pointer (some ⟨blk, (first + ch), none⟩)) (c := .int .i64 (gA d ((first + ch)) : Nat)) rfl (fun w hB => ld_int ((HS.out.dr).later hB) (by have := of_decide_eq_true hg; omega)) hF (by kernel_rfl) (guard_of rfl (by kernel_rfl) (by kernel_rfl) hj) (Ev.at (i := 10) (by kernel_rfl) (by kernel_rfl) (fe rfl (gd_t hg))))
        · exact flow_gd (decide (((ch : Int) + (1)) < ((hi : Nat)))) (.slice (some ⟨blk, 0, none⟩) n cap) 4 true (.bool (decide (((ch : Int) + (1)) < ((hi : Nat))))) rfl (by kernel_rfl) rfl gu_t rfl (fun hg hF hj => v_move (.inl rfl) hF (by kernel_rfl) (guard_of rfl (by kernel_rfl) (by kernel_rfl) hj) (Ev.out (by kernel_rfl) rfl))
        · exact flow_gd (decide (((ch : Int) + (1)) < ((hi : Nat)))) (.int .i64 ((first : Nat))) 4 true (.bool (decide (((ch : Int) + (1)) < ((hi : Nat))))) rfl (by kernel_rfl) rfl gu_t rfl (fun hg hF hj => v_move (.inl rfl) hF (by kernel_rfl) (guard_of rfl (by kernel_rfl) (by kernel_rfl) hj) (Ev.out (by kernel_rfl) rfl))
        · exact flow_gd (decide (((ch : Int) + (1)) < ((hi : Nat)))) (.int .i64 (ch : Int)) 4 true (.bool (decide (((ch : Int) + (1)) < ((hi : Nat))))) rfl (by kernel_rfl) rfl gu_t rfl (fun hg hF hj => v_move (.inl rfl) hF (by kernel_rfl) (guard_of rfl (by kernel_rfl) (by kernel_rfl) hj) (Ev.out (by kernel_rfl) rfl))
        · exact flow_gd (decide (((ch : Int) + (1)) < ((hi : Nat)))) (.int .i64 (((first : Nat)) + (ch : Int))) 4 true (.bool (decide (((ch : Int) + (1)) < ((hi : Nat))))) rfl (by kernel_rfl) rfl gu_t rfl (fun hg hF hj => v_bin (u := .int .i64 ((first : Nat))) (v := .int .i64 (ch : Int)) (c := .int .i64 (((first : Nat)) + (ch : Int))) rfl (fun w => (bin_add_i64 (by omega) (by omega) w)) hF (by kernel_rfl) (guard_of rfl (by kernel_rfl) (by kernel_rfl) hj) (Ev.at (i := 13) (by kernel_rfl) (by kernel_rfl) (fe rfl (gd_t hg))) (Ev.at (i := 14) (by kernel_rfl) (by kernel_rfl) (fe rfl (gd_t hg))))
        · exact flow_gd (decide (((ch : Int) + (1)) < ((hi : Nat)))) (.int .i64 ((((first : Nat)) + (ch : Int)) + (1))) 4 true (.bool (decide (((ch : Int) + (1)) < ((hi : Nat))))) rfl (by kernel_rfl) rfl gu_t rfl (fun hg hF hj => v_bin (u := .int .i64 (((first : Nat)) + (ch : Int))) (v := .int .i64 (1)) (c := .int .i64 ((((first : Nat)) + (ch : Int)) + (1))) rfl (fun w => (bin_add_i64 (by omega) (by omega) w)) hF (by kernel_rfl) (guard_of rfl (by kernel_rfl) (by kernel_rfl) hj) (Ev.at (i := 15) (by kernel_rfl) (by kernel_rfl) (fe rfl (gd_t hg))) Ev.const)
        · exact flow_gd (decide (((ch : Int) + (1)) < ((hi : Nat)))) (.pointer (some ⟨blk, (first + ch + 1), none⟩)) 4 true (.bool (decide (((ch : Int) + (1)) < ((hi : Nat))))) rfl (by kernel_rfl) rfl gu_t rfl (fun hg hF hj => v_iaddr (u := .slice (some ⟨blk, 0, none⟩) n cap) (v := .int .i64 ((((first : Nat)) + (ch : Int)) + (1))) (c := .pointer (some ⟨blk, (first + ch + 1), none⟩)) rfl (fun w => idx_int (by have := of_decide_eq_true hg; omega) (by omega) w) hF (by kernel_rfl) (guard_of rfl (by kernel_rfl) (by kernel_rfl) hj) (Ev.at (i := 12) (by kernel_rfl) (by kernel_rfl) (fe rfl (gd_t hg))) (Ev.at (i := 16) (by kernel_rfl) (by kernel_rfl) (fe rfl (gd_t hg))))
        · exact flow_gd (decide (((ch : Int) + (1)) < ((hi : Nat)))) (.int .i64 (gA d ((first + ch + 1)) : Nat)) 4 true (.bool (decide (((ch : Int) + (1)) < ((hi : Nat))))) rfl (by kernel_rfl) rfl gu_t rfl (fun hg hF hj => v_load (u := .pointer (some ⟨blk, (first + ch + 1), none⟩)) (c := .int .i64 (gA d ((first + ch + 1)) : Nat)) rfl (fun w hB => ld_int ((HS.out.dr).later hB) (by have := of_decide_eq_true hg; omega)) hF (by kernel_rfl) (guard_of rfl (by kernel_rfl) (by kernel_rfl) hj) (Ev.at (i := 17) (by kernel_rfl) (by kernel_rfl) (fe rfl (gd_t hg))))
        · exact flow_gd (decide (((ch : Int) + (1)) < ((hi : Nat)))) (.int .i64 (c (gA d ((first + ch))) (gA d ((first + ch + 1))))) 4 true (.bool (decide (((ch : Int) + (1)) < ((hi : Nat))))) rfl (by kernel_rfl) rfl gu_t rfl (fun hg hF hj => v_callv (f := 59) (pre := #[recv]) (vs := #[.int .i64 (gA d ((first + ch)) : Nat), .int .i64 (gA d ((first + ch + 1)) : Nat)]) (c := .int .i64 (c (gA d ((first + ch))) (gA d ((first + ch + 1))))) rfl (fun args w => rfl) (fun w hB => (HC.out.call _ ((HS.out.dr).later hB).below _ _ (((HS.out.dr).later hB).ok _ (by have := of_decide_eq_true hg; omega)) (((HS.out.dr).later hB).ok _ (by have := of_decide_eq_true hg; omega)))) hF (by kernel_rfl) (guard_of rfl (by kernel_rfl) (by kernel_rfl) hj) (Ev.at (i := 5) (by kernel_rfl) (by kernel_rfl) (fe rfl (gd_t hg))) (ev2 (Ev.at (i := 11) (by kernel_rfl) (by kernel_rfl) (fe rfl (gd_t hg))) (Ev.at (i := 18) (by kernel_rfl) (by kernel_rfl) (fe rfl (gd_t hg)))))
        · exact flow_gd (decide (((ch : Int) + (1)) < ((hi : Nat)))) (.bool (decide ((c (gA d ((first + ch))) (gA d ((first + ch + 1)))) < (0)))) 4 true (.bool (decide (((ch : Int) + (1)) < ((hi : Nat))))) rfl (by kernel_rfl) rfl gu_t rfl (fun hg hF hj => v_bin (u := .int .i64 (c (gA d ((first + ch))) (gA d ((first + ch + 1))))) (v := .int .i64 (0)) (c := .bool (decide ((c (gA d ((first + ch))) (gA d ((first + ch + 1)))) < (0)))) rfl (fun w => (by go_simp)) hF (by kernel_rfl) (guard_of rfl (by kernel_rfl) (by kernel_rfl) hj) (Ev.at (i := 19) (by kernel_rfl) (by kernel_rfl) (fe rfl (gd_t hg))) Ev.const)
        · exact v_and (p := decide (((ch : Int) + (1)) < ((hi : Nat)))) (q := decide ((c (gA d ((first + ch))) (gA d ((first + ch + 1)))) < (0))) rfl rfl (by kernel_rfl) True.intro (Ev.at (i := 4) (by kernel_rfl) (by kernel_rfl) rfl) (fun hp => (Ev.at (i := 20) (by kernel_rfl) (by kernel_rfl) (fe rfl (gd_t hp))))
      intro _ vs w1 hB2 hf
      have e0 : vs 0 = .int .i64 (ch : Int) := hf 0 (by decide)
      have e1 : vs 1 = .int .i64 ((ch : Int) + (1)) := hf 1 (by decide)
      have e2 : vs 2 = .int .i64 ((hi : Nat)) := hf 2 (by decide)
      have e3 : vs 3 = .bool (decide (((ch : Int) + (1)) < ((hi : Nat)))) := hf 3 (by decide)
      have e4 : vs 4 = .bool (decide (((ch : Int) + (1)) < ((hi : Nat)))) := hf 4 (by decide)
      have e5 : vs 5 = gd (decide (((ch : Int) + (1)) < ((hi : Nat)))) (.func (.func 59) #[recv] #[]) := hf 5 (by decide)
      have e6 : vs 6 = gd (decide (((ch : Int) + (1)) < ((hi : Nat)))) (.slice (some ⟨blk, 0, none⟩) n cap) := hf 6 (by decide)
      have e7 : vs 7 = gd (decide (((ch : Int) + (1)) < ((hi : Nat)))) (.int .i64 ((first : Nat))) := hf 7 (by decide)
      have e8 : vs 8 = gd (decide (((ch : Int) + (1)) < ((hi : Nat)))) (.int .i64 (ch : Int)) := hf 8 (by decide)
      have e9 : vs 9 = gd (decide (((ch : Int) + (1)) < ((hi : Nat)))) (.int .i64 (((first : Nat)) + (ch : Int))) := hf 9 (by decide)
      have e10 : vs 10 = gd (decide (((ch : Int) + (1)) < ((hi : Nat)))) (.pointer (some ⟨blk, (first + ch), none⟩)) := hf 10 (by decide)
      have e11 : vs 11 = gd (decide (((ch : Int) + (1)) < ((hi : Nat)))) (.int .i64 (gA d ((first + ch)) : Nat)) := hf 11 (by decide)
      have e12 : vs 12 = gd (decide (((ch : Int) + (1)) < ((hi : Nat)))) (.slice (some ⟨blk, 0, none⟩) n cap) := hf 12 (by decide)
      have e13 : vs 13 = gd (decide (((ch : Int) + (1)) < ((hi : Nat)))) (.int .i64 ((first : Nat))) := hf 13 (by decide)
      have e14 : vs 14 = gd (decide (((ch : Int) + (1)) < ((hi : Nat)))) (.int .i64 (ch : Int)) := hf 14 (by decide)
      have e15 : vs 15 = gd (decide (((ch : Int) + (1)) < ((hi : Nat)))) (.int .i64 (((first : Nat)) + (ch : Int))) := hf 15 (by decide)
      have e16 : vs 16 = gd (decide (((ch : Int) + (1)) < ((hi : Nat)))) (.int .i64 ((((first : Nat)) + (ch : Int)) + (1))) := hf 16 (by decide)
      have e17 : vs 17 = gd (decide (((ch : Int) + (1)) < ((hi : Nat)))) (.pointer (some ⟨blk, (first + ch + 1), none⟩)) := hf 17 (by decide)
      have e18 : vs 18 = gd (decide (((ch : Int) + (1)) < ((hi : Nat)))) (.int .i64 (gA d ((first + ch + 1)) : Nat)) := hf 18 (by decide)
      have e19 : vs 19 = gd (decide (((ch : Int) + (1)) < ((hi : Nat)))) (.int .i64 (c (gA d ((first + ch))) (gA d ((first + ch + 1))))) := hf 19 (by decide)
      have e20 : vs 20 = gd (decide (((ch : Int) + (1)) < ((hi : Nat)))) (.bool (decide ((c (gA d ((first + ch))) (gA d ((first + ch + 1)))) < (0)))) := hf 20 (by decide)
      have e21 : vs 21 = .bool ((decide (((ch : Int) + (1)) < ((hi : Nat)))) && (decide ((c (gA d ((first + ch))) (gA d ((first + ch + 1)))) < (0)))) := hf 21 (by decide)
      obtain ⟨z, hz⟩ : ∃ z : Bool, ((decide (((ch : Int) + (1)) < ((hi : Nat)))) && (decide ((c (gA d ((first + ch))) (gA d ((first + ch + 1)))) < (0)))) = z := ⟨_, rfl⟩
      rw [hz] at e21
      have HZ := hid hz
      clear hz
      simp only [fill, List.setIfInBounds_toArray, List.set_cons_zero, List.set_cons_succ, e0, e1, e2, e3, e4, e5, e6, e7, e8, e9, e10, e11, e12, e13, e14, e15, e16, e17, e18, e19, e20, e21]
      clear e0 e1 e2 e3 e4 e5 e6 e7 e8 e9 e10 e11 e12 e13 e14 e15 e16 e17 e18 e19 e20 e21
      have HS1 := hid (HS.out.later hB2)
      clear hB2 hf
      cases z
      · have hz := HZ.out
        have HCH := hid (show chM (ltC c) hi first root d = ch by
          unfold chM
          have hch := HCE.out
          rw [← hch, if_neg]
          · intro hc
            rw [Bool.and_eq_true, decide_eq_true_eq] at hc
            rw [Bool.and_eq_false_iff] at hz
            rcases hz with hz | hz
            · have := of_decide_eq_false hz; omega
            · rw [show ltC c (gA d (first + ch)) (gA d (first + ch + 1)) = false from hz] at hc; simp at hc)
        clear hz HZ
        go_upto_region 5 with (fail)
        refine wp_flow (fun _ => none) (Fa.eq (.func (.func 59) #[recv] #[]) :: Fa.eq (.slice (some ⟨blk, 0, none⟩) n cap) :: Fa.eq (.int .i64 ((first : Nat))) :: Fa.eq (.int .i64 ((root : Nat))) :: Fa.eq (.int .i64 (((first : Nat)) + ((root : Nat)))) :: Fa.eq (.pointer (some ⟨blk, (first + root), none⟩)) :: Fa.eq (.int .i64 (gA d ((first + root)) : Nat)) :: Fa.eq (.slice (some ⟨blk, 0, none⟩) n cap) :: Fa.eq (.int .i64 ((first : Nat))) :: Fa.eq (.int .i64 (ch : Int)) :: Fa.eq (.int .i64 (((first : Nat)) + (ch : Int))) :: Fa.eq (.pointer (some ⟨blk, (first + ch), none⟩)) :: Fa.eq (.int .i64 (gA d ((first + ch)) : Nat)) :: Fa.eq (.int .i64 (c (gA d ((first + root))) (gA d ((first + ch))))) :: Fa.eq (.bool (decide ((c (gA d ((first + root))) (gA d ((first + ch)))) < (0)))) :: Fa.eq (.bool (!(decide ((c (gA d ((first + root))) (gA d ((first + ch)))) < (0))))) :: []) 82 (by kernel_rfl) rfl (by kernel_rfl) rfl (by kernel_rfl) ?_ ?_ ?_
        · exact fits_plain _ _ rfl
        · refine ⟨?_, ?_, ?_, ?_, ?_, ?_, ?_, ?_, ?_, ?_, ?_, ?_, ?_, ?_, ?_, ?_, trivial⟩
          · exact v_move (.inl rfl) rfl (by kernel_rfl) True.intro (Ev.out (by kernel_rfl) rfl)
          · exact v_move (.inl rfl) rfl (by kernel_rfl) True.intro (Ev.out (by kernel_rfl) rfl)
          · exact v_move (.inl rfl) rfl (by kernel_rfl) True.intro (Ev.out (by kernel_rfl) rfl)
          · exact v_move (.inl rfl) rfl (by kernel_rfl) True.intro (Ev.out (by kernel_rfl) rfl)
          · exact v_bin (u := .int .i64 ((first : Nat))) (v := .int .i64 ((root : Nat))) (c := .int .i64 (((first : Nat)) + ((root : Nat)))) rfl (fun w => (bin_add_i64 (by omega) (by omega) w)) rfl (by kernel_rfl) True.intro (Ev.at (i := 2) (by kernel_rfl) (by kernel_rfl) rfl) (Ev.at (i := 3) (by kernel_rfl) (by kernel_rfl) rfl)
          · exact v_iaddr (u := .slice (some ⟨blk, 0, none⟩) n cap) (v := .int .i64 (((first : Nat)) + ((root : Nat)))) (c := .pointer (some ⟨blk, (first + root), none⟩)) rfl (fun w => idx_int (by omega) (by omega) w) rfl (by kernel_rfl) True.intro (Ev.at (i := 1) (by kernel_rfl) (by kernel_rfl) rfl) (Ev.at (i := 4) (by kernel_rfl) (by kernel_rfl) rfl)
          · exact v_load (u := .pointer (some ⟨blk, (first + root), none⟩)) (c := .int .i64 (gA d ((first + root)) : Nat)) rfl (fun w hB => ld_int ((HS1.out.dr).later hB) (by omega)) rfl (by kernel_rfl) True.intro (Ev.at (i := 5) (by kernel_rfl) (by kernel_rfl) rfl)
          · exact v_move (.inl rfl) rfl (by kernel_rfl) True.intro (Ev.out (by kernel_rfl) rfl)
          · exact v_move (.inl rfl) rfl (by kernel_rfl) True.intro (Ev.out (by kernel_rfl) rfl)
          · exact v_move (.inl rfl) rfl (by kernel_rfl) True.intro (Ev.out (by kernel_rfl) rfl)
          · exact v_bin (u := .int .i64 ((first : Nat))) (v := .int .i64 (ch : Int)) (c := .int .i64 (((first : Nat)) + (ch : Int))) rfl (fun w => (bin_add_i64 (by omega) (by omega) w)) rfl (by kernel_rfl) True.intro (Ev.at (i := 8) (by kernel_rfl) (by kernel_rfl) rfl) (Ev.at (i := 9) (by kernel_rfl) (by kernel_rfl) rfl)
          · exact v_iaddr (u := .slice (some ⟨blk, 0, none⟩) n cap) (v := .int .i64 (((first : Nat)) + (ch : Int))) (c := .pointer (some ⟨blk, (first + ch), none⟩)) rfl (fun w => idx_int (by omega) (by omega) w) rfl (by kernel_rfl) True.intro (Ev.at (i := 7) (by kernel_rfl) (by kernel_rfl) rfl) (Ev.at (i := 10) (by kernel_rfl) (by kernel_rfl) rfl)
          · exact v_load (u := .pointer (some ⟨blk, (first + ch), none⟩)) (c := .int .i64 (gA d ((first + ch)) : Nat)) rfl (fun w hB => ld_int ((HS1.out.dr).later hB) (by omega)) rfl (by kernel_rfl) True.intro (Ev.at (i := 11) (by kernel_rfl) (by kernel_rfl) rfl)
          · exact v_callv (f := 59) (pre := #[recv]) (vs := #[.int .i64 (gA d ((first + root)) : Nat), .int .i64 (gA d ((first + ch)) : Nat)]) (c := .int .i64 (c (gA d ((first + root))) (gA d ((first + ch))))) rfl (fun args w => rfl) (fun w hB => (HC.out.call _ ((HS1.out.dr).later hB).below _ _ (((HS1.out.dr).later hB).ok _ (by omega)) (((HS1.out.dr).later hB).ok _ (by omega)))) rfl (by kernel_rfl) True.intro (Ev.at (i := 0) (by kernel_rfl) (by kernel_rfl) rfl) (ev2 (Ev.at (i := 6) (by kernel_rfl) (by kernel_rfl) rfl) (Ev.at (i := 12) (by kernel_rfl) (by kernel_rfl) rfl))
          · exact v_bin (u := .int .i64 (c (gA d ((first + root))) (gA d ((first + ch))))) (v := .int .i64 (0)) (c := .bool (decide ((c (gA d ((first + root))) (gA d ((first + ch)))) < (0)))) rfl (fun w => (by go_simp)) rfl (by kernel_rfl) True.intro (Ev.at (i := 13) (by kernel_rfl) (by kernel_rfl) rfl) Ev.const
          · exact v_not rfl rfl (by kernel_rfl) True.intro (Ev.at (i := 14) (by kernel_rfl) (by kernel_rfl) rfl)
        intro _ vs w2 hB3 hf
        have e0 : vs 0 = .func (.func 59) #[recv] #[] := hf 0 (by decide)
        have e1 : vs 1 = .slice (some ⟨blk, 0, none⟩) n cap := hf 1 (by decide)
        have e2 : vs 2 = .int .i64 ((first : Nat)) := hf 2 (by decide)
        have e3 : vs 3 = .int .i64 ((root : Nat)) := hf 3 (by decide)
        have e4 : vs 4 = .int .i64 (((first : Nat)) + ((root : Nat))) := hf 4 (by decide)
        have e5 : vs 5 = .pointer (some ⟨blk, (first + root), none⟩) := hf 5 (by decide)
        have e6 : vs 6 = .int .i64 (gA d ((first + root)) : Nat) := hf 6 (by decide)
        have e7 : vs 7 = .slice (some ⟨blk, 0, none⟩) n cap := hf 7 (by decide)
        have e8 : vs 8 = .int .i64 ((first : Nat)) := hf 8 (by decide)
        have e9 : vs 9 = .int .i64 (ch : Int) := hf 9 (by decide)
        have e10 : vs 10 = .int .i64 (((first : Nat)) + (ch : Int)) := hf 10 (by decide)
        have e11 : vs 11 = .pointer (some ⟨blk, (first + ch), none⟩) := hf 11 (by decide)
        have e12 : vs 12 = .int .i64 (gA d ((first + ch)) : Nat) := hf 12 (by decide)
        have e13 : vs 13 = .int .i64 (c (gA d ((first + root))) (gA d ((first + ch)))) := hf 13 (by decide)
        have e14 : vs 14 = .bool (decide ((c (gA d ((first + root))) (gA d ((first + ch)))) < (0))) := hf 14 (by decide)
        have e15 : vs 15 = .bool (!(decide ((c (gA d ((first + root))) (gA d ((first + ch)))) < (0)))) := hf 15 (by decide)
        obtain ⟨y, hy⟩ : ∃ z : Bool, (!(decide ((c (gA d ((first + root))) (gA d ((first + ch)))) < (0)))) = z := ⟨_, rfl⟩
        rw [hy] at e15
        have HY := hid hy
        clear hy
        simp only [fill, List.setIfInBounds_toArray, List.set_cons_zero, List.set_cons_succ, e0, e1, e2, e3, e4, e5, e6, e7, e8, e9, e10, e11, e12, e13, e14, e15]
        clear e0 e1 e2 e3 e4 e5 e6 e7 e8 e9 e10 e11 e12 e13 e14 e15
        have HS2 := hid (HS1.out.later hB3)
        clear hB3 hf
        have hy := HY.out
        cases y
        · have hlt : ltC c (gA d (first + root)) (gA d (first + ch)) = true := by simpa [ltC] using hy
          have HT := hid (show Go.Sort.siftDown (ltC c) hi first (ch) (swp d (first + root) (first + ch)) = Go.Sort.siftDown (ltC c) hi first lo d0 by
            rw [← htw.out, sift_go hst HCH.out, if_pos hlt])
          clear hy HY hlt htw
          have c0 := HS2.out.cell (i := first + root) (by omega)
          have c1 := HS2.out.cell (i := first + ch) (by omega)
          have f0 := HS2.out.free (first + root)
          have f1 := HS2.out.free (first + ch)
          have q0 : (first : Int) + (root : Int) = ((first + root : Nat) : Int) := by omega
          have q1 : (first : Int) + (ch : Int) = ((first + ch : Nat) : Int) := by omega
          have q2 : ((first + root : Nat) : Int) < (n : Int) := by omega
          have q3 : ((first + ch : Nat) : Int) < (n : Int) := by omega
          have hne : first + root ≠ first + ch := by omega
          have HW := hid (HS2.out.swap (i := first + root) (j := first + ch) (by omega) (by omega))
          obtain ⟨p0, hp0⟩ : ∃ p0, p0 = first + root := ⟨_, rfl⟩
          obtain ⟨p1, hp1⟩ : ∃ p1, p1 = first + ch := ⟨_, rfl⟩
          rw [← hp0] at c0 f0 q0 q2 hne HW HT
          rw [← hp1] at c1 f1 q1 q3 hne HW HT
          have HPP := hid (And.intro hp0 hp1)
          clear hp0 hp1
          go_wp2
          go_region
          go_wp2
          go_roundw
          case rel =>
            exact ⟨ch, swp d p0 p1, by go_num, by omega, by rw [Go.Sort.size_swp]; exact hds, hid HT.out, HW.out.dr⟩
          case measure => simp [intOf]; omega
        · have hlt : ltC c (gA d (first + root)) (gA d (first + ch)) = false := by simpa [ltC] using hy
          have HT := hid (show d = Go.Sort.siftDown (ltC c) hi first lo d0 by
            rw [← htw.out, sift_go hst HCH.out, hlt]; rfl)
          clear hy HY hlt htw
          go_wp2
          first | go_end0 | ((try simp only [Exit.inBlock, Exit.then]); refine bodyPost_ret (results_none rfl _ _ _) rfl ?_)
          exact ⟨rfl, HT.out ▸ HS2.out⟩
      · have hz := HZ.out
        have hcl : ch + 1 < hi := by
          rw [Bool.and_eq_true, decide_eq_true_eq] at hz; omega
        have HCH := hid (show chM (ltC c) hi first root d = ch + 1 by
          unfold chM
          have hch := HCE.out
          rw [← hch, if_pos]
          · omega
          · rw [Bool.and_eq_true, decide_eq_true_eq] at hz
            rw [Bool.and_eq_true, decide_eq_true_eq]
            exact ⟨by omega, decide_eq_true (of_decide_eq_true hz.2)⟩)
        clear hz HZ
        have hci : (ch : Int) < 9223372036854775807 := by omega
        go_upto_region 5 with (fail)
        refine wp_flow (fun _ => none) (Fa.eq (.func (.func 59) #[recv] #[]) :: Fa.eq (.slice (some ⟨blk, 0, none⟩) n cap) :: Fa.eq (.int .i64 ((first : Nat))) :: Fa.eq (.int .i64 ((root : Nat))) :: Fa.eq (.int .i64 (((first : Nat)) + ((root : Nat)))) :: Fa.eq (.pointer (some ⟨blk, (first + root), none⟩)) :: Fa.eq (.int .i64 (gA d ((first + root)) : Nat)) :: Fa.eq (.slice (some ⟨blk, 0, none⟩) n cap) :: Fa.eq (.int .i64 ((first : Nat))) :: Fa.eq (.int .i64 ((ch : Int) + (1))) :: Fa.eq (.int .i64 (((first : Nat)) + ((ch : Int) + (1)))) :: Fa.eq (.pointer (some ⟨blk, (first + (ch + 1)), none⟩)) :: Fa.eq (.int .i64 (gA d ((first + (ch + 1))) : Nat)) :: Fa.eq (.int .i64 (c (gA d ((first + root))) (gA d ((first + (ch + 1)))))) :: Fa.eq (.bool (decide ((c (gA d ((first + root))) (gA d ((first + (ch + 1))))) < (0)))) :: Fa.eq (.bool (!(decide ((c (gA d ((first + root))) (gA d ((first + (ch + 1))))) < (0))))) :: []) 82 (by kernel_rfl) rfl (by kernel_rfl) rfl (by kernel_rfl) ?_ ?_ ?_
        · exact fits_plain _ _ rfl
        · refine ⟨?_, ?_, ?_, ?_, ?_, ?_, ?_, ?_, ?_, ?_, ?_, ?_, ?_, ?_, ?_, ?_, trivial⟩
          · exact v_move (.inl rfl) rfl (by kernel_rfl) True.intro (Ev.out (by kernel_rfl) rfl)
          · exact v_move (.inl rfl) rfl (by kernel_rfl) True.intro (Ev.out (by kernel_rfl) rfl)
          · exact v_move (.inl rfl) rfl (by kernel_rfl) True.intro (Ev.out (by kernel_rfl) rfl)
          · exact v_move (.inl rfl) rfl (by kernel_rfl) True.intro (Ev.out (by kernel_rfl) rfl)
          · exact v_bin (u := .int .i64 ((first : Nat))) (v := .int .i64 ((root : Nat))) (c := .int .i64 (((first : Nat)) + ((root : Nat)))) rfl (fun w => (bin_add_i64 (by omega) (by omega) w)) rfl (by kernel_rfl) True.intro (Ev.at (i := 2) (by kernel_rfl) (by kernel_rfl) rfl) (Ev.at (i := 3) (by kernel_rfl) (by kernel_rfl) rfl)
          · exact v_iaddr (u := .slice (some ⟨blk, 0, none⟩) n cap) (v := .int .i64 (((first : Nat)) + ((root : Nat)))) (c := .pointer (some ⟨blk, (first + root), none⟩)) rfl (fun w => idx_int (by omega) (by omega) w) rfl (by kernel_rfl) True.intro (Ev.at (i := 1) (by kernel_rfl) (by kernel_rfl) rfl) (Ev.at (i := 4) (by kernel_rfl) (by kernel_rfl) rfl)
          · exact v_load (u := .pointer (some ⟨blk, (first + root), none⟩)) (c := .int .i64 (gA d ((first + root)) : Nat)) rfl (fun w hB => ld_int ((HS1.out.dr).later hB) (by omega)) rfl (by kernel_rfl) True.intro (Ev.at (i := 5) (by kernel_rfl) (by kernel_rfl) rfl)
          · exact v_move (.inl rfl) rfl (by kernel_rfl) True.intro (Ev.out (by kernel_rfl) rfl)
          · exact v_move (.inl rfl) rfl (by kernel_rfl) True.intro (Ev.out (by kernel_rfl) rfl)
          · exact v_move (.inl rfl) rfl (by kernel_rfl) True.intro (Ev.out (by kernel_rfl) rfl)
          · exact v_bin (u := .int .i64 ((first : Nat))) (v := .int .i64 ((ch : Int) + (1))) (c := .int .i64 (((first : Nat)) + ((ch : Int) + (1)))) rfl (fun w => (bin_add_i64 (by omega) (by omega) w)) rfl (by kernel_rfl) True.intro (Ev.at (i := 8) (by kernel_rfl) (by kernel_rfl) rfl) (Ev.at (i := 9) (by kernel_rfl) (by kernel_rfl) rfl)
          · exact v_iaddr (u := .slice (some ⟨blk, 0, none⟩) n cap) (v := .int .i64 (((first : Nat)) + ((ch : Int) + (1)))) (c := .pointer (some ⟨blk, (first + (ch + 1)), none⟩)) rfl (fun w => idx_int (by omega) (by omega) w) rfl (by kernel_rfl) True.intro (Ev.at (i := 7) (by kernel_rfl) (by kernel_rfl) rfl) (Ev.at (i := 10) (by kernel_rfl) (by kernel_rfl) rfl)
          · exact v_load (u := .pointer (some ⟨blk, (first + (ch + 1)), none⟩)) (c := .int .i64 (gA d ((first + (ch + 1))) : Nat)) rfl (fun w hB => ld_int ((HS1.out.dr).later hB) (by omega)) rfl (by kernel_rfl) True.intro (Ev.at (i := 11) (by kernel_rfl) (by kernel_rfl) rfl)
          · exact v_callv (f := 59) (pre := #[recv]) (vs := #[.int .i64 (gA d ((first + root)) : Nat), .int .i64 (gA d ((first + (ch + 1))) : Nat)]) (c := .int .i64 (c (gA d ((first + root))) (gA d ((first + (ch + 1)))))) rfl (fun args w => rfl) (fun w hB => (HC.out.call _ ((HS1.out.dr).later hB).below _ _ (((HS1.out.dr).later hB).ok _ (by omega)) (((HS1.out.dr).later hB).ok _ (by omega)))) rfl (by kernel_rfl) True.intro (Ev.at (i := 0) (by kernel_rfl) (by kernel_rfl) rfl) (ev2 (Ev.at (i := 6) (by kernel_rfl) (by kernel_rfl) rfl) (Ev.at (i := 12) (by kernel_rfl) (by kernel_rfl) rfl))
          · exact v_bin (u := .int .i64 (c (gA d ((first + root))) (gA d ((first + (ch + 1)))))) (v := .int .i64 (0)) (c := .bool (decide ((c (gA d ((first + root))) (gA d ((first + (ch + 1))))) < (0)))) rfl (fun w => (by go_simp)) rfl (by kernel_rfl) True.intro (Ev.at (i := 13) (by kernel_rfl) (by kernel_rfl) rfl) Ev.const
          · exact v_not rfl rfl (by kernel_rfl) True.intro (Ev.at (i := 14) (by kernel_rfl) (by kernel_rfl) rfl)
        intro _ vs w2 hB3 hf
        have e0 : vs 0 = .func (.func 59) #[recv] #[] := hf 0 (by decide)
        have e1 : vs 1 = .slice (some ⟨blk, 0, none⟩) n cap := hf 1 (by decide)
        have e2 : vs 2 = .int .i64 ((first : Nat)) := hf 2 (by decide)
        have e3 : vs 3 = .int .i64 ((root : Nat)) := hf 3 (by decide)
        have e4 : vs 4 = .int .i64 (((first : Nat)) + ((root : Nat))) := hf 4 (by decide)
        have e5 : vs 5 = .pointer (some ⟨blk, (first + root), none⟩) := hf 5 (by decide)
        have e6 : vs 6 = .int .i64 (gA d ((first + root)) : Nat) := hf 6 (by decide)
        have e7 : vs 7 = .slice (some ⟨blk, 0, none⟩) n cap := hf 7 (by decide)
        have e8 : vs 8 = .int .i64 ((first : Nat)) := hf 8 (by decide)
        have e9 : vs 9 = .int .i64 ((ch : Int) + (1)) := hf 9 (by decide)
        have e10 : vs 10 = .int .i64 (((first : Nat)) + ((ch : Int) + (1))) := hf 10 (by decide)
        have e11 : vs 11 = .pointer (some ⟨blk, (first + (ch + 1)), none⟩) := hf 11 (by decide)
        have e12 : vs 12 = .int .i64 (gA d ((first + (ch + 1))) : Nat) := hf 12 (by decide)
        have e13 : vs 13 = .int .i64 (c (gA d ((first + root))) (gA d ((first + (ch + 1))))) := hf 13 (by decide)
        have e14 : vs 14 = .bool (decide ((c (gA d ((first + root))) (gA d ((first + (ch + 1))))) < (0))) := hf 14 (by decide)
        have e15 : vs 15 = .bool (!(decide ((c (gA d ((first + root))) (gA d ((first + (ch + 1))))) < (0)))) := hf 15 (by decide)
        obtain ⟨y, hy⟩ : ∃ z : Bool, (!(decide ((c (gA d ((first + root))) (gA d ((first + (ch + 1))))) < (0)))) = z := ⟨_, rfl⟩
        rw [hy] at e15
        have HY := hid hy
        clear hy
        simp only [fill, List.setIfInBounds_toArray, List.set_cons_zero, List.set_cons_succ, e0, e1, e2, e3, e4, e5, e6, e7, e8, e9, e10, e11, e12, e13, e14, e15]
        clear e0 e1 e2 e3 e4 e5 e6 e7 e8 e9 e10 e11 e12 e13 e14 e15
        have HS2 := hid (HS1.out.later hB3)
        clear hB3 hf
        have hy := HY.out
        cases y
        · have hlt : ltC c (gA d (first + root)) (gA d (first + (ch + 1))) = true := by simpa [ltC] using hy
          have HT := hid (show Go.Sort.siftDown (ltC c) hi first ((ch + 1)) (swp d (first + root) (first + (ch + 1))) = Go.Sort.siftDown (ltC c) hi first lo d0 by
            rw [← htw.out, sift_go hst HCH.out, if_pos hlt])
          clear hy HY hlt htw
          have c0 := HS2.out.cell (i := first + root) (by omega)
          have c1 := HS2.out.cell (i := first + (ch + 1)) (by omega)
          have f0 := HS2.out.free (first + root)
          have f1 := HS2.out.free (first + (ch + 1))
          have q0 : (first : Int) + (root : Int) = ((first + root : Nat) : Int) := by omega
          have q1 : (first : Int) + ((ch : Int) + (1)) = ((first + (ch + 1) : Nat) : Int) := by omega
          have q2 : ((first + root : Nat) : Int) < (n : Int) := by omega
          have q3 : ((first + (ch + 1) : Nat) : Int) < (n : Int) := by omega
          have hne : first + root ≠ first + (ch + 1) := by omega
          have HW := hid (HS2.out.swap (i := first + root) (j := first + (ch + 1)) (by omega) (by omega))
          obtain ⟨p0, hp0⟩ : ∃ p0, p0 = first + root := ⟨_, rfl⟩
          obtain ⟨p1, hp1⟩ : ∃ p1, p1 = first + (ch + 1) := ⟨_, rfl⟩
          rw [← hp0] at c0 f0 q0 q2 hne HW HT
          rw [← hp1] at c1 f1 q1 q3 hne HW HT
          have HPP := hid (And.intro hp0 hp1)
          clear hp0 hp1
          go_wp2
          go_region
          go_wp2
          go_roundw
          case rel =>
            exact ⟨(ch + 1), swp d p0 p1, by go_num, by omega, by rw [Go.Sort.size_swp]; exact hds, hid HT.out, HW.out.dr⟩
          case measure => simp [intOf]; omega
        · have hlt : ltC c (gA d (first + root)) (gA d (first + (ch + 1))) = false := by simpa [ltC] using hy
          have HT := hid (show d = Go.Sort.siftDown (ltC c) hi first lo d0 by
            rw [← htw.out, sift_go hst HCH.out, hlt]; rfl)
          clear hy HY hlt htw
          go_wp2
          first | go_end0 | ((try simp only [Exit.inBlock, Exit.then]); refine bodyPost_ret (results_none rfl _ _ _) rfl ?_)
          exact ⟨rfl, HT.out ▸ HS2.out⟩
/-! ### Heap sort -/
set_option maxHeartbeats 1000000 in
theorem sort_heap (recv : Value) (c : Nat → Nat → Int) (HC : Hid (CmpOK w0 recv ok c)) (n cap a b : Nat) (d0 : Array Nat) (hn : d0.size = n) (hab : a < b) (hbs : b ≤ n) (hsz : n < 1000000000) (W0 : World) (h : Srt w0 blk ok d0 W0) :
    Calls Tryd.prog 87 #[.slice (some ⟨blk, 0, none⟩) n cap, .int .i64 (a : Nat), .int .i64 (b : Nat), .func (.func 59) #[recv] #[]] W0 fun e w' => e = .returned (.tuple #[]) ∧ Srt w0 blk ok (Go.Sort.heapSort (ltC c) d0 a b) w' := by
  have H := hid h
  clear h
  obtain ⟨m, hm⟩ : ∃ m : Nat, m = b - a := ⟨_, rfl⟩
  have e0 : (b : Int) - (a : Int) = (m : Int) := by omega
  have hT0 : Go.Sort.heapSort (ltC c) d0 a b = Go.Sort.heapPop (ltC c) a m (Go.Sort.heapBuild (ltC c) m a ((m - 1) / 2 + 1) d0) := by rw [hm]; rfl
  rw [hT0]
  have HM := hid (And.intro hm hT0)
  have hm1 : 1 ≤ m := by omega
  have hma : a + m ≤ n := by omega
  obtain ⟨t, ht⟩ : ∃ t : Nat, t = (m - 1) / 2 := ⟨_, rfl⟩
  have e1 : ((m : Int) - 1).tdiv 2 = (t : Int) := by
    rw [show (m : Int) - 1 = ((m - 1 : Nat) : Int) by omega, ht]
    rfl
  have HTT := hid ht
  rw [← ht]
  clear hm hT0 ht
  have htm : t < m := by have := HTT.out; omega
  go_enter Tryd.func87, Tryd.ntmps87
  go_wp2
  go_loopw [11] (fun x wr => ∃ (k : Nat) (d : Array Nat), x = .int .i64 ((k : Int) - 1) ∧ k ≤ m ∧ d.size = n ∧ Hid (Go.Sort.heapBuild (ltC c) m a k d = Go.Sort.heapBuild (ltC c) m a (t + 1) d0) ∧ Srt w0 blk ok d wr) (fun x _ => (intOf x + 1).toNat)
  case atStart => exact ⟨t + 1, d0, by go_num, by omega, hn, rfl, H.out⟩
  case round =>
    obtain ⟨k, d, rfl, hk, hds, htw, hs⟩ := hrel
    cases k with
    | succ k =>
      have k0 : ((k + 1 : Nat) : Int) - 1 = (k : Int) := by omega
      rw [k0]
      have hcall := sort_sift recv c HC n cap k m a d hds (by omega) (by omega) hsz wr hs
      have HT := hid htw.out
      clear hs htw k0
      go_wp2_with (go_at_call 96; refine hcall.mono ?_; rintro e w1 ⟨rfl, hs1⟩)
      have HS := hid hs1
      clear hs1 hcall
      go_roundw
      case rel => exact ⟨k, _, by go_num, by omega, by rw [sift_size _ _ _ _ _ _ (Nat.le_refl _)]; exact hds, hid HT.out, HS.out⟩
      case measure => simp [intOf]
    | zero =>
      have HT := hid (show d = Go.Sort.heapBuild (ltC c) m a (t + 1) d0 from htw.out)
      have HS := hid hs
      clear hs htw
      have k0 : ((0 : Nat) : Int) - 1 = -1 := by omega
      rw [k0]
      clear k0
      go_wp2
      go_loopw [12] (fun x wr2 => ∃ (k : Nat) (d2 : Array Nat), x = .int .i64 ((k : Int) - 1) ∧ k ≤ m ∧ d2.size = n ∧ Hid (Go.Sort.heapPop (ltC c) a k d2 = Go.Sort.heapPop (ltC c) a m d) ∧ Srt w0 blk ok d2 wr2) (fun x _ => (intOf x + 1).toNat)
      case atStart => exact ⟨m, d, rfl, Nat.le_refl _, hds, rfl, HS.out⟩
      case round =>
        obtain ⟨k2, d2, rfl, hk2, hds2, htw2, hs2⟩ := hrel
        cases k2 with
        | succ k2 =>
          have k0 : ((k2 + 1 : Nat) : Int) - 1 = (k2 : Int) := by omega
          rw [k0]
          obtain ⟨p, hp⟩ : ∃ p : Nat, p = a + k2 := ⟨_, rfl⟩
          have q0 : (a : Int) + (k2 : Int) = (p : Int) := by omega
          have q1 : (a : Int) < (n : Int) := by omega
          have q2 : (p : Int) < (n : Int) := by omega
          have c0 := hs2.cell (i := a) (by omega)
          have c1 := hs2.cell (i := p) (by omega)
          have f0 := hs2.free a
          have f1 := hs2.free p
          have hsw := hs2.swap (i := a) (j := p) (by omega) (by omega)
          have hcall := fun W (hb : Below ((wr.setCell ⟨blk, a, none⟩ (.int .i64 (gA d2 p : Nat))).setCell ⟨blk, p, none⟩ (.int .i64 (gA d2 a : Nat))).heap.size ((wr.setCell ⟨blk, a, none⟩ (.int .i64 (gA d2 p : Nat))).setCell ⟨blk, p, none⟩ (.int .i64 (gA d2 a : Nat))) W) => sort_sift recv c HC n cap 0 k2 a (swp d2 a p) (by rw [Go.Sort.size_swp]; exact hds2) (by omega) (by omega) hsz W (hsw.later hb)
          have HT := hid (show Go.Sort.heapPop (ltC c) a k2 (Go.Sort.siftDown (ltC c) k2 a 0 (swp d2 a p)) = Go.Sort.heapPop (ltC c) a m d by rw [hp]; exact htw2.out)
          have HP := hid hp
          have hne : a = p ∨ a ≠ p := by omega
          clear hs2 htw2 k0 hp hsw
          go_wp2
          rcases hne with hne | hne
          · subst hne
            go_region
            go_wp2_with (go_at_call 96; refine (hcall _ (by exact (Below.refl _ _).drew)).mono ?_; rintro e w1 ⟨rfl, hs1⟩)
            have HS1 := hid hs1
            clear hs1 hcall
            go_roundw
            case rel => exact ⟨k2, _, by go_num, by omega, by rw [sift_size _ _ _ _ _ _ (Nat.le_refl _), Go.Sort.size_swp]; exact hds2, hid HT.out, HS1.out⟩
            case measure => simp [intOf]
          · go_region
            go_wp2_with (go_at_call 96; refine (hcall _ (by exact (Below.refl _ _).drew)).mono ?_; rintro e w1 ⟨rfl, hs1⟩)
            have HS1 := hid hs1
            clear hs1 hcall
            go_roundw
            case rel => exact ⟨k2, _, by go_num, by omega, by rw [sift_size _ _ _ _ _ _ (Nat.le_refl _), Go.Sort.size_swp]; exact hds2, hid HT.out, HS1.out⟩
            case measure => simp [intOf]
        | zero =>
          have HT2 := hid (show d2 = Go.Sort.heapPop (ltC c) a m d from htw2.out)
          have HS2 := hid hs2
          clear hs2 htw2
          have k0 : ((0 : Nat) : Int) - 1 = -1 := by omega
          rw [k0]
          clear k0
          go_wp2
          go_end0
          refine ⟨rfl, ?_⟩
          rw [← HT.out, ← HT2.out]
          exact HS2.out
end Go.Proofs.YtfnmekmgjcjglaaDoor.V
