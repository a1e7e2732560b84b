/-
  slices.IndexFunc and slices.DeleteFunc at dots, the function value of shape B.
-/
import Derived.Test.YtmjmgjdklhdcdaaDelM
import Derived.LoopTactic
namespace Go.Proofs.Ytmjmgjdklhdcdaa
set_option linter.unusedVariables false
set_option linter.unusedSimpArgs false
open Go Go.RowKit Go.Maps

set_option maxHeartbeats 2000000 in
set_option maxRecDepth 100000 in
theorem index_B (b g N cap : Nat) (l : List Dot) (w : World) (p : Dot → Bool) (Ctx : World → Prop) (hcall : ∀ (W : World) (r n : Nat), r < 256 → n < 4294967296 → Ctx W → Calls Try.prog 37 #[.agg #[.int .u8 (r : Int), .int .u32 (n : Int)], .pointer (some ⟨b, 0, none⟩)] W fun e w' => e = .returned (.bool (p (r, n))) ∧ Below W.heap.size W w')
    (hkeep : ∀ W W', Ctx W → Below W.heap.size W W' → Ctx W')
    (hrow : RowAt w g N l) (hl : l.length ≤ 1000000) (hok : ∀ d ∈ l, d.ok) (hctx : Ctx w) :
    Calls Try.prog 44 #[.slice (some ⟨g, 0, none⟩) l.length cap, .func (.func 37) #[] #[.pointer (some ⟨b, 0, none⟩)]] w (IdxPost w l p) := by
  have HC := hid hcall
  have HK := hid hkeep
  have HR := hid hrow
  have HOK := hid hok
  clear hcall hkeep hrow hok
  go_enter Try.func44, Try.ntmps44
  go_wp2
  go_loopw [8] (fun i wr => ∃ k : Nat, k ≤ l.length ∧ i = .int .i64 k ∧ Below w.heap.size w wr ∧ Ctx wr ∧ NoneB p (l.take k)) (fun i _ => l.length - (intOf i).toNat)
  case atStart => exact ⟨0, by omega, rfl, Below.refl _ _, hctx, by simp [NoneB]⟩
  case round =>
    obtain ⟨k, hk, rfl, hB, hX, hno⟩ := hrel
    by_cases hlt : k < l.length
    · obtain ⟨r, m, hx⟩ : ∃ r m, l[k]? = some (r, m) := ⟨l[k].1, l[k].2, by rw [List.getElem?_eq_getElem hlt]⟩
      obtain ⟨hr, hm⟩ := HOK.out _ (List.mem_of_getElem? hx)
      obtain ⟨hc0, hc1⟩ := (HR.out.keep hB).at hx
      dsimp only at hr hm hc0 hc1
      have hcon := HC.out wr r m hr hm hX
      have HX := hid hx
      have HN := hid hno
      clear hx hno
      cases hq : p (r, m)
      · rw [hq] at hcon
        have HQ := hid hq
        clear hq
        go_wp2_with (go_at_call 37; refine hcon.mono ?_; rintro e w1 ⟨rfl, hB1⟩)
        have hX1 := HK.out _ _ hX hB1
        have hB2 := hB.trans (hB1.mono hB.size)
        go_roundw
        case rel => exact ⟨k + 1, by omega, by go_num, hB2, hX1, HN.out.snoc HX.out HQ.out⟩
        case measure => simp [intOf]; omega
      · rw [hq] at hcon
        have HQ := hid hq
        clear hq
        go_wp2_with (go_at_call 37; refine hcon.mono ?_; rintro e w1 ⟨rfl, hB1⟩)
        have hB2 := hB.trans (hB1.mono hB.size)
        go_ret
        exact ⟨hB2, _, rfl, .inr ⟨k, rfl, hlt, ⟨_, HX.out, HQ.out⟩, HN.out⟩⟩
    · have : k = l.length := by omega
      subst this
      rw [List.take_length] at hno
      go_wp2
      go_ret
      exact ⟨hB, _, rfl, .inl ⟨rfl, hno⟩⟩

theorem index_none_B (b : Nat) (w : World) : Calls Try.prog 44 #[.slice none 0 0, .func (.func 37) #[] #[.pointer (some ⟨b, 0, none⟩)]] w fun e w' => e = .returned (.int .i64 (-1)) ∧ w = w' := by
  go_enter Try.func44, Try.ntmps44
  go_wp2
  refine wp_loop_rounds 1 ?_
  rw [rounds_succ]
  go_wp2
  go_ret
  exact ⟨rfl, rfl⟩

theorem delete_none_B (b : Nat) (w : World) : Calls Try.prog 36 #[.slice none 0 0, .func (.func 37) #[] #[.pointer (some ⟨b, 0, none⟩)]] w fun e w' => e = .returned (.slice none 0 0) ∧ w = w' := by
  go_enter Try.func36, Try.ntmps36
  go_wp2_with (go_at_call 44; refine (index_none_B b w).mono ?_; rintro e w1 ⟨rfl, rfl⟩)
  go_ret
  exact ⟨rfl, rfl⟩

set_option maxHeartbeats 4000000 in
set_option maxRecDepth 100000 in
theorem delete_B (b g N cap B0 : Nat) (l : List Dot) (w : World) (p : Dot → Bool) (Ctx : World → Prop) (hcall : ∀ (W : World) (r n : Nat), r < 256 → n < 4294967296 → Ctx W → Calls Try.prog 37 #[.agg #[.int .u8 (r : Int), .int .u32 (n : Int)], .pointer (some ⟨b, 0, none⟩)] W fun e w' => e = .returned (.bool (p (r, n))) ∧ Below W.heap.size W w')
    (hkeep : ∀ W W', Ctx W → Below W.heap.size W W' → Ctx W') (hset : ∀ W j v, Ctx W → Ctx (W.setCell ⟨g, j, none⟩ v)) (hg0 : B0 ≤ g)
    (hrow : RowAt w g N l) (hl : l.length ≤ 1000000) (hN : N = cap * 2) (hlc : l.length ≤ cap) (hcm : cap ≤ maxLen) (hB0 : B0 ≤ w.heap.size) (hok : ∀ d ∈ l, d.ok) (hctx : Ctx w) :
    Calls Try.prog 36 #[.slice (some ⟨g, 0, none⟩) l.length cap, .func (.func 37) #[] #[.pointer (some ⟨b, 0, none⟩)]] w (DelPost w B0 (l.filter fun d => !p d)) := by
  have hidx := index_B b g N cap l w p Ctx hcall hkeep hrow hl hok hctx
  have HC := hid hcall
  have HK := hid hkeep
  have HS := hid hset
  have HR := hid hrow
  have HOK := hid hok
  have HN := hid (And.intro hN (And.intro hlc hcm))
  have hcm' : cap ≤ 9223372036854775807 := by unfold maxLen at hcm; omega
  clear hcall hkeep hset hrow hok hN hcm
  by_cases hno : NoneB p l
  · have hcon := Calls.mono hidx (fun e w' h => h.none hno)
    have HNO := hid hno
    clear hidx hno
    go_enter Try.func36, Try.ntmps36
    go_wp2_with (go_at_call 44; refine hcon.mono ?_; rintro e w1 ⟨rfl, hB1⟩)
    go_ret
    refine ⟨_, rfl, ?_, hB1.mono hB0⟩
    rw [HNO.out.filter]
    have h := HR.out.keep hB1
    rw [HN.out.1] at h
    exact h.owns hg0 HN.out.2.2
  · obtain ⟨k0, x0, hx0, hq0, hn0⟩ := first_hit l hno
    have hcon := Calls.mono hidx (fun e w' h => h.hit hx0 hq0 hn0)
    have HI := hid (DelInv.start hx0 hq0 hn0)
    have hk0 : k0 < l.length := (List.getElem?_eq_some_iff.1 hx0).1
    have hne : ((k0 : Int) == -1) = false := beq_eq_false_iff_ne.2 (by omega)
    clear hidx hno hx0 hq0 hn0
    go_enter Try.func36, Try.ntmps36
    go_wp2_with (go_at_call 44; refine hcon.mono ?_; rintro e w1 ⟨rfl, hB1⟩)
    go_loopw [5, 6] (fun s5 s6 wr => ∃ (i j : Nat) (c : List Dot), s5 = .int .i64 i ∧ s6 = .int .i64 j ∧ j ≤ l.length ∧ RowAt wr g N c ∧ DelInv p l c i j ∧ Below B0 w wr ∧ Ctx wr) (fun _ s6 _ => l.length - (intOf s6).toNat)
    case atStart => exact ⟨k0, k0 + 1, l, rfl, by go_num, by omega, HR.out.keep hB1, HI.out, hB1.mono hB0, HK.out _ _ hctx hB1⟩
    case round =>
      obtain ⟨i, j, c, rfl, rfl, hj, hrw, hinv, hB, hX⟩ := hrel
      have hij : i < j := hinv.2.1
      have hcl : c.length = l.length := hinv.1
      by_cases hlt : j < l.length
      · obtain ⟨r, m, hx⟩ : ∃ r m, l[j]? = some (r, m) := ⟨l[j].1, l[j].2, by rw [List.getElem?_eq_getElem hlt]⟩
        obtain ⟨hr, hm⟩ := HOK.out _ (List.mem_of_getElem? hx)
        obtain ⟨hc0, hc1⟩ := hrw.at (hinv.get.trans hx)
        obtain ⟨old, hold⟩ : ∃ old, c[i]? = some old := ⟨c[i], List.getElem?_eq_getElem (by omega)⟩
        dsimp only at hr hm hc0 hc1
        obtain ⟨wb, hwb⟩ : ∃ wb, wb = wr.alloc (.cells #[.int .u8 (r : Int), .int .u32 (m : Int)] 24) := ⟨_, rfl⟩
        have hbb : Below wr.heap.size wr wb := by rw [hwb]; exact (Below.refl _ _).alloc (Nat.le_refl _) _
        have hXb : Ctx wb := HK.out _ _ hX hbb
        have hcon2 := HC.out wb r m hr hm hXb
        have hbx0 : wb.cell? ⟨wr.heap.size, 0, none⟩ = some (.int .u8 (r : Int)) := by rw [hwb]; simp
        have hbx1 : wb.cell? ⟨wr.heap.size, 1, none⟩ = some (.int .u32 (m : Int)) := by rw [hwb]; simp
        have hbs : wr.heap.size < wb.heap.size := by rw [hwb]; simp
        have HX := hid hx
        have HV := hid hinv
        have HO := hid hold
        have HRW := hid hrw
        have HBS := hid (And.intro hbx0 (And.intro hbx1 (And.intro hbs hbb)))
        have HXB := hid hXb
        rw [hwb] at hcon2
        have HWB := hid hwb
        clear hx hinv hold hrw hbx0 hbx1 hbs hbb hXb hwb
        cases hq : p (r, m)
        · rw [hq] at hcon2
          have HQ := hid hq
          clear hq
          go_wp2_with (go_at_call 37; refine hcon2.mono ?_; rintro e w2 ⟨rfl, hB2⟩; rw [← HWB.out] at hB2; have hrow2 : RowAt w2 g N c := (HRW.out.keep HBS.out.2.2.2).keep hB2; obtain ⟨o0, o1⟩ := hrow2.at HO.out; have f0 := hrow2.free (i * 2); have f1 := hrow2.free (i * 2 + 1); have q0 := (hB2.cell (p := ⟨wr.heap.size, 0, none⟩) HBS.out.2.2.1).trans HBS.out.1; have q1 := (hB2.cell (p := ⟨wr.heap.size, 1, none⟩) HBS.out.2.2.1).trans HBS.out.2.1; have HB2 := hid hB2; have HR2 := hid hrow2; clear hB2 hrow2)
          have hst := HR2.out.set (i := i) (by omega) r m
          have hX2 := HS.out _ (i * 2 + 1) (.int .u32 (m : Int)) (HS.out _ (i * 2) (.int .u8 (r : Int)) (HK.out _ _ HXB.out HB2.out))
          have hB3 : Below B0 w ((w2.setCell ⟨g, i * 2, none⟩ (.int .u8 (r : Int))).setCell ⟨g, i * 2 + 1, none⟩ (.int .u32 (m : Int))) := by
            have e1 : Below B0 wr w2 := (HBS.out.2.2.2.mono (Nat.le_trans hB0 hB.size)).trans (HB2.out.mono (Nat.le_trans hB0 (Nat.le_trans hB.size (Nat.le_of_lt HBS.out.2.2.1))))
            exact ((hB.trans e1).setCell (p := ⟨g, i * 2, none⟩) hg0 _).setCell (p := ⟨g, i * 2 + 1, none⟩) hg0 _
          have HE := hid (And.intro hst (And.intro hX2 hB3))
          clear hst hX2 hB3
          go_roundw
          case rel => exact ⟨i + 1, j + 1, c.set i (r, m), by go_num, by go_num, by omega, HE.out.1, HV.out.keep HX.out HQ.out, HE.out.2.2, HE.out.2.1⟩
          case measure => simp [intOf]; omega
        · rw [hq] at hcon2
          have HQ := hid hq
          clear hq
          go_wp2_with (go_at_call 37; refine hcon2.mono ?_; rintro e w2 ⟨rfl, hB2⟩; rw [← HWB.out] at hB2; have HB2 := hid hB2; clear hB2)
          have hX2 := HK.out _ _ HXB.out HB2.out
          have hrow2 : RowAt w2 g N c := (HRW.out.keep HBS.out.2.2.2).keep HB2.out
          have hB3 : Below B0 w w2 := hB.trans ((HBS.out.2.2.2.mono (Nat.le_trans hB0 hB.size)).trans (HB2.out.mono (Nat.le_trans hB0 (Nat.le_trans hB.size (Nat.le_of_lt HBS.out.2.2.1)))))
          have HE := hid (And.intro hrow2 (And.intro hX2 hB3))
          clear hrow2 hX2 hB3
          go_roundw
          case rel => exact ⟨i, j + 1, c, rfl, by go_num, by omega, HE.out.1, HV.out.skip HX.out HQ.out, HE.out.2.2, HE.out.2.1⟩
          case measure => simp [intOf]; omega
      · obtain rfl : j = l.length := by omega
        obtain ⟨cs, hclr, hrow3⟩ := run_clear_dots (cap := cap - i) hrw (i := i) (m := l.length - i) (by omega) (by omega)
        have hnc : ¬ cap = i := by omega
        have HE := hid (And.intro hrow3 (And.intro hinv hB))
        clear hrow3 hinv hB hrw
        go_wp2
        go_ret
        obtain ⟨hrow3, hinv, hB⟩ := HE.out
        have e1 : c.take i = l.filter fun d => !p d := by
          have := hinv.2.2.2.1
          rw [List.take_length] at this
          exact this
        have e2 : (l.filter fun d => !p d).length = i := by rw [← e1, List.length_take]; omega
        rw [e1, HN.out.1] at hrow3
        exact ⟨.slice (some ⟨g, 0, none⟩) (l.filter fun d => !p d).length cap, by rw [e2]; rfl, hrow3.owns hg0 HN.out.2.2, Below.setRow hB hg0 cs⟩

end Go.Proofs.Ytmjmgjdklhdcdaa
