/-
  Sorting indices by a comparing method value: the choice of the pivot.
-/
import Derived.Test.YtfnmekmgjcjglaaDoorYHK4
import Derived.Test.YtfnmekmgjcjglaaDoorYMI
namespace Go.Proofs.YtfnmekmgjcjglaaDoor.V
set_option linter.unusedVariables false
set_option linter.unusedSimpArgs false
set_option maxRecDepth 100000
open Go Go.RowKit Go.Maps Wire
set_option maxRecDepth 100000
set_option linter.unusedVariables false
set_option linter.unusedSimpArgs false
open Go.Sort (swp PermIn SortedIn SWO)
variable {w0 : World} {blk : Nat} {ok : Nat → Prop} {d : Array Nat} {W W' : World}
/-- A row and a box with a number. -/
structure Piv (w0 : World) (blk : Nat) (ok : Nat → Prop) (d : Array Nat) (k s : Nat) (W : World) : Prop where
  srt : Srt w0 blk ok d W
  box : W.heap[k]? = some (.cells #[.int .i64 (s : Nat)] 3 (0, 0))
  hk : w0.heap.size ≤ k
  ne : blk ≠ k
theorem Piv.later {k s : Nat} (h : Piv w0 blk ok d k s W) (hB : Below W.heap.size W W') : Piv w0 blk ok d k s W' := ⟨h.srt.later hB, heap_keep h.box hB, h.hk, h.ne⟩
theorem Piv.cell {k s : Nat} (h : Piv w0 blk ok d k s W) : W.cell? ⟨k, 0, none⟩ = some (.int .i64 (s : Nat)) := by rw [cell_of_heap h.box]; rfl
theorem Piv.free {k s : Nat} (h : Piv w0 blk ok d k s W) : W.frozen? ⟨k, 0, none⟩ = false := freeV h.box 0
theorem Srt.away (h : Srt w0 blk ok d W) {k : Nat} (hk : w0.heap.size ≤ k) (ne : blk ≠ k) (v : Value) : Srt w0 blk ok d (W.setCell ⟨k, 0, none⟩ v) :=
  ⟨by obtain ⟨cs, hc, hi⟩ := h.row; exact ⟨cs, heap_n hc (Ne.symm ne), hi⟩, h.below.setCell (p := ⟨k, 0, none⟩) hk _, h.hb, h.ok⟩
theorem Piv.bump {k s : Nat} (h : Piv w0 blk ok d k s W) (t : Nat) : Piv w0 blk ok d k t (W.setCell ⟨k, 0, none⟩ (.int .i64 (t : Nat))) :=
  ⟨h.srt.away h.hk h.ne _, by have := heap_s (k := 0) (v := .int .i64 (t : Nat)) h.box; simpa using this, h.hk, h.ne⟩
set_option maxHeartbeats 800000 in
theorem sort_order2 (recv : Value) (c : Nat → Nat → Int) (HC : Hid (CmpOK w0 recv ok c)) (n cap a b k s : Nat) (d : Array Nat) (hn : d.size = n) (han : a < n) (hbn : b < n) (hsz : n < 1000000000) (hs : s < 1000) (W0 : World) (h : Piv w0 blk ok d k s W0) :
    Calls Tryd.prog 101 #[.slice (some ⟨blk, 0, none⟩) n cap, .int .i64 (a : Nat), .int .i64 (b : Nat), .pointer (some ⟨k, 0, none⟩), .func (.func 59) #[recv] #[]] W0 fun e w' => ∃ x y t : Nat, e = .returned (.tuple #[.int .i64 (x : Nat), .int .i64 (y : Nat)]) ∧ (x = a ∧ y = b ∨ x = b ∧ y = a) ∧ t ≤ s + 1 ∧ Piv w0 blk ok d k t w' := by
  have H := hid h
  have HS := hid h.srt
  clear h
  go_enter Tryd.func101, Tryd.ntmps101
  go_upto_region 1 with (fail)
  refine wp_flow (fun _ => none) (Fa.eq (.func (.func 59) #[recv] #[]) :: Fa.eq (.slice (some ⟨blk, 0, none⟩) n cap) :: Fa.eq (.int .i64 ((b : Nat))) :: Fa.eq (.pointer (some ⟨blk, b, none⟩)) :: Fa.eq (.int .i64 (gA d (b) : Nat)) :: Fa.eq (.slice (some ⟨blk, 0, none⟩) n cap) :: Fa.eq (.int .i64 ((a : Nat))) :: Fa.eq (.pointer (some ⟨blk, a, none⟩)) :: Fa.eq (.int .i64 (gA d (a) : Nat)) :: Fa.eq (.int .i64 (c (gA d (b)) (gA d (a)))) :: Fa.eq (.bool (decide ((c (gA d (b)) (gA d (a))) < (0)))) :: []) 32 (by kernel_rfl) rfl (by kernel_rfl) rfl (by kernel_rfl) ?_ ?_ ?_
  · exact fits_plain _ _ rfl
  · refine ⟨?_, ?_, ?_, ?_, ?_, ?_, ?_, ?_, ?_, ?_, ?_, trivial⟩
    · exact v_move (.inl rfl) rfl (by kernel_rfl) True.intro (Ev.out (by kernel_rfl) rfl)
    · exact v_move (.inl rfl) rfl (by kernel_rfl) True.intro (Ev.out (by kernel_rfl) rfl)
    · exact v_move (.inl rfl) rfl (by kernel_rfl) True.intro (Ev.out (by kernel_rfl) rfl)
    · exact v_iaddr (u := .slice (some ⟨blk, 0, none⟩) n cap) (v := .int .i64 ((b : Nat))) (c := .pointer (some ⟨blk, b, none⟩)) rfl (fun w => idx_int (by omega) (rfl) w) rfl (by kernel_rfl) True.intro (Ev.at (i := 1) (by kernel_rfl) (by kernel_rfl) rfl) (Ev.at (i := 2) (by kernel_rfl) (by kernel_rfl) rfl)
    · exact v_load (u := .pointer (some ⟨blk, b, none⟩)) (c := .int .i64 (gA d (b) : Nat)) rfl (fun w hB => ld_int ((HS.out.dr).later hB) (by omega)) rfl (by kernel_rfl) True.intro (Ev.at (i := 3) (by kernel_rfl) (by kernel_rfl) rfl)
    · exact v_move (.inl rfl) rfl (by kernel_rfl) True.intro (Ev.out (by kernel_rfl) rfl)
    · exact v_move (.inl rfl) rfl (by kernel_rfl) True.intro (Ev.out (by kernel_rfl) rfl)
    · exact v_iaddr (u := .slice (some ⟨blk, 0, none⟩) n cap) (v := .int .i64 ((a : Nat))) (c := .pointer (some ⟨blk, a, none⟩)) rfl (fun w => idx_int (by omega) (rfl) w) rfl (by kernel_rfl) True.intro (Ev.at (i := 5) (by kernel_rfl) (by kernel_rfl) rfl) (Ev.at (i := 6) (by kernel_rfl) (by kernel_rfl) rfl)
    · exact v_load (u := .pointer (some ⟨blk, a, none⟩)) (c := .int .i64 (gA d (a) : Nat)) rfl (fun w hB => ld_int ((HS.out.dr).later hB) (by omega)) rfl (by kernel_rfl) True.intro (Ev.at (i := 7) (by kernel_rfl) (by kernel_rfl) rfl)
    · exact v_callv (f := 59) (pre := #[recv]) (vs := #[.int .i64 (gA d (b) : Nat), .int .i64 (gA d (a) : Nat)]) (c := .int .i64 (c (gA d (b)) (gA d (a)))) rfl (fun args w => rfl) (fun w hB => (HC.out.call _ ((HS.out.dr).later hB).below _ _ (((HS.out.dr).later hB).ok _ (by omega)) (((HS.out.dr).later hB).ok _ (by omega)))) rfl (by kernel_rfl) True.intro (Ev.at (i := 0) (by kernel_rfl) (by kernel_rfl) rfl) (ev2 (Ev.at (i := 4) (by kernel_rfl) (by kernel_rfl) rfl) (Ev.at (i := 8) (by kernel_rfl) (by kernel_rfl) rfl))
    · exact v_bin (u := .int .i64 (c (gA d (b)) (gA d (a)))) (v := .int .i64 (0)) (c := .bool (decide ((c (gA d (b)) (gA d (a))) < (0)))) rfl (fun w => (by go_simp)) rfl (by kernel_rfl) True.intro (Ev.at (i := 9) (by kernel_rfl) (by kernel_rfl) rfl) Ev.const
  intro _ vs wu hBu hf
  have e0 : vs 0 = .func (.func 59) #[recv] #[] := hf 0 (by decide)
  have e1 : vs 1 = .slice (some ⟨blk, 0, none⟩) n cap := hf 1 (by decide)
  have e2 : vs 2 = .int .i64 ((b : Nat)) := hf 2 (by decide)
  have e3 : vs 3 = .pointer (some ⟨blk, b, none⟩) := hf 3 (by decide)
  have e4 : vs 4 = .int .i64 (gA d (b) : Nat) := hf 4 (by decide)
  have e5 : vs 5 = .slice (some ⟨blk, 0, none⟩) n cap := hf 5 (by decide)
  have e6 : vs 6 = .int .i64 ((a : Nat)) := hf 6 (by decide)
  have e7 : vs 7 = .pointer (some ⟨blk, a, none⟩) := hf 7 (by decide)
  have e8 : vs 8 = .int .i64 (gA d (a) : Nat) := hf 8 (by decide)
  have e9 : vs 9 = .int .i64 (c (gA d (b)) (gA d (a))) := hf 9 (by decide)
  have e10 : vs 10 = .bool (decide ((c (gA d (b)) (gA d (a))) < (0))) := hf 10 (by decide)
  obtain ⟨z, hz⟩ : ∃ z : Bool, (decide ((c (gA d (b)) (gA d (a))) < (0))) = z := ⟨_, rfl⟩
  rw [hz] at e10
  have HZ := hid hz
  clear hz
  simp only [fill, List.setIfInBounds_toArray, List.set_cons_zero, List.set_cons_succ, e0, e1, e2, e3, e4, e5, e6, e7, e8, e9, e10]
  clear e0 e1 e2 e3 e4 e5 e6 e7 e8 e9 e10
  have HP := hid (H.out.later hBu)
  clear hBu hf H HS HZ
  cases z
  · go_wp2
    go_ret2
    exact ⟨a, b, s, rfl, .inl ⟨rfl, rfl⟩, by omega, HP.out⟩
  · have cK := HP.out.cell
    have fK := HP.out.free
    have HQ := hid (HP.out.bump (s + 1))
    obtain ⟨s1, hs1⟩ : ∃ s1, s1 = s + 1 := ⟨_, rfl⟩
    rw [← hs1] at HQ
    have es : (s : Int) + 1 = (s1 : Int) := by omega
    have HS1 := hid hs1
    clear hs1
    go_wp2
    go_ret2
    exact ⟨b, a, s1, rfl, .inr ⟨rfl, rfl⟩, by have := HS1.out; omega, by first | exact HQ.out | exact HQ.out.later (below_dr _)⟩
set_option maxHeartbeats 800000 in
theorem sort_median (recv : Value) (c : Nat → Nat → Int) (HC : Hid (CmpOK w0 recv ok c)) (n cap x y z k s : Nat) (d : Array Nat) (hn : d.size = n) (hx : x < n) (hy : y < n) (hz : z < n) (hsz : n < 1000000000) (hs : s < 990) (W0 : World) (h : Piv w0 blk ok d k s W0) :
    Calls Tryd.prog 100 #[.slice (some ⟨blk, 0, none⟩) n cap, .int .i64 (x : Nat), .int .i64 (y : Nat), .int .i64 (z : Nat), .pointer (some ⟨k, 0, none⟩), .func (.func 59) #[recv] #[]] W0 fun e w' => ∃ r t : Nat, e = .returned (.int .i64 (r : Nat)) ∧ (r = x ∨ r = y ∨ r = z) ∧ t ≤ s + 3 ∧ Piv w0 blk ok d k t w' := by
  have H := hid h
  clear h
  go_enter Tryd.func100, Tryd.ntmps100
  go_upto_region 1 with (fail)
  have h1 := sort_order2 recv c HC n cap x y k s d hn hx hy hsz (by omega) W0 H.out
  go_upto_region 2 with (go_at_call 101; refine h1.mono ?_; rintro e w1 ⟨a1, b1, t1, rfl, g1, l1, hp1⟩; have HP1 := hid hp1; have G1 := hid g1; clear hp1 g1)
  clear h1 H
  have h2 := sort_order2 recv c HC n cap b1 z k t1 d hn (by have := G1.out; omega) hz hsz (by omega) w1 HP1.out
  go_upto_region 3 with (go_at_call 101; refine h2.mono ?_; rintro e w2 ⟨a2, b2, t2, rfl, g2, l2, hp2⟩; have HP2 := hid hp2; have G2 := hid g2; clear hp2 g2)
  clear h2 HP1
  have h3 := sort_order2 recv c HC n cap a1 a2 k t2 d hn (by have := G1.out; omega) (by have := G1.out; have := G2.out; omega) hsz (by omega) w2 HP2.out
  go_upto_region 4 with (go_at_call 101; refine h3.mono ?_; rintro e w3 ⟨a3, b3, t3, rfl, g3, l3, hp3⟩; have HP3 := hid hp3; have G3 := hid g3; clear hp3 g3)
  clear h3 HP2
  go_wp2
  go_ret
  exact ⟨b3, t3, rfl, by have := G1.out; have := G2.out; have := G3.out; omega, by omega, HP3.out⟩
set_option maxHeartbeats 800000 in
theorem sort_adjacent (recv : Value) (c : Nat → Nat → Int) (HC : Hid (CmpOK w0 recv ok c)) (n cap x k s : Nat) (d : Array Nat) (hn : d.size = n) (hx1 : 1 ≤ x) (hx : x + 1 < n) (hsz : n < 1000000000) (hs : s < 990) (W0 : World) (h : Piv w0 blk ok d k s W0) :
    Calls Tryd.prog 99 #[.slice (some ⟨blk, 0, none⟩) n cap, .int .i64 (x : Nat), .pointer (some ⟨k, 0, none⟩), .func (.func 59) #[recv] #[]] W0 fun e w' => ∃ r t : Nat, e = .returned (.int .i64 (r : Nat)) ∧ x ≤ r + 1 ∧ r ≤ x + 1 ∧ t ≤ s + 3 ∧ Piv w0 blk ok d k t w' := by
  obtain ⟨y, hy⟩ : ∃ y, y = x - 1 := ⟨_, rfl⟩
  obtain ⟨z, hz⟩ : ∃ z, z = x + 1 := ⟨_, rfl⟩
  have h1 := sort_median recv c HC n cap y x z k s d hn (by omega) (by omega) (by omega) hsz hs W0 h
  have e1 : (x : Int) - 1 = (y : Int) := by omega
  have e2 : (x : Int) + 1 = (z : Int) := by omega
  have HYZ := hid (And.intro hy hz)
  clear h hy hz
  go_enter Tryd.func99, Tryd.ntmps99
  go_wp2_with (go_at_call 100; refine h1.mono ?_; rintro e w1 ⟨r, t, rfl, g, l, hp⟩; have HP := hid hp; have G := hid g; clear hp g)
  go_ret
  exact ⟨r, t, rfl, by have := G.out; have := HYZ.out; omega, by have := G.out; have := HYZ.out; omega, l, HP.out⟩
end Go.Proofs.YtfnmekmgjcjglaaDoor.V
namespace Go.Proofs.YtfnmekmgjcjglaaDoor.V
set_option linter.unusedVariables false
set_option linter.unusedSimpArgs false
set_option maxRecDepth 100000
open Go Go.RowKit Go.Maps Wire
set_option maxRecDepth 100000
set_option linter.unusedVariables false
set_option linter.unusedSimpArgs false
open Go.Sort (swp PermIn SortedIn SWO)
variable {w0 : World} {blk : Nat} {ok : Nat → Prop} {d : Array Nat} {W W' : World}
theorem Srt.box (h : Srt w0 blk ok d W) : Piv w0 blk ok d W.heap.size 0 (W.alloc (.cells #[.int .i64 0] 3 (0, 0))) :=
  ⟨h.later (below_al _ _), heap_alloc_last' _ _, h.below.size, Nat.ne_of_lt h.lt⟩
set_option maxHeartbeats 1600000 in
theorem sort_pivot (recv : Value) (c : Nat → Nat → Int) (HC : Hid (CmpOK w0 recv ok c)) (n cap a b : Nat) (d : Array Nat) (hn : d.size = n) (hab : a + 12 < b) (hbs : b ≤ n) (hsz : n < 1000000000) (W0 : World) (h : Srt w0 blk ok d W0) :
    Calls Tryd.prog 89 #[.slice (some ⟨blk, 0, none⟩) n cap, .int .i64 (a : Nat), .int .i64 (b : Nat), .func (.func 59) #[recv] #[]] W0 fun e w' => ∃ p t : Nat, e = .returned (.tuple #[.int .i64 (p : Nat), .int .i64 (t : Nat)]) ∧ a ≤ p ∧ p < b ∧ t ≤ 2 ∧ Srt w0 blk ok d w' := by
  have HB := hid h.box
  obtain ⟨L, hL⟩ : ∃ L, L = b - a := ⟨_, rfl⟩
  obtain ⟨q, hq⟩ : ∃ q, q = L / 4 := ⟨_, rfl⟩
  have e1 : (b : Int) - (a : Int) = (L : Int) := by omega
  have e2 : (L : Int).tdiv 4 = (q : Int) := by rw [hq]; rfl
  have e3 : (L : Int) / 4 = (q : Int) := by omega
  have hL8 : (8 : Int) ≤ (L : Int) := by omega
  have hLq : a + q * 4 ≤ b := by omega
  have hq3 : 3 ≤ q := by omega
  obtain ⟨u0, hu0⟩ : ∃ u, u = a + q := ⟨_, rfl⟩
  obtain ⟨m0, hm0⟩ : ∃ u, u = a + q * 2 := ⟨_, rfl⟩
  obtain ⟨v0, hv0⟩ : ∃ u, u = a + q * 3 := ⟨_, rfl⟩
  have e4 : (a : Int) + (q : Int) * 1 = (u0 : Int) := by omega
  have e5 : (a : Int) + (q : Int) * 2 = (m0 : Int) := by omega
  have e6 : (a : Int) + (q : Int) * 3 = (v0 : Int) := by omega
  have e7 : (a : Int) + (q : Int) = (u0 : Int) := by omega
  have hu1 : a + 1 ≤ u0 := by omega
  have hu2 : u0 + 1 < b := by omega
  have hm1 : a + 1 ≤ m0 := by omega
  have hm2 : m0 + 1 < b := by omega
  have hv1 : a + 1 ≤ v0 := by omega
  have hv2 : v0 + 1 < b := by omega
  clear hu0 hm0 hv0 h hL hq
  go_enter Tryd.func89, Tryd.ntmps89
  go_upto_region 7 with (fail)
  by_cases h50 : 50 ≤ L
  · have k50 : (50 : Int) ≤ (L : Int) := by omega
    have h1 := sort_adjacent recv c HC n cap u0 W0.heap.size 0 d hn (by omega) (by omega) hsz (by omega) _ HB.out
    go_upto_region 9 with (go_at_call 99; refine h1.mono ?_; rintro e w1 ⟨x1, t1, rfl, g1, g1', l1, hp1⟩; have HP1 := hid hp1; clear hp1)
    clear h1 HB
    have h2 := sort_adjacent recv c HC n cap m0 W0.heap.size t1 d hn (by omega) (by omega) hsz (by omega) w1 HP1.out
    go_upto_region 10 with (go_at_call 99; refine h2.mono ?_; rintro e w2 ⟨x2, t2, rfl, g2, g2', l2, hp2⟩; have HP2 := hid hp2; clear hp2)
    clear h2 HP1
    have h3 := sort_adjacent recv c HC n cap v0 W0.heap.size t2 d hn (by omega) (by omega) hsz (by omega) w2 HP2.out
    go_upto_region 11 with (go_at_call 99; refine h3.mono ?_; rintro e w3 ⟨x3, t3, rfl, g3, g3', l3, hp3⟩; have HP3 := hid hp3; clear hp3)
    clear h3 HP2
    have h4 := sort_median recv c HC n cap x1 x2 x3 W0.heap.size t3 d hn (by omega) (by omega) (by omega) hsz (by omega) w3 HP3.out
    go_upto_region 12 with (go_at_call 100; refine h4.mono ?_; rintro e w4 ⟨x4, t4, rfl, g4, l4, hp4⟩; have HP4 := hid hp4; have G4 := hid g4; clear hp4 g4)
    clear h4 HP3
    have cK := HP4.out.cell
    by_cases z0 : t4 = 0
    · subst z0
      go_wp2
      go_ret2
      exact ⟨x4, 1, rfl, by have := G4.out; omega, by have := G4.out; omega, by omega, HP4.out.srt⟩
    · by_cases z1 : t4 = 12
      · subst z1
        go_wp2
        go_ret2
        exact ⟨x4, 2, rfl, by have := G4.out; omega, by have := G4.out; omega, by omega, HP4.out.srt⟩
      · have n0 : ((t4 : Int) == 0) = false := by simp; omega
        have n1 : ((t4 : Int) == 12) = false := by simp; omega
        go_wp2
        go_ret2
        exact ⟨x4, 0, rfl, by have := G4.out; omega, by have := G4.out; omega, by omega, HP4.out.srt⟩
  · have k50 : ¬ (50 : Int) ≤ (L : Int) := by omega
    go_upto_region 11 with (fail)
    have h4 := sort_median recv c HC n cap u0 m0 v0 W0.heap.size 0 d hn (by omega) (by omega) (by omega) hsz (by omega) _ HB.out
    go_upto_region 12 with (go_at_call 100; refine h4.mono ?_; rintro e w4 ⟨x4, t4, rfl, g4, l4, hp4⟩; have HP4 := hid hp4; have G4 := hid g4; clear hp4 g4)
    clear h4 HB
    have cK := HP4.out.cell
    by_cases z0 : t4 = 0
    · subst z0
      go_wp2
      go_ret2
      exact ⟨x4, 1, rfl, by have := G4.out; omega, by have := G4.out; omega, by omega, HP4.out.srt⟩
    · by_cases z1 : t4 = 12
      · subst z1
        go_wp2
        go_ret2
        exact ⟨x4, 2, rfl, by have := G4.out; omega, by have := G4.out; omega, by omega, HP4.out.srt⟩
      · have n0 : ((t4 : Int) == 0) = false := by simp; omega
        have n1 : ((t4 : Int) == 12) = false := by simp; omega
        go_wp2
        go_ret2
        exact ⟨x4, 0, rfl, by have := G4.out; omega, by have := G4.out; omega, by omega, HP4.out.srt⟩
end Go.Proofs.YtfnmekmgjcjglaaDoor.V
namespace Go.Proofs.YtfnmekmgjcjglaaDoor.V
set_option linter.unusedVariables false
set_option linter.unusedSimpArgs false
set_option maxRecDepth 100000
open Go Go.RowKit Go.Maps Wire
set_option maxRecDepth 100000
set_option linter.unusedVariables false
set_option linter.unusedSimpArgs false
open Go.Sort (swp PermIn SortedIn SWO)
variable {w0 : World} {blk : Nat} {ok : Nat → Prop} {d : Array Nat} {W W' : World}
/-- A row and the box of the numbers drawn. -/
structure Rnd (w0 : World) (blk : Nat) (ok : Nat → Prop) (d : Array Nat) (k r : Nat) (W : World) : Prop where
  srt : Srt w0 blk ok d W
  box : W.heap[k]? = some (.cells #[.int .u64 (r : Nat)] 147 (0, 0))
  hk : w0.heap.size ≤ k
  ne : blk ≠ k
  lt : r < 18446744073709551616
theorem Rnd.later {k s : Nat} (h : Rnd w0 blk ok d k s W) (hB : Below W.heap.size W W') : Rnd w0 blk ok d k s W' := ⟨h.srt.later hB, heap_keep h.box hB, h.hk, h.ne, h.lt⟩
theorem Rnd.cell {k s : Nat} (h : Rnd w0 blk ok d k s W) : W.cell? ⟨k, 0, none⟩ = some (.int .u64 (s : Nat)) := by rw [cell_of_heap h.box]; rfl
theorem Rnd.free {k s : Nat} (h : Rnd w0 blk ok d k s W) : W.frozen? ⟨k, 0, none⟩ = false := freeV h.box 0
theorem Rnd.put {k s : Nat} (h : Rnd w0 blk ok d k s W) (t : Nat) (ht : t < 18446744073709551616) : Rnd w0 blk ok d k t (W.setCell ⟨k, 0, none⟩ (.int .u64 (t : Nat))) :=
  ⟨h.srt.away h.hk h.ne _, by have := heap_s (k := 0) (v := .int .u64 (t : Nat)) h.box; simpa using this, h.hk, h.ne, ht⟩
theorem Rnd.swap {k s : Nat} (h : Rnd w0 blk ok d k s W) {i j : Nat} (hi : i < d.size) (hj : j < d.size) :
    Rnd w0 blk ok (swp d i j) k s ((W.setCell ⟨blk, i, none⟩ (.int .i64 (gA d j : Nat))).setCell ⟨blk, j, none⟩ (.int .i64 (gA d i : Nat))) :=
  ⟨h.srt.swap hi hj, heap_n (heap_n h.box h.ne) h.ne, h.hk, h.ne, h.lt⟩
theorem Srt.rnd (h : Srt w0 blk ok d W) (L : Nat) (hL : L < 18446744073709551616) : Rnd w0 blk ok d W.heap.size L (W.alloc (.cells #[.int .u64 (L : Nat)] 147 (0, 0))) :=
  ⟨h.later (below_al _ _), heap_alloc_last' _ _, h.below.size, Nat.ne_of_lt h.lt, hL⟩
theorem rnd_next {k s : Nat} (h : Rnd w0 blk ok d k s W) : ∃ t : Nat, t < 18446744073709551616 ∧ Calls Tryd.prog 98 #[.pointer (some ⟨k, 0, none⟩)] W fun e w' => e = .returned (.int .u64 (t : Nat)) ∧ Rnd w0 blk ok d k t w' := by
  refine ⟨Go.Sort.xorNextN s, Go.Sort.xorNextN_lt s h.lt, ?_⟩
  have h1 := Go.Proofs.AnyF.xorshift_Next xorI k 0 s h.lt W h.cell h.free
  refine h1.mono ?_
  rintro e w' ⟨rfl, rfl⟩
  exact ⟨rfl, (h.put _ (Go.Sort.xorNextN_lt s h.lt)).later (below_drewN _ _ 3)⟩
theorem pow_next (L : Nat) (h8 : 8 ≤ L) (hL : L < 1000000000) : ∃ M : Nat, 1 ≤ M ∧ M ≤ 2 * L ∧ ∀ w, Calls Tryd.prog 97 #[.int .i64 (L : Nat)] w fun e w' => e = .returned (.int .u64 (M : Nat)) ∧ w' = w := by
  refine ⟨1 <<< Go.Sort.bitsLen L, ?_, ?_, fun w => Go.Proofs.AnyF.nextPowerOfTwo powI L (by omega) w⟩
  · rw [Nat.one_shiftLeft]; exact Nat.two_pow_pos _
  · rw [Nat.one_shiftLeft]; exact Go.Sort.two_pow_bitsLen_le (by omega)
set_option maxHeartbeats 4000000 in
theorem sort_break (n cap a b : Nat) (d0 : Array Nat) (fv : Value) (hn : d0.size = n) (hab : a + 12 < b) (hbs : b ≤ n) (hsz : n < 1000000000) (W0 : World) (h : Srt w0 blk ok d0 W0) :
    Calls Tryd.prog 88 #[.slice (some ⟨blk, 0, none⟩) n cap, .int .i64 (a : Nat), .int .i64 (b : Nat), fv] W0 fun e w' => e = .returned (.tuple #[]) ∧ ∃ d', PermIn a b d0 d' ∧ Srt w0 blk ok d' w' := by
  obtain ⟨L, hL⟩ : ∃ L, L = b - a := ⟨_, rfl⟩
  obtain ⟨p, hp⟩ : ∃ p, p = L / 4 := ⟨_, rfl⟩
  obtain ⟨q, hq⟩ : ∃ q, q = a + p * 2 - 1 := ⟨_, rfl⟩
  obtain ⟨m, hm⟩ : ∃ m, m = a + p * 2 := ⟨_, rfl⟩
  have HR := hid (h.rnd L (by omega))
  obtain ⟨M, hM1, hM2, hNP⟩ := pow_next L (by omega) (by omega)
  have e1 : (b : Int) - (a : Int) = (L : Int) := by omega
  have e2 : (L : Int).tdiv 4 = (p : Int) := by rw [hp]; rfl
  have e3 : (L : Int) / 4 = (p : Int) := by omega
  have e4 : (a : Int) + (p : Int) * 2 = (m : Int) := by omega
  have e5 : (m : Int) - 1 = (q : Int) := by omega
  have hL8 : (8 : Int) ≤ (L : Int) := by omega
  have hqa : a + 1 ≤ q := by omega
  have hqm : m = q + 1 := by omega
  have hqb : q + 3 < b := by omega
  have hLa : a + L = b := by omega
  have HQM := hid hqm
  clear hL hp hq hm h hqm
  go_enter Tryd.func88, Tryd.ntmps88
  go_wp2_with (go_at_call 97; refine (hNP _).mono ?_; rintro e w' ⟨rfl, rfl⟩)
  go_loopw [11] (fun x wr => ∃ (i r : Nat) (d : Array Nat), x = .int .i64 (i : Nat) ∧ q ≤ i ∧ i ≤ q + 3 ∧ d.size = n ∧ Hid (PermIn a b d0 d) ∧ Rnd w0 blk ok d W0.heap.size r wr) (fun x _ => q + 4 - (intOf x).toNat)
  case atStart => exact ⟨q, L, d0, by go_num, by omega, by omega, hn, Go.Sort.permIn_refl _ _ _, HR.out⟩
  case round =>
    obtain ⟨i, r, d, rfl, hi1, hi2, hds, hp, hs⟩ := hrel
    have HS := hid hs
    clear hs HR
    by_cases h3 : i < q + 3
    · have k7 : decide ((i : Int) ≤ (m : Int) + 1) = true := decide_eq_true (by have := HQM.out; omega)
      obtain ⟨t, htl, hnx⟩ := rnd_next HS.out
      obtain ⟨O, hO⟩ : ∃ O : Nat, O = t &&& (M - 1) := ⟨_, rfl⟩
      have lO : O ≤ M - 1 := by rw [hO]; exact Nat.and_le_right
      have eM : (M : Int) - 1 = ((M - 1 : Nat) : Int) := by omega
      have eAnd : bits .and .u64 (t : Int) ((M : Int) - 1) = (O : Int) := by rw [eM, bits_and_u64_nat _ _ htl (by omega), hO]
      clear hO eM
      by_cases hLO : L ≤ O
      · have k8 : decide ((L : Int) ≤ (O : Int)) = true := decide_eq_true (by omega)
        go_upto_region 10 with (go_at_call 98; refine hnx.mono ?_; rintro e w2 ⟨rfl, ht⟩; have HT := hid ht; clear ht)
        clear hnx
        obtain ⟨j, hj⟩ : ∃ j, j = a + (O - L) := ⟨_, rfl⟩
        have e8 : (a : Int) + ((O : Int) - (L : Int)) = (j : Int) := by omega
        have hja : a ≤ j := by omega
        have hjb : j < b := by omega
        have c0 := HT.out.srt.cell (i := i) (by omega)
        have c1 := HT.out.srt.cell (i := j) (by omega)
        have f0 := HT.out.srt.free i
        have f1 := HT.out.srt.free j
        have q0 : (i : Int) < (n : Int) := by omega
        have q1 : (j : Int) < (n : Int) := by omega
        have HX := hid (HT.out.swap (i := i) (j := j) (by omega) (by omega))
        have HJ := hid hj
        clear hj
        rcases (show i = j ∨ i ≠ j by omega) with hne | hne
        · obtain rfl := hne
          go_region
          refine gen_exit (fun W => Rnd w0 blk ok (swp d i i) W0.heap.size t W) (by first | exact HX.out.later (below_dr _) | exact HX.out) ?_
          intro W5 hs5
          have HS5 := hid hs5
          clear hs5 c0 c1 f0 f1 HX
          go_wp2
          go_roundw
          case rel => exact ⟨i + 1, t, swp d i i, by go_num, by omega, by omega, by rw [Go.Sort.size_swp]; exact hds, hid (Go.Sort.permIn_trans _ _ _ _ _ hp.out (Go.Sort.swp_permIn _ _ _ _ _ (by omega) (by omega) (by omega) (by omega) (by omega))), HS5.out⟩
          case measure => simp [intOf]; omega
        · skip
          go_region
          refine gen_exit (fun W => Rnd w0 blk ok (swp d i j) W0.heap.size t W) (by first | exact HX.out.later (below_dr _) | exact HX.out) ?_
          intro W5 hs5
          have HS5 := hid hs5
          clear hs5 c0 c1 f0 f1 HX
          go_wp2
          go_roundw
          case rel => exact ⟨i + 1, t, swp d i j, by go_num, by omega, by omega, by rw [Go.Sort.size_swp]; exact hds, hid (Go.Sort.permIn_trans _ _ _ _ _ hp.out (Go.Sort.swp_permIn _ _ _ _ _ (by omega) (by omega) (by omega) (by omega) (by omega))), HS5.out⟩
          case measure => simp [intOf]; omega
      · have k8 : decide ((L : Int) ≤ (O : Int)) = false := decide_eq_false (by omega)
        go_upto_region 10 with (go_at_call 98; refine hnx.mono ?_; rintro e w2 ⟨rfl, ht⟩; have HT := hid ht; clear ht)
        clear hnx
        obtain ⟨j, hj⟩ : ∃ j, j = a + O := ⟨_, rfl⟩
        have e8 : (a : Int) + (O : Int) = (j : Int) := by omega
        have hja : a ≤ j := by omega
        have hjb : j < b := by omega
        have c0 := HT.out.srt.cell (i := i) (by omega)
        have c1 := HT.out.srt.cell (i := j) (by omega)
        have f0 := HT.out.srt.free i
        have f1 := HT.out.srt.free j
        have q0 : (i : Int) < (n : Int) := by omega
        have q1 : (j : Int) < (n : Int) := by omega
        have HX := hid (HT.out.swap (i := i) (j := j) (by omega) (by omega))
        have HJ := hid hj
        clear hj
        rcases (show i = j ∨ i ≠ j by omega) with hne | hne
        · obtain rfl := hne
          go_region
          refine gen_exit (fun W => Rnd w0 blk ok (swp d i i) W0.heap.size t W) (by first | exact HX.out.later (below_dr _) | exact HX.out) ?_
          intro W5 hs5
          have HS5 := hid hs5
          clear hs5 c0 c1 f0 f1 HX
          go_wp2
          go_roundw
          case rel => exact ⟨i + 1, t, swp d i i, by go_num, by omega, by omega, by rw [Go.Sort.size_swp]; exact hds, hid (Go.Sort.permIn_trans _ _ _ _ _ hp.out (Go.Sort.swp_permIn _ _ _ _ _ (by omega) (by omega) (by omega) (by omega) (by omega))), HS5.out⟩
          case measure => simp [intOf]; omega
        · skip
          go_region
          refine gen_exit (fun W => Rnd w0 blk ok (swp d i j) W0.heap.size t W) (by first | exact HX.out.later (below_dr _) | exact HX.out) ?_
          intro W5 hs5
          have HS5 := hid hs5
          clear hs5 c0 c1 f0 f1 HX
          go_wp2
          go_roundw
          case rel => exact ⟨i + 1, t, swp d i j, by go_num, by omega, by omega, by rw [Go.Sort.size_swp]; exact hds, hid (Go.Sort.permIn_trans _ _ _ _ _ hp.out (Go.Sort.swp_permIn _ _ _ _ _ (by omega) (by omega) (by omega) (by omega) (by omega))), HS5.out⟩
          case measure => simp [intOf]; omega
    · have k7 : decide ((i : Int) ≤ (m : Int) + 1) = false := decide_eq_false (by have := HQM.out; omega)
      go_wp2
      go_end0
      exact ⟨rfl, d, hp.out, HS.out.srt⟩
end Go.Proofs.YtfnmekmgjcjglaaDoor.V
