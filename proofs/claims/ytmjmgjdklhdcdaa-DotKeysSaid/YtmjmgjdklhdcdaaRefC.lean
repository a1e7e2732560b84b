/-
  The document's answer: a set with one more dot.
-/
import Derived.Test.YtmjmgjdklhdcdaaRefB
import Derived.Laws.AppendOwnNone
namespace Go.Proofs.Ytmjmgjdklhdcdaa
set_option linter.unusedVariables false
set_option linter.unusedSimpArgs false
open Go Go.RowKit Go.Maps

theorem split_at (l : List Dot) (d : Dot) (k : Nat) (h : ∀ x ∈ l.take k, ltB x d = true) (h' : k = l.length ∨ ∃ x, l[k]? = some x ∧ ltB x d = false) : l.takeWhile (ltB · d) = l.take k ∧ l.dropWhile (ltB · d) = l.drop k := by
  have e := List.take_append_drop k l
  have e1 : l.takeWhile (ltB · d) = l.take k ++ (l.drop k).takeWhile (ltB · d) := by
    conv => lhs; rw [← e]
    exact List.takeWhile_append_of_pos h
  have e2 : l.dropWhile (ltB · d) = (l.drop k).dropWhile (ltB · d) := by
    conv => lhs; rw [← e]
    exact List.dropWhile_append_of_pos h
  rw [e1, e2]
  rcases h' with rfl | ⟨x, hx, hf⟩
  · simp
  · have hk : k < l.length := (List.getElem?_eq_some_iff.1 hx).1
    rw [List.drop_eq_getElem_cons hk, (List.getElem?_eq_some_iff.1 hx).2]
    simp [hf]

theorem ins_at (l : List Dot) (d : Dot) (k : Nat) (hd : d ∉ l) (h : ∀ x ∈ l.take k, ltB x d = true) (h' : k = l.length ∨ ∃ x, l[k]? = some x ∧ ltB x d = false) : ins l d = l.take k ++ [d] ++ l.drop k := by
  obtain ⟨e1, e2⟩ := split_at l d k h h'
  unfold ins
  rw [if_neg hd, e1, e2]
  simp

/-- What 'with' leaves. -/
def WithPost (w : World) (v : Value) (l : List Dot) (d : Dot) (e : Ending) (w' : World) : Prop :=
  Below w.heap.size w w' ∧ ((d ∈ l ∧ e = .returned v) ∨ (d ∉ l ∧ ∃ u, e = .returned u ∧ w'.ownsRow w.heap.size 24 2 u (ins l d).length (flat (ins l d))))

/-- The first k of a row all come before d. -/
def AllLt (l : List Dot) (d : Dot) (k : Nat) : Prop := ∀ x ∈ l.take k, ltB x d = true
theorem AllLt.step {l : List Dot} {d x : Dot} {k : Nat} (h : AllLt l d k) (hx : l[k]? = some x) (hl : ltB x d = true) : AllLt l d (k + 1) := by
  have hk : k < l.length := (List.getElem?_eq_some_iff.1 hx).1
  intro y hy
  rw [List.take_succ_eq_append_getElem hk, (List.getElem?_eq_some_iff.1 hx).2] at hy
  rcases List.mem_append.1 hy with hy | hy
  · exact h y hy
  · simp at hy; subst hy; exact hl
theorem flat_take_succ {l : List Dot} {k r n : Nat} (hx : l[k]? = some (r, n)) : flat (l.take (k + 1)) = flat (l.take k) ++ [.int .u8 (r : Int), .int .u32 (n : Int)] := by
  have hk : k < l.length := (List.getElem?_eq_some_iff.1 hx).1
  rw [List.take_succ_eq_append_getElem hk, (List.getElem?_eq_some_iff.1 hx).2, flat_snoc]

theorem add_add (ad : Addr) (x y : Nat) : (ad.add x).add y = ad.add (x + y) := by
  unfold Addr.add
  by_cases hx : x = 0
  · subst hx; simp
  · by_cases hy : y = 0
    · subst hy; simp [hx]
    · rw [if_neg hy, if_neg hx, if_neg (by omega)]; simp [Nat.add_assoc]

theorem rest_cells {w : World} {ad : Addr} {len cap : Nat} {l : List Dot} (h : IsDots w (some ad) len cap l) (k : Nat) : ∀ j u, (flat (l.drop k))[j]? = some u → w.cell? ((ad.add (k * 2)).add j) = some u := by
  intro j u hu
  have h5 := h.2.2.2.2
  have hj : j < (flat (l.drop k)).length := (List.getElem?_eq_some_iff.1 hu).1
  rw [flat_length] at hj
  have hi : j / 2 < (l.drop k).length := by omega
  have hx : (l.drop k)[j / 2]? = some (l.drop k)[j / 2] := List.getElem?_eq_getElem hi
  have hx' : l[k + j / 2]? = some (l.drop k)[j / 2] := by rw [← hx, List.getElem?_drop]
  obtain ⟨g0, g1⟩ := flat_get _ _ _ hx
  obtain ⟨c0, c1⟩ := h5 _ _ hx'
  rw [add_add]
  rcases Nat.mod_two_eq_zero_or_one j with hm | hm
  · rw [show j / 2 * 2 = j by omega] at g0
    rw [show (k + j / 2) * 2 = k * 2 + j by omega] at c0
    rw [c0, ← hu, g0]
  · rw [show j / 2 * 2 + 1 = j by omega] at g1
    rw [add_add, show (k + j / 2) * 2 + 1 = k * 2 + j by omega] at c1
    rw [c1, ← hu, g1]

theorem with_end {W : World} {B n : Nat} {v : Value} {xs : List Value} {c : List Dot} (h : W.ownsRow (B + 1) 24 2 v n xs) (hn : c.length = n) (hx : flat c = xs) : W.ownsRow B 24 2 v c.length (flat c) := by
  rw [hn, hx]; exact ownsRow_base h (Nat.le_succ _)

theorem nil_cells (w : World) (ad : Addr) : ∀ (j : Nat) (u : Value), ([] : List Value)[j]? = some u → w.cell? (ad.add j) = some u := by simp
theorem nil_one : ∀ u ∈ ([] : List Value), u.oneCell' = true := by simp
theorem one_two (a b : Int) : ∀ u ∈ [Value.int .u8 a, Value.int .u32 b], u.oneCell' = true := by simp [Value.oneCell']

theorem flat_one (l : List Dot) : ∀ u ∈ flat l, u.oneCell' = true := by
  intro u hu
  simp only [flat, List.mem_flatMap] at hu
  obtain ⟨d, _, hd⟩ := hu
  simp [Dot.enc] at hd
  rcases hd with rfl | rfl <;> rfl

set_option maxHeartbeats 4000000 in
set_option maxRecDepth 100000 in
theorem ref_with (a : Option Addr) (len cap : Nat) (l : List Dot) (d : Dot) (hd : d.ok) (w : World) (hI : IsDots w a len cap l) (hl : len ≤ 1000000) :
    Calls Try.prog 35 #[.slice a len cap, .agg #[.int .u8 (d.1 : Int), .int .u32 (d.2 : Int)]] w (WithPost w (.slice a len cap) l d) := by
  obtain ⟨r, m⟩ := d
  have hcap : len ≤ 9223372036854775807 := by omega
  have hcap2 : cap ≤ 9223372036854775807 := by have := hI.2.2.1; unfold maxLen at this; omega
  have hlc : len ≤ cap := hI.2.1
  have hlen := hI.1
  obtain ⟨W1, hW1⟩ : ∃ W1, W1 = w.alloc (.cells #[.int .u8 (r : Int), .int .u32 (m : Int)] 24) := ⟨_, rfl⟩
  have hb1 : Below w.heap.size w W1 := by rw [hW1]; exact (Below.refl _ _).alloc (Nat.le_refl _) _
  have hs1 : W1.heap.size = w.heap.size + 1 := by rw [hW1]; simp
  have hx0 : W1.cell? ⟨w.heap.size, 0, none⟩ = some (.int .u8 (r : Int)) := by rw [hW1]; simp
  have hx1 : W1.cell? ⟨w.heap.size, 1, none⟩ = some (.int .u32 (m : Int)) := by rw [hW1]; simp
  have hin := ref_In a len cap l (r, m) W1 (hI.keep hb1)
  dsimp only at hin
  rw [hW1] at hin
  have HI := hid hI
  have HW := hid (And.intro hW1 (And.intro hb1 (And.intro hs1 (And.intro hx0 hx1))))
  have HL := hid hlen
  clear hI hW1 hb1 hs1 hx0 hx1 hlen
  by_cases hm : (r, m) ∈ l
  · rw [show inB l (r, m) = true by simp [inB, hm]] at hin
    have HM := hid hm
    clear hm
    go_enter Try.func35, Try.ntmps35
    go_wp2_with (go_at_call 39; refine hin.mono ?_; rintro e w2 ⟨rfl, hB2⟩)
    go_ret
    have h1 := HW.out.2.1
    rw [HW.out.1] at h1
    exact ⟨h1.trans (hB2.mono (by simp)), .inl ⟨HM.out, rfl⟩⟩
  · rw [show inB l (r, m) = false by simp [inB, hm]] at hin
    have HM := hid hm
    clear hm
    obtain ⟨i0, hi, hz0, hz1, hz2⟩ := info_parts infoDot
    go_enter Try.func35, Try.ntmps35
    go_wp2_with (go_at_call 39; refine hin.mono ?_; rintro e w2 ⟨rfl, hB2⟩; rw [← HW.out.1] at hB2; have HB2 := hid hB2; clear hB2)
    go_loopw [5, 6] (fun out i wr => ∃ k : Nat, k ≤ len ∧ i = .int .i64 k ∧ wr.ownsRow (w.heap.size + 1) 24 2 out k (flat (l.take k)) ∧ AllLt l (r, m) k ∧ Below (w.heap.size + 1) W1 wr) (fun _ i _ => len - (intOf i).toNat)
    case atStart => exact ⟨0, by omega, rfl, World.ownsRow_nil _ _ _ _, by simp [AllLt], HB2.out.mono (by rw [HW.out.2.2.1]; exact Nat.le_refl _)⟩
    case round =>
      obtain ⟨k, hk, rfl, hown, hall, hB⟩ := hrel
      -- THE ROUND
      have hBw : Below w.heap.size w wr := HW.out.2.1.trans (hB.mono (Nat.le_succ _))
      have hIr := HI.out.keep hBw
      have hwr : w.heap.size + 1 ≤ wr.heap.size := by have h1 := hB.size; rw [HW.out.2.2.1] at h1; exact h1
      have hy0 : wr.cell? ⟨w.heap.size, 0, none⟩ = some (.int .u8 (r : Int)) := (hB.cell (p := ⟨w.heap.size, 0, none⟩) (Nat.lt_succ_self _)).trans HW.out.2.2.2.1
      have hy1 : wr.cell? ⟨w.heap.size, 1, none⟩ = some (.int .u32 (m : Int)) := (hB.cell (p := ⟨w.heap.size, 1, none⟩) (Nat.lt_succ_self _)).trans HW.out.2.2.2.2
      have HALL := hid hall
      by_cases hlt : k < len
      · cases a with
        | none => have := HI.out.none_len; omega
        | some ad =>
          obtain ⟨s, q, B, O, sp, hx, hs, hq, hA, hc0, hc1⟩ := hIr.at k hlt
          have hne : (s, q) ≠ (r, m) := fun e => HM.out (e ▸ List.mem_of_getElem? hx)
          have hdec : decide ((k : Int) < (len : Int)) = true := by simpa using hlt
          have fc0 : ∀ p : Later wr.heap.size wr, p.val.cell? ⟨B, O, sp⟩ = some (.int .u8 (s : Int)) := fun p => cell_keep p.ok hc0
          have fc1 : ∀ p : Later wr.heap.size wr, p.val.cell? ⟨B, O + 1, none⟩ = some (.int .u32 (q : Int)) := fun p => cell_keep p.ok hc1
          have fy0 : ∀ p : Later wr.heap.size wr, p.val.cell? ⟨w.heap.size, 0, none⟩ = some (.int .u8 (r : Int)) := fun p => cell_keep p.ok hy0
          have fy1 : ∀ p : Later wr.heap.size wr, p.val.cell? ⟨w.heap.size, 1, none⟩ = some (.int .u32 (m : Int)) := fun p => cell_keep p.ok hy1
          have HX := hid hx
          have HR := hid (And.intro hown (And.intro hB hIr))
          clear hx hown hB hIr hall hBw
          by_cases hcm : ltD (s, q) (r, m)
          · have hcmp : ∀ W, Calls Try.prog 15 #[.agg #[.int .u8 (s : Int), .int .u32 (q : Int)], .agg #[.int .u8 (r : Int), .int .u32 (m : Int)]] W fun e w' => e = .returned (.int .i64 (-1)) ∧ Below W.heap.size W w' := fun W => by
              have h := refCompare (s, q) (r, m) ⟨hs, hq⟩ hd W
              rw [cmpD_eq, if_pos hcm] at h
              exact h
            have HC := hid (show ltB (s, q) (r, m) = true from decide_eq_true hcm)
            clear hcm hne
            go_wp2
            refine wp_region_later wr.heap.size (by kernel_rfl) (by kernel_rfl) ?_
            repeat (go_big_quiet_step ((go_at_call 15; exact Calls.later_of (Nat.le_refl _) (hcmp _))))
            refine wpQuiet_nil ?_
            rintro _ ⟨p, rfl⟩
            have gc0 := fc0 p; have gc1 := fc1 p
            clear fc0 fc1 fy0 fy1 hcmp
            have hpo := p.ok
            generalize p.val = wq at gc0 gc1 hpo ⊢
            have hbq : w.heap.size + 1 ≤ wq.heap.size := Nat.le_trans hwr hpo.size
            have HO := hid (owns_below HR.out.1 hpo)
            have HBQ := hid (HR.out.2.1.trans (hpo.mono hwr))
            have hbd1 : k + 1 ≤ maxLen := by unfold maxLen; omega
            have hbd2 : (k + 1) * 8 ≤ 140737488355328 := by omega
            have hbs : ∀ o, w.heap.size + 1 ≤ (wq.alloc o).heap.size := fun o => by simp; omega
            clear hpo
            go_wp2_with (first
              | (at_builtin; refine wpList_append_own _ rfl (.tmp 24) (.tmp 29) 39 rfl (w.heap.size + 1) 24 i0 (.agg #[.int .u8 0, .int .u32 0]) 2 8 Try.underlying39 hi hz0 hz1 hz2 rfl Nat.zero_lt_two _ _ _ rfl (HO.out.alloc _) ⟨wq.heap.size, 0, none⟩ 1 1 [.int .u8 (s : Int), .int .u32 (q : Int)] rfl rfl (cells_two_new _ _ _ _) (one_two _ _) hbd1 hbd2 (hbs _) ?_; intro v1 w3 hown1 hgrow1 _; have hB3 : Below (w.heap.size + 1) wq w3 := ((Below.refl _ _).alloc hbq _).grown hgrow1 (hbs _) (fun j e => (HO.out.lt j e).1); have HO1 := hid hown1; have HB3 := hid hB3; clear hown1 hgrow1 hB3)
              | go_in)
            go_roundw
            case rel => exact ⟨k + 1, by omega, by go_num, by rw [flat_take_succ HX.out]; exact HO1.out, HALL.out.step HX.out HC.out, HBQ.out.trans HB3.out⟩
            case measure => simp [intOf]; omega
          · have hcmp : ∀ W, Calls Try.prog 15 #[.agg #[.int .u8 (s : Int), .int .u32 (q : Int)], .agg #[.int .u8 (r : Int), .int .u32 (m : Int)]] W fun e w' => e = .returned (.int .i64 1) ∧ Below W.heap.size W w' := fun W => by
              have h := refCompare (s, q) (r, m) ⟨hs, hq⟩ hd W
              rw [cmpD_eq, if_neg hcm, if_pos (ltD_or _ _ hcm hne)] at h
              exact h
            have HC := hid (show ltB (s, q) (r, m) = false from decide_eq_false hcm)
            clear hcm hne
            go_wp2
            refine wp_region_later wr.heap.size (by kernel_rfl) (by kernel_rfl) ?_
            repeat (go_big_quiet_step ((go_at_call 15; exact Calls.later_of (Nat.le_refl _) (hcmp _))))
            refine wpQuiet_nil ?_
            rintro _ ⟨p, rfl⟩
            have gy0 := fy0 p; have gy1 := fy1 p
            clear fc0 fc1 fy0 fy1 hcmp
            have hpo := p.ok
            generalize p.val = wq at gy0 gy1 hpo ⊢
            have hbq : w.heap.size + 1 ≤ wq.heap.size := Nat.le_trans hwr hpo.size
            have HO := hid (owns_below HR.out.1 hpo)
            have HBQ := hid (HR.out.2.1.trans (hpo.mono hwr))
            have hbd1 : k + 1 ≤ maxLen := by unfold maxLen; omega
            have hbd2 : (k + 1) * 8 ≤ 140737488355328 := by omega
            have hbs : ∀ o, w.heap.size + 1 ≤ (wq.alloc o).heap.size := fun o => by simp; omega
            have hnk : ¬ cap = k := by omega
            have hbd3 : k + 1 + (len - k) ≤ maxLen := by unfold maxLen; omega
            have hbd4 : (k + 1 + (len - k)) * 8 ≤ 140737488355328 := by omega
            clear hpo
            go_wp2_with (first
              | (at_builtin; refine wpList_append_own _ rfl (.tmp 33) (.tmp 35) 39 rfl (w.heap.size + 1) 24 i0 (.agg #[.int .u8 0, .int .u32 0]) 2 8 Try.underlying39 hi hz0 hz1 hz2 rfl Nat.zero_lt_two _ _ _ rfl (HO.out.alloc _) ⟨wq.heap.size, 0, none⟩ 1 1 [.int .u8 (r : Int), .int .u32 (m : Int)] rfl rfl (cells_two_new _ _ _ _) (one_two _ _) hbd1 hbd2 (hbs _) ?_; intro v1 w3 hown1 hgrow1 _; have hB3 : Below (w.heap.size + 1) wq w3 := ((Below.refl _ _).alloc hbq _).grown hgrow1 (hbs _) (fun j e => (HO.out.lt j e).1); have HO1 := hid hown1; have HB3 := hid hB3; have hb3s' := hB3.size; have hI3 := HI.out.keep (HW.out.2.1.trans ((HBQ.out.trans hB3).mono (Nat.le_succ _))); have hrc := rest_cells hI3 k; have HRC := hid hrc; clear hI3 hrc; clear hown1 hgrow1 hB3)
              | (at_builtin; refine wpList_append_own _ rfl (.tmp 37) (.tmp 40) 39 rfl (w.heap.size + 1) 24 i0 (.agg #[.int .u8 0, .int .u32 0]) 2 8 Try.underlying39 hi hz0 hz1 hz2 rfl Nat.zero_lt_two _ _ _ rfl HO1.out ⟨B, O, sp⟩ (len - k) _ (flat (l.drop k)) rfl ((flat_length _).trans (by rw [List.length_drop, HL.out])) (hA ▸ HRC.out) (flat_one _) hbd3 hbd4 (Nat.le_trans hbq hb3s') ?_; intro v2 w4 hown2 hgrow2 _; have hB4 := Below.grown (Below.refl (w.heap.size + 1) w3) hgrow2 (by omega) (fun j e => (HO1.out.lt j e).1); have HO2 := hid hown2; have HB4 := hid hB4; clear hown2 hgrow2 hB4)
              | go_in)
            go_ret
            have he := ins_at l (r, m) k HM.out HALL.out (Or.inr ⟨_, HX.out, HC.out⟩)
            have hB5 : Below (w.heap.size + 1) W1 w4 := HBQ.out.trans (HB3.out.trans HB4.out)
            refine ⟨HW.out.2.1.trans (hB5.mono (Nat.le_succ _)), .inr ⟨HM.out, v2, rfl, ?_⟩⟩
            exact with_end HO2.out (by rw [he]; simp [List.length_take, HL.out]; try omega) (by rw [he]; simp [flat_append, flat, Dot.enc])
      · obtain rfl : k = len := by omega
        have hdec : decide ((k : Int) < (k : Int)) = false := by simp
        have HR := hid (And.intro hown (And.intro hB hIr))
        have hlast := hid (show l.drop k = [] from List.drop_eq_nil_of_le (by rw [HL.out]; exact Nat.le_refl _))
        clear hown hB hIr hall hBw
        go_wp2
        refine wp_region_later wr.heap.size (by kernel_rfl) (by kernel_rfl) ?_
        repeat (go_big_quiet_step (fail))
        refine wpQuiet_nil ?_
        rintro _ ⟨p, rfl⟩
        have gy0 : p.val.cell? ⟨w.heap.size, 0, none⟩ = some (.int .u8 (r : Int)) := cell_keep p.ok hy0
        have gy1 : p.val.cell? ⟨w.heap.size, 1, none⟩ = some (.int .u32 (m : Int)) := cell_keep p.ok hy1
        have hpo := p.ok
        generalize p.val = wq at gy0 gy1 hpo ⊢
        have hbq : w.heap.size + 1 ≤ wq.heap.size := Nat.le_trans hwr hpo.size
        have HO := hid (owns_below HR.out.1 hpo)
        have HBQ := hid (HR.out.2.1.trans (hpo.mono hwr))
        have hbd1 : k + 1 ≤ maxLen := by unfold maxLen; omega
        have hbd2 : (k + 1) * 8 ≤ 140737488355328 := by omega
        have hbs : ∀ o, w.heap.size + 1 ≤ (wq.alloc o).heap.size := fun o => by simp; omega
        clear hpo hdec
        cases a with
        | none =>
          obtain rfl : k = 0 := HI.out.none_len
          obtain rfl : cap = 0 := HI.out.none_cap
          go_wp2_with (first
            | (at_builtin; refine wpList_append_own _ rfl (.tmp 33) (.tmp 35) 39 rfl (w.heap.size + 1) 24 i0 (.agg #[.int .u8 0, .int .u32 0]) 2 8 Try.underlying39 hi hz0 hz1 hz2 rfl Nat.zero_lt_two _ _ _ rfl (HO.out.alloc _) ⟨wq.heap.size, 0, none⟩ 1 1 [.int .u8 (r : Int), .int .u32 (m : Int)] rfl rfl (cells_two_new _ _ _ _) (one_two _ _) hbd1 hbd2 (hbs _) ?_; intro v1 w3 hown1 hgrow1 _; have hB3 : Below (w.heap.size + 1) wq w3 := ((Below.refl _ _).alloc hbq _).grown hgrow1 (hbs _) (fun j e => (HO.out.lt j e).1); have HO1 := hid hown1; have HB3 := hid hB3; have hb3s' := hB3.size; clear hown1 hgrow1 hB3)
            | (at_builtin; refine wpList_append_own_none rfl (.tmp 37) (.tmp 40) 39 rfl (w.heap.size + 1) 24 i0 2 Try.underlying39 hi _ _ _ rfl HO1.out rfl ?_)
            | go_in)
          go_ret
          have ht : l.take 0 = l := List.take_of_length_le (by rw [HL.out]; exact Nat.le_refl _)
          have he : ins l (r, m) = l ++ [(r, m)] := by rw [ins_at l (r, m) 0 HM.out HALL.out (.inl HL.out.symm), hlast.out, ht]; simp
          have hB5 : Below (w.heap.size + 1) W1 w3 := HBQ.out.trans HB3.out
          refine ⟨HW.out.2.1.trans (hB5.mono (Nat.le_succ _)), .inr ⟨HM.out, v1, rfl, ?_⟩⟩
          exact with_end HO1.out (by rw [he]; simp [HL.out]) (by simp only [he, flat_snoc, ht, List.append_nil])
        | some ad =>
          by_cases hck : cap = k
          · subst hck
            go_wp2_with (first
              | (at_builtin; refine wpList_append_own _ rfl (.tmp 33) (.tmp 35) 39 rfl (w.heap.size + 1) 24 i0 (.agg #[.int .u8 0, .int .u32 0]) 2 8 Try.underlying39 hi hz0 hz1 hz2 rfl Nat.zero_lt_two _ _ _ rfl (HO.out.alloc _) ⟨wq.heap.size, 0, none⟩ 1 1 [.int .u8 (r : Int), .int .u32 (m : Int)] rfl rfl (cells_two_new _ _ _ _) (one_two _ _) hbd1 hbd2 (hbs _) ?_; intro v1 w3 hown1 hgrow1 _; have hB3 : Below (w.heap.size + 1) wq w3 := ((Below.refl _ _).alloc hbq _).grown hgrow1 (hbs _) (fun j e => (HO.out.lt j e).1); have HO1 := hid hown1; have HB3 := hid hB3; have hb3s' := hB3.size; clear hown1 hgrow1 hB3)
              | (at_builtin; refine wpList_append_own _ rfl (.tmp 37) (.tmp 40) 39 rfl (w.heap.size + 1) 24 i0 (.agg #[.int .u8 0, .int .u32 0]) 2 8 Try.underlying39 hi hz0 hz1 hz2 rfl Nat.zero_lt_two _ _ _ rfl HO1.out ad 0 _ [] rfl rfl (nil_cells _ _) nil_one hbd1 hbd2 (Nat.le_trans hbq hb3s') ?_; intro v2 w4 hown2 hgrow2 _; have hB4 := Below.grown (Below.refl (w.heap.size + 1) w3) hgrow2 (by omega) (fun j e => (HO1.out.lt j e).1); have HO2 := hid hown2; have HB4 := hid hB4; clear hown2 hgrow2 hB4)
              | go_in)
            go_ret
            have ht : l.take cap = l := List.take_of_length_le (by rw [HL.out]; exact Nat.le_refl _)
            have he : ins l (r, m) = l ++ [(r, m)] := by rw [ins_at l (r, m) cap HM.out HALL.out (.inl HL.out.symm), hlast.out, ht]; simp
            have hB5 : Below (w.heap.size + 1) W1 w4 := HBQ.out.trans (HB3.out.trans HB4.out)
            refine ⟨HW.out.2.1.trans (hB5.mono (Nat.le_succ _)), .inr ⟨HM.out, v2, rfl, ?_⟩⟩
            exact with_end HO2.out (by rw [he]; simp [HL.out]) (by simp only [he, flat_snoc, ht, List.append_nil])
          · go_wp2_with (first
              | (at_builtin; refine wpList_append_own _ rfl (.tmp 33) (.tmp 35) 39 rfl (w.heap.size + 1) 24 i0 (.agg #[.int .u8 0, .int .u32 0]) 2 8 Try.underlying39 hi hz0 hz1 hz2 rfl Nat.zero_lt_two _ _ _ rfl (HO.out.alloc _) ⟨wq.heap.size, 0, none⟩ 1 1 [.int .u8 (r : Int), .int .u32 (m : Int)] rfl rfl (cells_two_new _ _ _ _) (one_two _ _) hbd1 hbd2 (hbs _) ?_; intro v1 w3 hown1 hgrow1 _; have hB3 : Below (w.heap.size + 1) wq w3 := ((Below.refl _ _).alloc hbq _).grown hgrow1 (hbs _) (fun j e => (HO.out.lt j e).1); have HO1 := hid hown1; have HB3 := hid hB3; have hb3s' := hB3.size; clear hown1 hgrow1 hB3)
              | (at_builtin; refine wpList_append_own _ rfl (.tmp 37) (.tmp 40) 39 rfl (w.heap.size + 1) 24 i0 (.agg #[.int .u8 0, .int .u32 0]) 2 8 Try.underlying39 hi hz0 hz1 hz2 rfl Nat.zero_lt_two _ _ _ rfl HO1.out (ad.add (k * 2)) 0 _ [] rfl rfl (nil_cells _ _) nil_one hbd1 hbd2 (Nat.le_trans hbq hb3s') ?_; intro v2 w4 hown2 hgrow2 _; have hB4 := Below.grown (Below.refl (w.heap.size + 1) w3) hgrow2 (by omega) (fun j e => (HO1.out.lt j e).1); have HO2 := hid hown2; have HB4 := hid hB4; clear hown2 hgrow2 hB4)
              | go_in)
            go_ret
            have ht : l.take k = l := List.take_of_length_le (by rw [HL.out]; exact Nat.le_refl _)
            have he : ins l (r, m) = l ++ [(r, m)] := by rw [ins_at l (r, m) k HM.out HALL.out (.inl HL.out.symm), hlast.out, ht]; simp
            have hB5 : Below (w.heap.size + 1) W1 w4 := HBQ.out.trans (HB3.out.trans HB4.out)
            refine ⟨HW.out.2.1.trans (hB5.mono (Nat.le_succ _)), .inr ⟨HM.out, v2, rfl, ?_⟩⟩
            exact with_end HO2.out (by rw [he]; simp [HL.out]) (by simp only [he, flat_snoc, ht, List.append_nil])

end Go.Proofs.Ytmjmgjdklhdcdaa
