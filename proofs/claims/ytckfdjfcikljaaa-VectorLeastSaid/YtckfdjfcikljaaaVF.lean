/-
  Merge, Meet; the document's; rows of vectors compared.
-/
import Derived.Test.YtckfdjfcikljaaaVE
namespace Go.Proofs.Ytckfdjfcikljaaa
set_option linter.unusedVariables false
set_option linter.unusedSimpArgs false
open Go Go.RowKit Go.Maps

set_option maxHeartbeats 1000000 in
theorem vec_Merge (v : Value) (l : List Vec) (w : World) (hv : VecsV w v l) :
    Calls Try.prog 24 #[v] w fun e w' => e = .returned (.agg #[.int .u32 ((comb mx l) 0 : Int), .int .u32 ((comb mx l) 1 : Int), .int .u32 ((comb mx l) 2 : Int), .int .u32 ((comb mx l) 3 : Int), .int .u32 ((comb mx l) 4 : Int), .int .u32 ((comb mx l) 5 : Int), .int .u32 ((comb mx l) 6 : Int), .int .u32 ((comb mx l) 7 : Int)]) ∧ Below w.heap.size w w' := by
  have hc := fun W (h : VecsV W v l) => combine_max v l W h
  have hv1 := hv.al (.cells #[.int .u32 0, .int .u32 0, .int .u32 0, .int .u32 0, .int .u32 0, .int .u32 0, .int .u32 0, .int .u32 0] 24)
  have hb := heap_alloc_last' w (.cells #[.int .u32 0, .int .u32 0, .int .u32 0, .int .u32 0, .int .u32 0, .int .u32 0, .int .u32 0, .int .u32 0] 24)
  have H0 := hid (And.intro hv1 hb)
  clear hv hv1 hb
  go_enter Try.func24, Try.ntmps24
  go_wp2_with (go_at_call 36; (with_reducible refine (hc _ H0.out.1).mono ?_); rintro e w1 ⟨rfl, hB⟩; have hz := heap_keep H0.out.2 hB; obtain ⟨z0, z1, z2, z3, z4, z5, z6, z7⟩ := cells8 (v := zeroV) hz; have fr := freeV hz; have HZ := hid hz; clear hz)
  exact bodyPost_ret (results_cell_row rfl _ _ _ _ _ _ _ rfl (heap_set8 HZ.out rfl (comb mx l)) Try.underlying24 rfl (by kernel_rfl)) rfl ⟨rfl, Below.set8 (st1 hB) (Nat.le_refl _) _ _ _ _ _ _ _ _⟩

set_option maxHeartbeats 1000000 in
theorem vec_Meet (v : Value) (l : List Vec) (w : World) (hv : VecsV w v l) :
    Calls Try.prog 26 #[v] w fun e w' => e = .returned (.agg #[.int .u32 ((comb mn l) 0 : Int), .int .u32 ((comb mn l) 1 : Int), .int .u32 ((comb mn l) 2 : Int), .int .u32 ((comb mn l) 3 : Int), .int .u32 ((comb mn l) 4 : Int), .int .u32 ((comb mn l) 5 : Int), .int .u32 ((comb mn l) 6 : Int), .int .u32 ((comb mn l) 7 : Int)]) ∧ Below w.heap.size w w' := by
  have hc := fun W (h : VecsV W v l) => combine_min v l W h
  have hv1 := hv.al (.cells #[.int .u32 0, .int .u32 0, .int .u32 0, .int .u32 0, .int .u32 0, .int .u32 0, .int .u32 0, .int .u32 0] 24)
  have hb := heap_alloc_last' w (.cells #[.int .u32 0, .int .u32 0, .int .u32 0, .int .u32 0, .int .u32 0, .int .u32 0, .int .u32 0, .int .u32 0] 24)
  have H0 := hid (And.intro hv1 hb)
  clear hv hv1 hb
  go_enter Try.func26, Try.ntmps26
  go_wp2_with (go_at_call 36; (with_reducible refine (hc _ H0.out.1).mono ?_); rintro e w1 ⟨rfl, hB⟩; have hz := heap_keep H0.out.2 hB; obtain ⟨z0, z1, z2, z3, z4, z5, z6, z7⟩ := cells8 (v := zeroV) hz; have fr := freeV hz; have HZ := hid hz; clear hz)
  exact bodyPost_ret (results_cell_row rfl _ _ _ _ _ _ _ rfl (heap_set8 HZ.out rfl (comb mn l)) Try.underlying24 rfl (by kernel_rfl)) rfl ⟨rfl, Below.set8 (st1 hB) (Nat.le_refl _) _ _ _ _ _ _ _ _⟩

theorem fold_take {op : Vec → Vec → Vec} {l : List Vec} {k : Nat} {x z : Vec} (hx : l[k]? = some x) : (l.take (k + 1)).foldl op z = op ((l.take k).foldl op z) x := by
  have hk : k < l.length := (List.getElem?_eq_some_iff.1 hx).1
  rw [List.take_succ_eq_append_getElem hk, (List.getElem?_eq_some_iff.1 hx).2, List.foldl_append]; rfl
theorem fold_ok {op : Vec → Vec → Vec} (hop : ∀ a b, okV a → okV b → okV (op a b)) : ∀ (l : List Vec) (z : Vec), okV z → (∀ x ∈ l, okV x) → okV (l.foldl op z)
  | [], z, hz, _ => hz
  | x :: r, z, hz, h => fold_ok hop r _ (hop _ _ hz (h x (by simp))) (fun y hy => h y (by simp [hy]))
theorem mx_zero (x : Vec) : mx zeroV x = x := by funext i; simp [mx, zeroV]
theorem mn_self (x : Vec) : mn x x = x := by funext i; simp [mn]
theorem fold_mx (l : List Vec) : l.foldl mx zeroV = comb mx l := by
  cases l with
  | nil => rfl
  | cons x r => show r.foldl mx (mx zeroV x) = r.foldl mx x; rw [mx_zero]
theorem fold_mn (x : Vec) (r : List Vec) : (x :: r).foldl mn x = comb mn (x :: r) := by
  show r.foldl mn (mn x x) = r.foldl mn x; rw [mn_self]
theorem fold_mn' {l : List Vec} {x : Vec} (h : l[0]? = some x) : l.foldl mn x = comb mn l := by
  cases l with
  | nil => simp at h
  | cons y r => simp at h; subst h; exact fold_mn y r

set_option maxHeartbeats 2000000 in
set_option maxRecDepth 100000 in
theorem ref_Merge (v : Value) (l : List Vec) (w : World) (hv : VecsV w v l) :
    Calls Try.prog 25 #[v] w fun e w' => e = .returned (.agg #[.int .u32 ((comb mx l) 0 : Int), .int .u32 ((comb mx l) 1 : Int), .int .u32 ((comb mx l) 2 : Int), .int .u32 ((comb mx l) 3 : Int), .int .u32 ((comb mx l) 4 : Int), .int .u32 ((comb mx l) 5 : Int), .int .u32 ((comb mx l) 6 : Int), .int .u32 ((comb mx l) 7 : Int)]) ∧ Below w.heap.size w w' := by
  obtain ⟨ad, len, cap, rfl, hI⟩ := hv
  have hcap : len ≤ 9223372036854775807 := by have := hI.2.1; have := hI.2.2.1; unfold maxLen at this; omega
  have HI := hid hI
  clear hI
  have HZ0 := hid ok_zero
  have H0 := hid (And.intro (box2_0 w zeroV zeroV) (And.intro (box2_1 w zeroV zeroV) (below_al2 w (.cells #[.int .u32 (zeroV 0 : Int), .int .u32 (zeroV 1 : Int), .int .u32 (zeroV 2 : Int), .int .u32 (zeroV 3 : Int), .int .u32 (zeroV 4 : Int), .int .u32 (zeroV 5 : Int), .int .u32 (zeroV 6 : Int), .int .u32 (zeroV 7 : Int)] 24) (.cells #[.int .u32 (zeroV 0 : Int), .int .u32 (zeroV 1 : Int), .int .u32 (zeroV 2 : Int), .int .u32 (zeroV 3 : Int), .int .u32 (zeroV 4 : Int), .int .u32 (zeroV 5 : Int), .int .u32 (zeroV 6 : Int), .int .u32 (zeroV 7 : Int)] 24))))
  rw [← fold_mx]
  go_enter Try.func25, Try.ntmps25
  go_wp2
  go_loopw [4] (fun i wr => ∃ k : Nat, k ≤ len ∧ i = .int .i64 k ∧ wr.heap[w.heap.size]? = some (.cells (vc zeroV) 24 (0, 0)) ∧ wr.heap[w.heap.size + 1]? = some (.cells (vc ((l.take k).foldl mx zeroV)) 24 (0, 0)) ∧ Below w.heap.size w wr) (fun i _ => len - (intOf i).toNat)
  case atStart => exact ⟨0, by omega, rfl, H0.out.1, H0.out.2.1, H0.out.2.2⟩
  case round =>
    obtain ⟨k, hk, rfl, hz, hx, hB⟩ := hrel
    obtain ⟨wo, hwo⟩ : ∃ wo : World, wo = wr := ⟨_, rfl⟩
    subst hwo
    by_cases hlt : k < len
    · cases ad with
      | none => have := HI.out.none_len; omega
      | some ad =>
        obtain ⟨x, B0, O0, sp0, hxk, hxo, -⟩ := (HI.out.keep hB).at k hlt
        obtain ⟨y, hy⟩ : ∃ y, y = (l.take k).foldl mx zeroV := ⟨_, rfl⟩
        have HY := hid (And.intro hy (fold_take (op := mx) (z := zeroV) hxk))
        have HY2 := hid (show okV y by rw [hy]; exact fold_ok (fun _ _ => ok_mx) _ _ HZ0.out (fun u hu => HI.out.2.2.2.1 u (List.mem_of_mem_take hu)))
        rw [← hy] at hx
        have HXO := hid hxo
        have HXK := hid hxk
        have HI1 := hid (And.intro hz (And.intro hx hB))
        clear hz hx hxk hxo hy
        go_wp2
        go_loopw [5] (fun i W2 => ∃ r : Nat, r ≤ 8 ∧ i = .int .i64 r ∧ W2.heap[w.heap.size]? = some (.cells (vc zeroV) 24 (0, 0)) ∧ W2.heap[w.heap.size + 1]? = some (.cells (vc (part max y x r)) 24 (0, 0)) ∧ Below w.heap.size w W2) (fun i _ => 8 - (intOf i).toNat)
        case atStart => exact ⟨0, by omega, rfl, HI1.out.1, by rw [part_zero]; exact HI1.out.2.1, HI1.out.2.2⟩
        case round =>
          obtain ⟨r, hr, rfl, hz, hp, hB2⟩ := hrel
          by_cases hlr : r < 8
          · have c0 := cellV hp hlr
            rw [part_at] at c0
            have f0 := freeV hp r
            obtain ⟨x', B, O, sp, hxk', _, hA, hcx, _⟩ := (HI.out.keep hB2).at k hlt
            obtain rfl : x' = x := by rw [HXK.out] at hxk'; exact (Option.some.inj hxk').symm
            have hcr := hcx r hlr
            have HH := hid (And.intro hz (And.intro hp hB2))
            clear hz hp hB2 hxk' hcx
            go_wp2
            refine wp_region_still_tail_w 11 (by kernel_rfl) (by kernel_rfl) ?_
            intro wd hwd
            have d0 : wd.cell? ⟨w.heap.size + 1, r, none⟩ = some (.int .u32 (y r : Int)) := by rw [hwd]; exact c0
            have d1 : wd.cell? ((⟨B, O, sp⟩ : Addr).add r) = some (.int .u32 (x' r : Int)) := by rw [hwd]; exact hcr
            have d2 : wd.frozen? ⟨w.heap.size + 1, r, none⟩ = false := by rw [hwd]; exact f0
            have HD := hid hwd
            clear hwd c0 hcr f0
            simp only [List.take_succ_cons, List.take_zero, List.drop_succ_cons, List.drop_zero]
            repeat still_step
            refine wpStill_nil ?_
            go_wp2
            go_roundw
            case rel =>
              obtain ⟨hz, hp, hB2⟩ := HH.out
              have hdz : wd.heap[w.heap.size]? = some (.cells (vc zeroV) 24 (0, 0)) := by rw [HD.out]; exact hz
              have hdp : wd.heap[w.heap.size + 1]? = some (.cells (vc (part max y x' r)) 24 (0, 0)) := by rw [HD.out]; exact hp
              have hdb : Below w.heap.size w wd := by rw [HD.out]; exact hB2.drew
              by_cases h : y r < x' r
              · rw [if_pos h]
                have e : max (y r) (x' r) = x' r := by omega
                refine ⟨r + 1, by omega, by go_num, heap_other (by omega) hdz, ?_, Below.setCell (p := ⟨w.heap.size + 1, r, none⟩) hdb (by simp) _⟩
                rw [← part_succ, e]
                exact heap_set hdp hlr _
              · rw [if_neg h]
                have e : max (y r) (x' r) = y r := by omega
                refine ⟨r + 1, by omega, by go_num, heap_other (by omega) hdz, ?_, Below.setCell (p := ⟨w.heap.size + 1, r, none⟩) hdb (by simp) _⟩
                rw [← part_succ, e]
                exact heap_set hdp hlr _
            case measure => simp [intOf]; omega
          · obtain rfl : r = 8 := by omega
            have HH := hid (And.intro hz (And.intro hp hB2))
            clear hz hp hB2
            go_wp2
            go_roundw
            case rel =>
              obtain ⟨hz, hp, hB2⟩ := HH.out
              refine ⟨k + 1, by omega, by go_num, hz, ?_, hB2⟩
              rw [HY.out.2, ← HY.out.1, ← part_mx HY2.out HXO.out]
              exact hp
            case measure => simp [intOf]; omega
    · obtain rfl : k = len := by omega
      have ht : l.take k = l := List.take_of_length_le (by rw [HI.out.1]; exact Nat.le_refl _)
      rw [ht] at hx
      obtain ⟨d0, d1, d2, d3, d4, d5, d6, d7⟩ := cells8 hx
      obtain ⟨z0, z1, z2, z3, z4, z5, z6, z7⟩ := cells8 hz
      have fr := freeV hz
      have HX := hid (And.intro hz hx)
      clear hz hx ht
      go_wp2
      exact bodyPost_ret (results_cell_row rfl _ _ _ _ _ _ _ rfl (heap_set8 HX.out.1 rfl (l.foldl mx zeroV)) Try.underlying24 rfl (by kernel_rfl)) rfl ⟨rfl, Below.set8 hB (Nat.le_refl _) _ _ _ _ _ _ _ _⟩

set_option maxHeartbeats 2000000 in
set_option maxRecDepth 100000 in
theorem ref_Meet (v : Value) (l : List Vec) (w : World) (hv : VecsV w v l) :
    Calls Try.prog 27 #[v] w fun e w' => e = .returned (.agg #[.int .u32 ((comb mn l) 0 : Int), .int .u32 ((comb mn l) 1 : Int), .int .u32 ((comb mn l) 2 : Int), .int .u32 ((comb mn l) 3 : Int), .int .u32 ((comb mn l) 4 : Int), .int .u32 ((comb mn l) 5 : Int), .int .u32 ((comb mn l) 6 : Int), .int .u32 ((comb mn l) 7 : Int)]) ∧ Below w.heap.size w w' := by
  obtain ⟨ad, len, cap, rfl, hI⟩ := hv
  have hcap : len ≤ 9223372036854775807 := by have := hI.2.1; have := hI.2.2.1; unfold maxLen at this; omega
  by_cases hl0 : len = 0
  · obtain rfl : l = [] := List.length_eq_zero_iff.1 (hI.1.trans hl0)
    have hl0' : ((len : Int) == 0) = true := by simp [hl0]
    clear hI hl0
    go_enter Try.func27, Try.ntmps27
    go_wp2
    exact bodyPost_ret (results_cell_row rfl _ _ _ _ _ _ _ rfl (heap_alloc_last' _ _) Try.underlying24 rfl (by kernel_rfl)) rfl ⟨rfl, below_al _ _⟩
  have hl0' : ((len : Int) == 0) = false := by simpa using hl0
  obtain ⟨ad, rfl⟩ : ∃ a, ad = some a := by
    cases ad with
    | none => exact absurd hI.none_len hl0
    | some a => exact ⟨a, rfl⟩
  obtain ⟨x0, B0, O0, sp0, hx0, hxo0, hA0, -, c0, c1, c2, c3, c4, c5, c6, c7⟩ := hI.at 0 (by omega)
  have hA0' : ad = ⟨B0, O0, sp0⟩ := by rw [← hA0]; simp [Addr.add]
  clear hA0
  have HI := hid hI
  clear hI
  have HZ0 := hid hxo0
  have HX0 := hid hx0
  have hlt0 : 0 < len := by omega
  have H0 := hid (And.intro (box2_0 w zeroV x0) (And.intro (box2_1 w zeroV x0) (below_al2 w (.cells #[.int .u32 (zeroV 0 : Int), .int .u32 (zeroV 1 : Int), .int .u32 (zeroV 2 : Int), .int .u32 (zeroV 3 : Int), .int .u32 (zeroV 4 : Int), .int .u32 (zeroV 5 : Int), .int .u32 (zeroV 6 : Int), .int .u32 (zeroV 7 : Int)] 24) (.cells #[.int .u32 (x0 0 : Int), .int .u32 (x0 1 : Int), .int .u32 (x0 2 : Int), .int .u32 (x0 3 : Int), .int .u32 (x0 4 : Int), .int .u32 (x0 5 : Int), .int .u32 (x0 6 : Int), .int .u32 (x0 7 : Int)] 24))))
  rw [← fold_mn' hx0]
  clear hx0 hxo0 hl0
  have c0 := fun o => cell_keep (below_al w o) c0
  have c1 := fun o => cell_keep (below_al w o) c1
  have c2 := fun o => cell_keep (below_al w o) c2
  have c3 := fun o => cell_keep (below_al w o) c3
  have c4 := fun o => cell_keep (below_al w o) c4
  have c5 := fun o => cell_keep (below_al w o) c5
  have c6 := fun o => cell_keep (below_al w o) c6
  have c7 := fun o => cell_keep (below_al w o) c7
  subst hA0'
  go_enter Try.func27, Try.ntmps27
  go_wp2
  clear c0 c1 c2 c3 c4 c5 c6 c7
  generalize had : (some (⟨B0, O0, sp0⟩ : Addr)) = ad at *
  go_loopw [4] (fun i wr => ∃ k : Nat, k ≤ len ∧ i = .int .i64 k ∧ wr.heap[w.heap.size]? = some (.cells (vc zeroV) 24 (0, 0)) ∧ wr.heap[w.heap.size + 1]? = some (.cells (vc ((l.take k).foldl mn x0)) 24 (0, 0)) ∧ Below w.heap.size w wr) (fun i _ => len - (intOf i).toNat)
  case atStart => exact ⟨0, by omega, rfl, H0.out.1, H0.out.2.1, H0.out.2.2⟩
  case round =>
    obtain ⟨k, hk, rfl, hz, hx, hB⟩ := hrel
    obtain ⟨wo, hwo⟩ : ∃ wo : World, wo = wr := ⟨_, rfl⟩
    subst hwo
    by_cases hlt : k < len
    · cases ad with
      | none => have := HI.out.none_len; omega
      | some ad =>
        obtain ⟨x, B0, O0, sp0, hxk, hxo, -⟩ := (HI.out.keep hB).at k hlt
        obtain ⟨y, hy⟩ : ∃ y, y = (l.take k).foldl mn x0 := ⟨_, rfl⟩
        have HY := hid (And.intro hy (fold_take (op := mn) (z := x0) hxk))
        have HY2 := hid (show okV y by rw [hy]; exact fold_ok (fun _ _ => ok_mn) _ _ HZ0.out (fun u hu => HI.out.2.2.2.1 u (List.mem_of_mem_take hu)))
        rw [← hy] at hx
        have HXO := hid hxo
        have HXK := hid hxk
        have HI1 := hid (And.intro hz (And.intro hx hB))
        clear hz hx hxk hxo hy
        go_wp2
        go_loopw [5] (fun i W2 => ∃ r : Nat, r ≤ 8 ∧ i = .int .i64 r ∧ W2.heap[w.heap.size]? = some (.cells (vc zeroV) 24 (0, 0)) ∧ W2.heap[w.heap.size + 1]? = some (.cells (vc (part min y x r)) 24 (0, 0)) ∧ Below w.heap.size w W2) (fun i _ => 8 - (intOf i).toNat)
        case atStart => exact ⟨0, by omega, rfl, HI1.out.1, by rw [part_zero]; exact HI1.out.2.1, HI1.out.2.2⟩
        case round =>
          obtain ⟨r, hr, rfl, hz, hp, hB2⟩ := hrel
          by_cases hlr : r < 8
          · have c0 := cellV hp hlr
            rw [part_at] at c0
            have f0 := freeV hp r
            obtain ⟨x', B, O, sp, hxk', _, hA, hcx, _⟩ := (HI.out.keep hB2).at k hlt
            obtain rfl : x' = x := by rw [HXK.out] at hxk'; exact (Option.some.inj hxk').symm
            have hcr := hcx r hlr
            have HH := hid (And.intro hz (And.intro hp hB2))
            clear hz hp hB2 hxk' hcx
            go_wp2
            refine wp_region_still_tail_w 11 (by kernel_rfl) (by kernel_rfl) ?_
            intro wd hwd
            have d0 : wd.cell? ⟨w.heap.size + 1, r, none⟩ = some (.int .u32 (y r : Int)) := by rw [hwd]; exact c0
            have d1 : wd.cell? ((⟨B, O, sp⟩ : Addr).add r) = some (.int .u32 (x' r : Int)) := by rw [hwd]; exact hcr
            have d2 : wd.frozen? ⟨w.heap.size + 1, r, none⟩ = false := by rw [hwd]; exact f0
            have HD := hid hwd
            clear hwd c0 hcr f0
            simp only [List.take_succ_cons, List.take_zero, List.drop_succ_cons, List.drop_zero]
            repeat still_step
            refine wpStill_nil ?_
            go_wp2
            go_roundw
            case rel =>
              obtain ⟨hz, hp, hB2⟩ := HH.out
              have hdz : wd.heap[w.heap.size]? = some (.cells (vc zeroV) 24 (0, 0)) := by rw [HD.out]; exact hz
              have hdp : wd.heap[w.heap.size + 1]? = some (.cells (vc (part min y x' r)) 24 (0, 0)) := by rw [HD.out]; exact hp
              have hdb : Below w.heap.size w wd := by rw [HD.out]; exact hB2.drew
              by_cases h : x' r < y r
              · rw [if_pos h]
                have e : min (y r) (x' r) = x' r := by omega
                refine ⟨r + 1, by omega, by go_num, heap_other (by omega) hdz, ?_, Below.setCell (p := ⟨w.heap.size + 1, r, none⟩) hdb (by simp) _⟩
                rw [← part_succ, e]
                exact heap_set hdp hlr _
              · rw [if_neg h]
                have e : min (y r) (x' r) = y r := by omega
                refine ⟨r + 1, by omega, by go_num, heap_other (by omega) hdz, ?_, Below.setCell (p := ⟨w.heap.size + 1, r, none⟩) hdb (by simp) _⟩
                rw [← part_succ, e]
                exact heap_set hdp hlr _
            case measure => simp [intOf]; omega
          · obtain rfl : r = 8 := by omega
            have HH := hid (And.intro hz (And.intro hp hB2))
            clear hz hp hB2
            go_wp2
            go_roundw
            case rel =>
              obtain ⟨hz, hp, hB2⟩ := HH.out
              refine ⟨k + 1, by omega, by go_num, hz, ?_, hB2⟩
              rw [HY.out.2, ← HY.out.1, ← part_mn HY2.out HXO.out]
              exact hp
            case measure => simp [intOf]; omega
    · obtain rfl : k = len := by omega
      have ht : l.take k = l := List.take_of_length_le (by rw [HI.out.1]; exact Nat.le_refl _)
      rw [ht] at hx
      obtain ⟨d0, d1, d2, d3, d4, d5, d6, d7⟩ := cells8 hx
      obtain ⟨z0, z1, z2, z3, z4, z5, z6, z7⟩ := cells8 hz
      have fr := freeV hz
      have HX := hid (And.intro hz hx)
      clear hz hx ht
      go_wp2
      exact bodyPost_ret (results_cell_row rfl _ _ _ _ _ _ _ rfl (heap_set8 HX.out.1 rfl (l.foldl mn x0)) Try.underlying24 rfl (by kernel_rfl)) rfl ⟨rfl, Below.set8 hB (Nat.le_refl _) _ _ _ _ _ _ _ _⟩


end Go.Proofs.Ytckfdjfcikljaaa
