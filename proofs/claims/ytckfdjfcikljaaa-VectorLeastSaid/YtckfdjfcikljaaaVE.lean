/-
  Vectors merged, and met: combine, at both ways to combine two numbers; the document's.
-/
import Derived.Test.YtckfdjfcikljaaaVC
import Derived.StillTailTactics
namespace Go.Proofs.Ytckfdjfcikljaaa
set_option linter.unusedVariables false
set_option linter.unusedSimpArgs false
open Go Go.RowKit Go.Maps

theorem wp_region_still_tail_w {P : Program} {id : Nat} {Q : Exit → Act → World → Prop} {a : Act} {w : World} {l : List Oper} (n : Nat) (hm : P.follows .mixedOrders = true) (hB : Region.lexTailB .any l.toArray n = true)
    (h : ∀ wd, wd = w.drew → wpStill P l.toArray wd (fun a' => wpList P l.toArray Q (l.drop n) a' wd) (l.take n) a) : (Code.region id l.toArray true).wp P Q a w :=
  wp_region_still_tail n hm hB (h w.drew rfl)

theorem heap_set8_other {w : World} {b g : Nat} {o : Obj} (hne : g ≠ b) (h : w.heap[g]? = some o) {x0 x1 x2 x3 x4 x5 x6 x7 : Value} :
    ((((((((w.setCell ⟨b, 0, none⟩ x0).setCell ⟨b, 1, none⟩ x1).setCell ⟨b, 2, none⟩ x2).setCell ⟨b, 3, none⟩ x3).setCell ⟨b, 4, none⟩ x4).setCell ⟨b, 5, none⟩ x5).setCell ⟨b, 6, none⟩ x6).setCell ⟨b, 7, none⟩ x7).heap[g]? = some o :=
  heap_other hne (heap_other hne (heap_other hne (heap_other hne (heap_other hne (heap_other hne (heap_other hne (heap_other hne h)))))))

def mx (a b : Vec) : Vec := fun i => max (a i) (b i)
def mn (a b : Vec) : Vec := fun i => min (a i) (b i)
theorem ok_mx {a b : Vec} (ha : okV a) (hb : okV b) : okV (mx a b) := ⟨fun i => by have := ha.1 i; have := hb.1 i; simp only [mx]; omega, fun i hi => by simp only [mx]; rw [ha.2 i hi, hb.2 i hi]; rfl⟩
theorem ok_mn {a b : Vec} (ha : okV a) (hb : okV b) : okV (mn a b) := ⟨fun i => by have := ha.1 i; have := hb.1 i; simp only [mn]; omega, fun i hi => by simp only [mn]; rw [ha.2 i hi, hb.2 i hi]; rfl⟩
def comb (op : Vec → Vec → Vec) : List Vec → Vec
  | [] => zeroV
  | x :: r => r.foldl op x
def mergeL (l : List Vec) : Vec := comb mx l
def meetL (l : List Vec) : Vec := comb mn l
theorem comb_snoc (op : Vec → Vec → Vec) (l : List Vec) (x : Vec) : comb op (l ++ [x]) = if l = [] then x else op (comb op l) x := by
  cases l with
  | nil => rfl
  | cons y r => simp [comb]
theorem comb_ok {op : Vec → Vec → Vec} (hop : ∀ a b, okV a → okV b → okV (op a b)) (l : List Vec) (hl : ∀ x ∈ l, okV x) : okV (comb op l) := by
  cases l with
  | nil => exact ok_zero
  | cons y r =>
    have : ∀ (r : List Vec) (y : Vec), okV y → (∀ x ∈ r, okV x) → okV (r.foldl op y) := by
      intro r
      induction r with
      | nil => intro y hy _; exact hy
      | cons z r ih => intro y hy h; exact ih _ (hop _ _ hy (h z (by simp))) (fun x hx => h x (by simp [hx]))
    exact this r y (hl y (by simp)) (fun x hx => hl x (by simp [hx]))
theorem comb_take {op : Vec → Vec → Vec} {l : List Vec} {k : Nat} {x : Vec} (hx : l[k]? = some x) : comb op (l.take (k + 1)) = if k = 0 then x else op (comb op (l.take k)) x := by
  have hk : k < l.length := (List.getElem?_eq_some_iff.1 hx).1
  rw [List.take_succ_eq_append_getElem hk, (List.getElem?_eq_some_iff.1 hx).2, comb_snoc]
  by_cases h : k = 0
  · subst h; simp
  · rw [if_neg h, if_neg]
    intro e
    have h2 : (l.take k).length = 0 := by rw [e]; rfl
    rw [List.length_take] at h2
    omega

/-- The first k numbers combined. -/
def part (f : Nat → Nat → Nat) (a b : Vec) (k : Nat) : Vec := fun i => if i < k then f (a i) (b i) else a i
theorem part_zero (f : Nat → Nat → Nat) (a b : Vec) : part f a b 0 = a := by funext i; simp [part]
theorem part_succ (f : Nat → Nat → Nat) (a b : Vec) (k : Nat) : upd (part f a b k) k (f (a k) (b k)) = part f a b (k + 1) := by
  funext i
  simp only [upd, part]
  by_cases h : i = k
  · subst h; rw [if_pos rfl, if_pos (by omega)]
  · rw [if_neg h]
    by_cases h2 : i < k
    · rw [if_pos h2, if_pos (by omega)]
    · rw [if_neg h2, if_neg (by omega)]
theorem part_at (f : Nat → Nat → Nat) (a b : Vec) (k : Nat) : part f a b k k = a k := by simp [part]
theorem part_mx {a b : Vec} (ha : okV a) (hb : okV b) : part max a b 8 = mx a b := by
  funext i; simp only [part, mx]
  by_cases h : i < 8
  · rw [if_pos h]
  · rw [if_neg h, ha.2 i (by omega), hb.2 i (by omega)]; rfl
theorem part_mn {a b : Vec} (ha : okV a) (hb : okV b) : part min a b 8 = mn a b := by
  funext i; simp only [part, mn]
  by_cases h : i < 8
  · rw [if_pos h]
  · rw [if_neg h, ha.2 i (by omega), hb.2 i (by omega)]; rfl

theorem two_max (x y : Nat) (w : World) : Calls Try.prog 37 #[.int .u32 (x : Int), .int .u32 (y : Int)] w fun e w' => e = .returned (.int .u32 ((max x y : Nat) : Int)) ∧ w = w' := by
  go_enter Try.func37, Try.ntmps37
  go_wp2
  all_goals (
    go_ret
    refine ⟨ret_int ?_, rfl⟩
    try simp only [Nat.max_def, Nat.min_def]
    split <;> omega)

theorem two_min (x y : Nat) (w : World) : Calls Try.prog 38 #[.int .u32 (x : Int), .int .u32 (y : Int)] w fun e w' => e = .returned (.int .u32 ((min x y : Nat) : Int)) ∧ w = w' := by
  go_enter Try.func38, Try.ntmps38
  go_wp2
  all_goals (
    go_ret
    refine ⟨ret_int ?_, rfl⟩
    try simp only [Nat.max_def, Nat.min_def]
    split <;> omega)

set_option maxHeartbeats 2000000 in
set_option maxRecDepth 100000 in
theorem combine_max (v : Value) (l : List Vec) (w : World) (hv : VecsV w v l) :
    Calls Try.prog 36 #[.func (.func 37) #[] #[], v] w
      fun e w' => e = .returned (.agg #[.int .u32 ((comb mx l) 0 : Int), .int .u32 ((comb mx l) 1 : Int), .int .u32 ((comb mx l) 2 : Int), .int .u32 ((comb mx l) 3 : Int), .int .u32 ((comb mx l) 4 : Int), .int .u32 ((comb mx l) 5 : Int), .int .u32 ((comb mx l) 6 : Int), .int .u32 ((comb mx l) 7 : Int)]) ∧ Below w.heap.size w w' := by
  obtain ⟨ad, len, cap, rfl, hI⟩ := hv
  have hcap : len ≤ 9223372036854775807 := by have := hI.2.1; have := hI.2.2.1; unfold maxLen at this; omega
  have HI := hid hI
  clear hI
  have htwo := fun x y W => two_max x y W
  have H0 := hid (And.intro (box2_0 w zeroV zeroV) (And.intro (box2_1 w zeroV zeroV) (below_al2 w (.cells #[.int .u32 (zeroV 0 : Int), .int .u32 (zeroV 1 : Int), .int .u32 (zeroV 2 : Int), .int .u32 (zeroV 3 : Int), .int .u32 (zeroV 4 : Int), .int .u32 (zeroV 5 : Int), .int .u32 (zeroV 6 : Int), .int .u32 (zeroV 7 : Int)] 24) (.cells #[.int .u32 (zeroV 0 : Int), .int .u32 (zeroV 1 : Int), .int .u32 (zeroV 2 : Int), .int .u32 (zeroV 3 : Int), .int .u32 (zeroV 4 : Int), .int .u32 (zeroV 5 : Int), .int .u32 (zeroV 6 : Int), .int .u32 (zeroV 7 : Int)] 24))))
  go_enter Try.func36, Try.ntmps36
  go_wp2
  go_loopw [11] (fun i wr => ∃ k : Nat, k ≤ len ∧ i = .int .i64 k ∧ wr.heap[w.heap.size]? = some (.cells (vc zeroV) 24 (0, 0)) ∧ wr.heap[w.heap.size + 1]? = some (.cells (vc (comb mx (l.take k))) 24 (0, 0)) ∧ Below w.heap.size w wr) (fun i _ => len - (intOf i).toNat)
  case atStart => exact ⟨0, by omega, rfl, H0.out.1, H0.out.2.1, H0.out.2.2⟩
  case round =>
    obtain ⟨k, hk, rfl, hz, hx, hB⟩ := hrel
    obtain ⟨wo, hwo⟩ : ∃ wo : World, wo = wr := ⟨_, rfl⟩
    subst hwo
    by_cases hlt : k < len
    · cases ad with
      | none => have := HI.out.none_len; omega
      | some ad =>
        obtain ⟨x, B, O, sp, hxk, hxo, hA, _, c0, c1, c2, c3, c4, c5, c6, c7⟩ := (HI.out.keep hB).at k hlt
        have HX := hid (And.intro hz (And.intro hx (And.intro hxk hxo)))
        have hfr := freeV hx
        obtain ⟨e0, e1, e2, e3, e4, e5, e6, e7⟩ := cells8 hx
        have hs := lt_of_heap hx
        clear hz hx hxk hxo
        by_cases hk0 : k = 0
        · have hk0' : ((k : Int) == 0) = true := by simpa using hk0
          have ee := hid (show comb mx (l.take (k + 1)) = x by rw [comb_take HX.out.2.2.1, if_pos hk0])
          clear hk0
          go_wp2
          clear hk0'
          go_roundw
          case rel => exact ⟨k + 1, by omega, by go_num, heap_al (heap_set8_other (by omega) HX.out.1) _, by rw [ee.out]; exact heap_al (heap_set8 HX.out.2.1 rfl x) _, Below.alloc (Below.set8 hB (by omega) _ _ _ _ _ _ _ _) (by simpa using hB.size) _⟩
          case measure => simp [intOf]; omega
        · have hk0' : ((k : Int) == 0) = false := by simpa using hk0
          go_wp2
          obtain ⟨y, hy⟩ : ∃ y, y = comb mx (l.take k) := ⟨_, rfl⟩
          have HY := hid (And.intro hy (show comb mx (l.take (k + 1)) = mx (comb mx (l.take k)) x by rw [comb_take HX.out.2.2.1, if_neg hk0]))
          have HY2 := hid (show okV y by rw [hy]; exact comb_ok (fun _ _ => ok_mx) _ (fun z hz => HI.out.2.2.2.1 z (List.mem_of_mem_take hz)))
          rw [← hy] at HX e0 e1 e2 e3 e4 e5 e6 e7
          clear hy hk0 hk0'
          have HI1 := hid (And.intro (heap_al HX.out.1 (.cells #[.int .u32 (x 0 : Int), .int .u32 (x 1 : Int), .int .u32 (x 2 : Int), .int .u32 (x 3 : Int), .int .u32 (x 4 : Int), .int .u32 (x 5 : Int), .int .u32 (x 6 : Int), .int .u32 (x 7 : Int)] 24)) (And.intro (heap_al HX.out.2.1 (.cells #[.int .u32 (x 0 : Int), .int .u32 (x 1 : Int), .int .u32 (x 2 : Int), .int .u32 (x 3 : Int), .int .u32 (x 4 : Int), .int .u32 (x 5 : Int), .int .u32 (x 6 : Int), .int .u32 (x 7 : Int)] 24)) (And.intro (heap_alloc_last' wo (.cells #[.int .u32 (x 0 : Int), .int .u32 (x 1 : Int), .int .u32 (x 2 : Int), .int .u32 (x 3 : Int), .int .u32 (x 4 : Int), .int .u32 (x 5 : Int), .int .u32 (x 6 : Int), .int .u32 (x 7 : Int)] 24)) (hB.alloc hB.size (.cells #[.int .u32 (x 0 : Int), .int .u32 (x 1 : Int), .int .u32 (x 2 : Int), .int .u32 (x 3 : Int), .int .u32 (x 4 : Int), .int .u32 (x 5 : Int), .int .u32 (x 6 : Int), .int .u32 (x 7 : Int)] 24)))))
          clear e0 e1 e2 e3 e4 e5 e6 e7 c0 c1 c2 c3 c4 c5 c6 c7 hfr
          go_loopw [20] (fun i W2 => ∃ r : Nat, r ≤ 8 ∧ i = .int .i64 r ∧ W2.heap[w.heap.size]? = some (.cells (vc zeroV) 24 (0, 0)) ∧ W2.heap[w.heap.size + 1]? = some (.cells (vc (part max y x r)) 24 (0, 0)) ∧ W2.heap[wo.heap.size]? = some (.cells (vc x) 24 (0, 0)) ∧ Below w.heap.size w W2) (fun i _ => 8 - (intOf i).toNat)
          case atStart => exact ⟨0, by omega, rfl, HI1.out.1, by rw [part_zero]; exact HI1.out.2.1, HI1.out.2.2.1, HI1.out.2.2.2⟩
          case round =>
            obtain ⟨r, hr, rfl, hz, hp, hx, hB2⟩ := hrel
            by_cases hlr : r < 8
            · have c0 := cellV hp hlr
              rw [part_at] at c0
              have c1 := cellV hx hlr
              have f0 := freeV hp r
              have HH := hid (And.intro hz (And.intro hp (And.intro hx hB2)))
              clear hz hp hx hB2
              have HW := hid (show Below w.heap.size w wr.drew from HH.out.2.2.2.drew)
              go_wp2
              refine wp_region_still_tail_w 9 (by kernel_rfl) (by kernel_rfl) ?_
              intro wd hwd
              have d0 : wd.cell? ⟨w.heap.size + 1, r, none⟩ = some (.int .u32 (y r : Int)) := by rw [hwd]; exact c0
              have d1 : wd.cell? ⟨wo.heap.size, r, none⟩ = some (.int .u32 (x r : Int)) := by rw [hwd]; exact c1
              have d2 : wd.frozen? ⟨w.heap.size + 1, r, none⟩ = false := by rw [hwd]; exact f0
              have HD := hid hwd
              clear hwd c0 c1 f0
              simp only [List.take_succ_cons, List.take_zero, List.drop_succ_cons, List.drop_zero]
              repeat still_step
              still_call ((htwo _ _ _).mono fun _ _ ⟨he, hw⟩ => ⟨he, hw.symm⟩)
              refine wpStill_nil ?_
              go_wp2
              go_roundw
              case rel =>
                obtain ⟨hz, hp, hx, hB2⟩ := HH.out
                have hdz : wd.heap[w.heap.size]? = some (.cells (vc zeroV) 24 (0, 0)) := by rw [HD.out]; exact hz
                have hdp : wd.heap[w.heap.size + 1]? = some (.cells (vc (part max y x r)) 24 (0, 0)) := by rw [HD.out]; exact hp
                have hdx : wd.heap[wo.heap.size]? = some (.cells (vc x) 24 (0, 0)) := by rw [HD.out]; exact hx
                have hdb : Below w.heap.size w wd := by rw [HD.out]; exact hB2.drew
                refine ⟨r + 1, by omega, by go_num, heap_other (by omega) hdz, ?_, heap_other (by omega) hdx, Below.setCell (p := ⟨w.heap.size + 1, r, none⟩) hdb (by simp) _⟩
                rw [← part_succ]
                exact heap_set hdp hlr _
              case measure => simp [intOf]; omega
            · obtain rfl : r = 8 := by omega
              have HH := hid (And.intro hz (And.intro hp (And.intro hx hB2)))
              clear hz hp hx hB2
              go_wp2
              go_roundw
              case rel =>
                obtain ⟨hz, hp, hx, hB2⟩ := HH.out
                refine ⟨k + 1, by omega, by go_num, hz, ?_, hB2⟩
                rw [HY.out.2, ← HY.out.1, ← part_mx HY2.out HX.out.2.2.2]
                exact hp
              case measure => simp [intOf]; omega
    · obtain rfl : k = len := by omega
      have ht : l.take k = l := List.take_of_length_le (by rw [HI.out.1]; exact Nat.le_refl _)
      rw [ht] at hx
      obtain ⟨d0, d1, d2, d3, d4, d5, d6, d7⟩ := cells8 hx
      have fr := freeV hz
      obtain ⟨z0, z1, z2, z3, z4, z5, z6, z7⟩ := cells8 hz
      have HX := hid (And.intro hz hx)
      clear hz hx ht
      go_wp2
      exact bodyPost_ret (results_cell_row rfl _ _ _ _ _ _ _ rfl (heap_set8 HX.out.1 rfl (comb mx l)) Try.underlying24 rfl (by kernel_rfl)) rfl ⟨rfl, Below.set8 hB (Nat.le_refl _) _ _ _ _ _ _ _ _⟩

set_option maxHeartbeats 2000000 in
set_option maxRecDepth 100000 in
theorem combine_min (v : Value) (l : List Vec) (w : World) (hv : VecsV w v l) :
    Calls Try.prog 36 #[.func (.func 38) #[] #[], v] w
      fun e w' => e = .returned (.agg #[.int .u32 ((comb mn l) 0 : Int), .int .u32 ((comb mn l) 1 : Int), .int .u32 ((comb mn l) 2 : Int), .int .u32 ((comb mn l) 3 : Int), .int .u32 ((comb mn l) 4 : Int), .int .u32 ((comb mn l) 5 : Int), .int .u32 ((comb mn l) 6 : Int), .int .u32 ((comb mn l) 7 : Int)]) ∧ Below w.heap.size w w' := by
  obtain ⟨ad, len, cap, rfl, hI⟩ := hv
  have hcap : len ≤ 9223372036854775807 := by have := hI.2.1; have := hI.2.2.1; unfold maxLen at this; omega
  have HI := hid hI
  clear hI
  have htwo := fun x y W => two_min x y W
  have H0 := hid (And.intro (box2_0 w zeroV zeroV) (And.intro (box2_1 w zeroV zeroV) (below_al2 w (.cells #[.int .u32 (zeroV 0 : Int), .int .u32 (zeroV 1 : Int), .int .u32 (zeroV 2 : Int), .int .u32 (zeroV 3 : Int), .int .u32 (zeroV 4 : Int), .int .u32 (zeroV 5 : Int), .int .u32 (zeroV 6 : Int), .int .u32 (zeroV 7 : Int)] 24) (.cells #[.int .u32 (zeroV 0 : Int), .int .u32 (zeroV 1 : Int), .int .u32 (zeroV 2 : Int), .int .u32 (zeroV 3 : Int), .int .u32 (zeroV 4 : Int), .int .u32 (zeroV 5 : Int), .int .u32 (zeroV 6 : Int), .int .u32 (zeroV 7 : Int)] 24))))
  go_enter Try.func36, Try.ntmps36
  go_wp2
  go_loopw [11] (fun i wr => ∃ k : Nat, k ≤ len ∧ i = .int .i64 k ∧ wr.heap[w.heap.size]? = some (.cells (vc zeroV) 24 (0, 0)) ∧ wr.heap[w.heap.size + 1]? = some (.cells (vc (comb mn (l.take k))) 24 (0, 0)) ∧ Below w.heap.size w wr) (fun i _ => len - (intOf i).toNat)
  case atStart => exact ⟨0, by omega, rfl, H0.out.1, H0.out.2.1, H0.out.2.2⟩
  case round =>
    obtain ⟨k, hk, rfl, hz, hx, hB⟩ := hrel
    obtain ⟨wo, hwo⟩ : ∃ wo : World, wo = wr := ⟨_, rfl⟩
    subst hwo
    by_cases hlt : k < len
    · cases ad with
      | none => have := HI.out.none_len; omega
      | some ad =>
        obtain ⟨x, B, O, sp, hxk, hxo, hA, _, c0, c1, c2, c3, c4, c5, c6, c7⟩ := (HI.out.keep hB).at k hlt
        have HX := hid (And.intro hz (And.intro hx (And.intro hxk hxo)))
        have hfr := freeV hx
        obtain ⟨e0, e1, e2, e3, e4, e5, e6, e7⟩ := cells8 hx
        have hs := lt_of_heap hx
        clear hz hx hxk hxo
        by_cases hk0 : k = 0
        · have hk0' : ((k : Int) == 0) = true := by simpa using hk0
          have ee := hid (show comb mn (l.take (k + 1)) = x by rw [comb_take HX.out.2.2.1, if_pos hk0])
          clear hk0
          go_wp2
          clear hk0'
          go_roundw
          case rel => exact ⟨k + 1, by omega, by go_num, heap_al (heap_set8_other (by omega) HX.out.1) _, by rw [ee.out]; exact heap_al (heap_set8 HX.out.2.1 rfl x) _, Below.alloc (Below.set8 hB (by omega) _ _ _ _ _ _ _ _) (by simpa using hB.size) _⟩
          case measure => simp [intOf]; omega
        · have hk0' : ((k : Int) == 0) = false := by simpa using hk0
          go_wp2
          obtain ⟨y, hy⟩ : ∃ y, y = comb mn (l.take k) := ⟨_, rfl⟩
          have HY := hid (And.intro hy (show comb mn (l.take (k + 1)) = mn (comb mn (l.take k)) x by rw [comb_take HX.out.2.2.1, if_neg hk0]))
          have HY2 := hid (show okV y by rw [hy]; exact comb_ok (fun _ _ => ok_mn) _ (fun z hz => HI.out.2.2.2.1 z (List.mem_of_mem_take hz)))
          rw [← hy] at HX e0 e1 e2 e3 e4 e5 e6 e7
          clear hy hk0 hk0'
          have HI1 := hid (And.intro (heap_al HX.out.1 (.cells #[.int .u32 (x 0 : Int), .int .u32 (x 1 : Int), .int .u32 (x 2 : Int), .int .u32 (x 3 : Int), .int .u32 (x 4 : Int), .int .u32 (x 5 : Int), .int .u32 (x 6 : Int), .int .u32 (x 7 : Int)] 24)) (And.intro (heap_al HX.out.2.1 (.cells #[.int .u32 (x 0 : Int), .int .u32 (x 1 : Int), .int .u32 (x 2 : Int), .int .u32 (x 3 : Int), .int .u32 (x 4 : Int), .int .u32 (x 5 : Int), .int .u32 (x 6 : Int), .int .u32 (x 7 : Int)] 24)) (And.intro (heap_alloc_last' wo (.cells #[.int .u32 (x 0 : Int), .int .u32 (x 1 : Int), .int .u32 (x 2 : Int), .int .u32 (x 3 : Int), .int .u32 (x 4 : Int), .int .u32 (x 5 : Int), .int .u32 (x 6 : Int), .int .u32 (x 7 : Int)] 24)) (hB.alloc hB.size (.cells #[.int .u32 (x 0 : Int), .int .u32 (x 1 : Int), .int .u32 (x 2 : Int), .int .u32 (x 3 : Int), .int .u32 (x 4 : Int), .int .u32 (x 5 : Int), .int .u32 (x 6 : Int), .int .u32 (x 7 : Int)] 24)))))
          clear e0 e1 e2 e3 e4 e5 e6 e7 c0 c1 c2 c3 c4 c5 c6 c7 hfr
          go_loopw [20] (fun i W2 => ∃ r : Nat, r ≤ 8 ∧ i = .int .i64 r ∧ W2.heap[w.heap.size]? = some (.cells (vc zeroV) 24 (0, 0)) ∧ W2.heap[w.heap.size + 1]? = some (.cells (vc (part min y x r)) 24 (0, 0)) ∧ W2.heap[wo.heap.size]? = some (.cells (vc x) 24 (0, 0)) ∧ Below w.heap.size w W2) (fun i _ => 8 - (intOf i).toNat)
          case atStart => exact ⟨0, by omega, rfl, HI1.out.1, by rw [part_zero]; exact HI1.out.2.1, HI1.out.2.2.1, HI1.out.2.2.2⟩
          case round =>
            obtain ⟨r, hr, rfl, hz, hp, hx, hB2⟩ := hrel
            by_cases hlr : r < 8
            · have c0 := cellV hp hlr
              rw [part_at] at c0
              have c1 := cellV hx hlr
              have f0 := freeV hp r
              have HH := hid (And.intro hz (And.intro hp (And.intro hx hB2)))
              clear hz hp hx hB2
              have HW := hid (show Below w.heap.size w wr.drew from HH.out.2.2.2.drew)
              go_wp2
              refine wp_region_still_tail_w 9 (by kernel_rfl) (by kernel_rfl) ?_
              intro wd hwd
              have d0 : wd.cell? ⟨w.heap.size + 1, r, none⟩ = some (.int .u32 (y r : Int)) := by rw [hwd]; exact c0
              have d1 : wd.cell? ⟨wo.heap.size, r, none⟩ = some (.int .u32 (x r : Int)) := by rw [hwd]; exact c1
              have d2 : wd.frozen? ⟨w.heap.size + 1, r, none⟩ = false := by rw [hwd]; exact f0
              have HD := hid hwd
              clear hwd c0 c1 f0
              simp only [List.take_succ_cons, List.take_zero, List.drop_succ_cons, List.drop_zero]
              repeat still_step
              still_call ((htwo _ _ _).mono fun _ _ ⟨he, hw⟩ => ⟨he, hw.symm⟩)
              refine wpStill_nil ?_
              go_wp2
              go_roundw
              case rel =>
                obtain ⟨hz, hp, hx, hB2⟩ := HH.out
                have hdz : wd.heap[w.heap.size]? = some (.cells (vc zeroV) 24 (0, 0)) := by rw [HD.out]; exact hz
                have hdp : wd.heap[w.heap.size + 1]? = some (.cells (vc (part min y x r)) 24 (0, 0)) := by rw [HD.out]; exact hp
                have hdx : wd.heap[wo.heap.size]? = some (.cells (vc x) 24 (0, 0)) := by rw [HD.out]; exact hx
                have hdb : Below w.heap.size w wd := by rw [HD.out]; exact hB2.drew
                refine ⟨r + 1, by omega, by go_num, heap_other (by omega) hdz, ?_, heap_other (by omega) hdx, Below.setCell (p := ⟨w.heap.size + 1, r, none⟩) hdb (by simp) _⟩
                rw [← part_succ]
                exact heap_set hdp hlr _
              case measure => simp [intOf]; omega
            · obtain rfl : r = 8 := by omega
              have HH := hid (And.intro hz (And.intro hp (And.intro hx hB2)))
              clear hz hp hx hB2
              go_wp2
              go_roundw
              case rel =>
                obtain ⟨hz, hp, hx, hB2⟩ := HH.out
                refine ⟨k + 1, by omega, by go_num, hz, ?_, hB2⟩
                rw [HY.out.2, ← HY.out.1, ← part_mn HY2.out HX.out.2.2.2]
                exact hp
              case measure => simp [intOf]; omega
    · obtain rfl : k = len := by omega
      have ht : l.take k = l := List.take_of_length_le (by rw [HI.out.1]; exact Nat.le_refl _)
      rw [ht] at hx
      obtain ⟨d0, d1, d2, d3, d4, d5, d6, d7⟩ := cells8 hx
      have fr := freeV hz
      obtain ⟨z0, z1, z2, z3, z4, z5, z6, z7⟩ := cells8 hz
      have HX := hid (And.intro hz hx)
      clear hz hx ht
      go_wp2
      exact bodyPost_ret (results_cell_row rfl _ _ _ _ _ _ _ rfl (heap_set8 HX.out.1 rfl (comb mn l)) Try.underlying24 rfl (by kernel_rfl)) rfl ⟨rfl, Below.set8 hB (Nat.le_refl _) _ _ _ _ _ _ _ _⟩

end Go.Proofs.Ytckfdjfcikljaaa
