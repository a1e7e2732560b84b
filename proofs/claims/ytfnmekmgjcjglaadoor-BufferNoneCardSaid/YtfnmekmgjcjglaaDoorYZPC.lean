/-
  Buffers in memory; what looks at them: none, Has, New, zeroFrom.
-/
import Derived.Test.YtfnmekmgjcjglaaDoorYNA
import Derived.Test.YtfnmekmgjcjglaaDoorYKR
namespace Go.Proofs.YtfnmekmgjcjglaaDoor.V
set_option linter.unusedVariables false
set_option linter.unusedSimpArgs false
set_option maxRecDepth 100000
open Go Go.RowKit Go.Maps Wire
/-- A buffer's cells. -/
def bufC (n : Nat) (h : Vec) (mb : Nat) : Array Value := #[.int .i64 (n : Int), .int .u32 (h 0 : Int), .int .u32 (h 1 : Int), .int .u32 (h 2 : Int), .int .u32 (h 3 : Int), .int .u32 (h 4 : Int), .int .u32 (h 5 : Int), .int .u32 (h 6 : Int), .int .u32 (h 7 : Int), .map (some mb)]
theorem check_short {o : OpM} {l : List Claim} {n : Int} (h1 : 1 ≤ n) (h8 : n ≤ 8) (h : checkM o l n = 0) : l.length ≤ 16 := by
  unfold checkM at h
  rw [if_neg (by omega), if_neg (by omega)] at h
  by_cases h2 : nameM o n.toNat = true
  · rw [if_pos h2] at h
    by_cases h3 : headM o = true
    · rw [if_pos h3] at h
      by_cases h4 : (simM o (hasP o.kd) && (dotsM o (hasP o.kd) && linesM o l (hasP o.kd))) = true
      · simp only [Bool.and_eq_true] at h4
        have h5 := h4.2.2
        unfold linesM at h5
        split at h5
        · have : l.length = 0 := by simpa using h5
          omega
        · unfold okLB at h5
          exact (of_decide_eq_true h5).2.1
      · rw [if_neg h4] at h; omega
    · rw [if_neg h3] at h; omega
  · rw [if_neg h2] at h; omega
/-- The buffer at p, its map at mb: n replicas, h handed on, c waits. -/
structure BufAt (w : World) (p mb n : Nat) (h : Vec) (c : List OC) : Prop where
  obj : w.heap[p]? = some (.cells (bufC n h mb) 60 (0, 0))
  map : MapAt w mb c
  ok : BufP n h c
  lines : ∀ x ∈ c, ClaimsB 0 w x.1.lv x.2
theorem BufAt.short {w : World} {p mb n : Nat} {h : Vec} {c : List OC} (b : BufAt w p mb n h c) : ∀ x ∈ c, x.2.length ≤ 16 := fun x hx => check_short (by have := b.ok.n1; omega) (by have := b.ok.n8; omega) (b.ok.ok x hx)
theorem BufAt.oks {w : World} {p mb n : Nat} {h : Vec} {c : List OC} (b : BufAt w p mb n h c) : ∀ x ∈ c, okO x.1 := b.map.2.2
theorem BufAt.one {w : World} {p mb n : Nat} {h : Vec} {c : List OC} (b : BufAt w p mb n h c) : ∀ x ∈ c, x.1.lv.oneCell' = true := fun x hx => (b.lines x hx).1.oneCell
theorem BufAt.ltp {w : World} {p mb n : Nat} {h : Vec} {c : List OC} (b : BufAt w p mb n h c) : p < w.heap.size := lt_of_heap b.obj
theorem BufAt.ltm {w : World} {p mb n : Nat} {h : Vec} {c : List OC} (b : BufAt w p mb n h c) : mb < w.heap.size := b.map.lt
theorem BufAt.ne {w : World} {p mb n : Nat} {h : Vec} {c : List OC} (b : BufAt w p mb n h c) : p ≠ mb := fun e => by
  obtain ⟨es, clock, hm⟩ := b.map.obj
  rw [← e, b.obj] at hm
  cases hm
/-- What keeps both blocks, and blocks of lines. -/
theorem BufAt.same {w w' : World} {p mb n : Nat} {h : Vec} {c : List OC} (b : BufAt w p mb n h c) (h1 : w'.heap[p]? = w.heap[p]?) (h2 : w'.heap[mb]? = w.heap[mb]?)
    (hs : ∀ (b : Nat) (cs : Array Value), w.heap[b]? = some (.cells cs 94 (0, 0)) → w'.heap[b]? = some (.cells cs 94 (0, 0))) : BufAt w' p mb n h c :=
  ⟨h1.trans b.obj, b.map.same h2, b.ok, fun x hx => (b.lines x hx).typ (fun k hk => absurd hk (Nat.not_lt_zero k)) hs⟩
theorem BufAt.keep {w w' : World} {p mb n : Nat} {h : Vec} {c : List OC} (b : BufAt w p mb n h c) (hB : Below w.heap.size w w') : BufAt w' p mb n h c :=
  b.same (hB.block _ b.ltp) (hB.block _ b.ltm) (fun k cs hc => heap_keep hc hB)
theorem BufAt.c0 {w : World} {p mb n : Nat} {h : Vec} {c : List OC} (b : BufAt w p mb n h c) : w.cell? ⟨p, 0, none⟩ = some (.int .i64 (n : Int)) := (cell_of_heap b.obj).trans rfl
theorem BufAt.cv {w : World} {p mb n : Nat} {h : Vec} {c : List OC} (b : BufAt w p mb n h c) : ∀ k, k < 8 → w.cell? ((⟨p, 1, none⟩ : Addr).add k) = some (.int .u32 (h k : Int)) := fun k hk => by
  rw [add88, cell_of_heap b.obj]
  match k, hk with
  | 0, _ => rfl
  | 1, _ => rfl
  | 2, _ => rfl
  | 3, _ => rfl
  | 4, _ => rfl
  | 5, _ => rfl
  | 6, _ => rfl
  | 7, _ => rfl
theorem BufAt.c9 {w : World} {p mb n : Nat} {h : Vec} {c : List OC} (b : BufAt w p mb n h c) : w.cell? ⟨p, 9, none⟩ = some (.map (some mb)) := (cell_of_heap b.obj).trans rfl
/-- Only this buffer changes. -/
structure Mov (p mb : Nat) (w w' : World) : Prop where
  os : w'.os = w.os
  tape : w'.tape = w.tape
  output : w'.output = w.output
  size : w.heap.size ≤ w'.heap.size
  block : ∀ k, k < w.heap.size → k ≠ p → k ≠ mb → w'.heap[k]? = w.heap[k]?
theorem Mov.refl (p mb : Nat) (w : World) : Mov p mb w w := ⟨rfl, rfl, rfl, Nat.le_refl _, fun _ _ _ _ => rfl⟩
theorem Mov.of {p mb : Nat} {w w' : World} (h : Below w.heap.size w w') : Mov p mb w w' := ⟨h.os, h.tape, h.output, h.size, fun k hk _ _ => h.block k hk⟩
theorem Mov.trans {p mb : Nat} {a b c : World} (h : Mov p mb a b) (k : Mov p mb b c) : Mov p mb a c :=
  ⟨k.os.trans h.os, k.tape.trans h.tape, k.output.trans h.output, Nat.le_trans h.size k.size, fun i hi h1 h2 => (k.block i (Nat.lt_of_lt_of_le hi h.size) h1 h2).trans (h.block i hi h1 h2)⟩
theorem Mov.below {B p mb : Nat} {a b c : World} (h : Below B a b) (k : Mov p mb b c) (hB : B ≤ b.heap.size) (hp : B ≤ p) (hm : B ≤ mb) : Below B a c :=
  ⟨k.os.trans h.os, k.tape.trans h.tape, k.output.trans h.output, Nat.le_trans h.size k.size, fun i hi => (k.block i (Nat.lt_of_lt_of_le hi hB) (by omega) (by omega)).trans (h.block i hi)⟩
theorem Mov.turned {p mb : Nat} {w w' : World} (h : w.mapTurned w' mb) : Mov p mb w w' := by
  have g := h.grown
  exact ⟨g.os, g.tape, g.output, g.size, fun k hk _ h2 => g.block k hk (fun e => h2 (by cases e; rfl))⟩
theorem Mov.setCell {p mb : Nat} {w : World} {i : Nat} {u : Value} : Mov p mb w (w.setCell ⟨p, i, none⟩ u) :=
  ⟨rfl, rfl, rfl, by simp [World.setCell], fun k hk h1 _ => by simp [World.setCell, Array.getElem?_modify, Ne.symm h1]⟩
/-- Blocks of cells that are no buffer stay. -/
theorem Mov.typ {w w' : World} {p mb n : Nat} {h : Vec} {c : List OC} (b : BufAt w p mb n h c) (m : Mov p mb w w') {k : Nat} {cs : Array Value} {t : TypeId} {fr : Nat × Nat} (ht : t ≠ 60) (hk : w.heap[k]? = some (.cells cs t fr)) : w'.heap[k]? = some (.cells cs t fr) := by
  refine (m.block k (lt_of_heap hk) (fun e => ?_) (fun e => ?_)).trans hk
  · rw [e, b.obj] at hk
    cases hk
    exact ht rfl
  · obtain ⟨es, clock, hm⟩ := b.map.obj
    rw [e, hm] at hk
    cases hk
/-- Another buffer stays as it was. -/
theorem BufAt.mov {w w' : World} {p mb n : Nat} {h : Vec} {c : List OC} (b : BufAt w p mb n h c) {p' mb' n' : Nat} {h' : Vec} {c' : List OC} (b' : BufAt w p' mb' n' h' c') (hp : p' ≠ p) (hm : mb' ≠ mb) (m : Mov p mb w w') : BufAt w' p' mb' n' h' c' := by
  refine b'.same (m.block _ b'.ltp hp (fun e => ?_)) (m.block _ b'.ltm (fun e => ?_) hm) (fun k cs hc => Mov.typ b m (by decide) hc)
  · obtain ⟨es, clock, hm⟩ := b.map.obj
    rw [← e, b'.obj] at hm
    cases hm
  · obtain ⟨es, clock, hm⟩ := b'.map.obj
    rw [e, b.obj] at hm
    cases hm
theorem Mov.claims {w w' : World} {p mb n : Nat} {h : Vec} {c : List OC} (b : BufAt w p mb n h c) (m : Mov p mb w w') {v : Value} {l : List Claim} (hc : ClaimsB 0 w v l) : ClaimsB 0 w' v l :=
  hc.typ (fun k hk => absurd hk (Nat.not_lt_zero k)) (fun k cs hk => Mov.typ b m (by decide) hk)
/-- A row of one's own stays. -/
theorem Mov.own {w w' : World} {p mb n : Nat} {h : Vec} {c : List OC} (b : BufAt w p mb n h c) (m : Mov p mb w w') {B : Nat} (hBp : B ≤ p) (hBm : B ≤ mb) (hB : B ≤ w.heap.size) {v : Value} {l : List OC} (ho : OwnO B w v l) : OwnO B w' v l :=
  ho.same (fun k hk => m.block k (by omega) (by omega) (by omega)) (fun k cs t ht hk => Mov.typ b m (by rcases ht with rfl | rfl <;> decide) hk)
/-! ### functions that look -/
theorem buffer_none {w : World} {p mb n : Nat} {h : Vec} {c : List OC} (b : BufAt w p mb n h c) :
    Calls Tryd.prog 25 #[.pointer (some ⟨p, 0, none⟩)] w fun e w' => e = .returned (.bool false) ∧ w' = w := by
  have h0 := b.c0
  have hn : ((n : Int) == 0) = false := by have := b.ok.n1; simp; omega
  clear b
  go_enter Tryd.func25, Tryd.ntmps25
  go_wp2
  go_ret
  exact ⟨by first | rfl | simp [hn], rfl⟩
theorem buffer_nil (w : World) :
    Calls Tryd.prog 25 #[.pointer none] w fun e w' => e = .returned (.bool true) ∧ w' = w := by
  go_enter Tryd.func25, Tryd.ntmps25
  go_wp2
  go_ret
  exact ⟨rfl, rfl⟩
theorem buffer_zero (p : Nat) (w : World) (h0 : w.cell? ⟨p, 0, none⟩ = some (.int .i64 0)) :
    Calls Tryd.prog 25 #[.pointer (some ⟨p, 0, none⟩)] w fun e w' => e = .returned (.bool true) ∧ w' = w := by
  go_enter Tryd.func25, Tryd.ntmps25
  go_wp2
  go_ret
  exact ⟨rfl, rfl⟩
theorem buffer_Has {w : World} {p mb n : Nat} {h : Vec} {c : List OC} (b : BufAt w p mb n h c) :
    Calls Tryd.prog 17 #[.pointer (some ⟨p, 0, none⟩)] w fun e w' => e = .returned (.agg (vc h)) ∧ Below w.heap.size w w' := by
  have HB := hid b
  have hnone := fun (W : World) (hB : Below w.heap.size w W) => buffer_none (b.keep hB)
  clear b
  go_enter Tryd.func17, Tryd.ntmps17
  go_wp2_with (first
    | (go_at_call 25; refine (hnone _ (below_al _ _)).mono ?_; rintro e w1 ⟨rfl, rfl⟩)
    | (refine load_vecIn _ rfl rfl ⟨p, 1, none⟩ rfl h (HB.out.keep (below_al _ _)).cv ?_)
    | (refine wpList_store_row rfl _ _ _ rfl w.heap.size (vc h) rfl rfl 30 (vc zeroV) (heap_alloc_last' _ _) (sizeV _) rfl (oneVc _) ?_))
  (try simp only [Exit.inBlock, Exit.then])
  refine bodyPost_ret (results_cell_row rfl _ _ _ _ _ _ _ rfl (setRow_heap _ _ _ _ _ _ (heap_alloc_last' _ _)) Tryd.underlying30 rfl (sizeV _)) rfl ?_
  exact ⟨rfl, Below.setRow (below_al _ _) (Nat.le_refl _) _⟩
/-- What is told of a buffer that is none. -/
def NoneP (w : World) (v : Value) : Prop := v = .pointer none ∨ ∃ p, v = .pointer (some ⟨p, 0, none⟩) ∧ w.cell? ⟨p, 0, none⟩ = some (.int .i64 0)
theorem NoneP.keep {w w' : World} {v : Value} (h : NoneP w v) (hB : Below w.heap.size w w') : NoneP w' v := by
  rcases h with h | ⟨p, h1, h2⟩
  · exact .inl h
  · exact .inr ⟨p, h1, cell_keep hB h2⟩
theorem none_none {w : World} {v : Value} (h : NoneP w v) :
    Calls Tryd.prog 25 #[v] w fun e w' => e = .returned (.bool true) ∧ w' = w := by
  rcases h with rfl | ⟨p, rfl, h2⟩
  · exact buffer_nil w
  · exact buffer_zero p w h2
theorem none_Has {w : World} {v : Value} (h : NoneP w v) :
    Calls Tryd.prog 17 #[v] w fun e w' => e = .returned (.agg (vc zeroV)) ∧ Below w.heap.size w w' := by
  have hnone := fun (W : World) (hB : Below w.heap.size w W) => none_none (h.keep hB)
  clear h
  go_enter Tryd.func17, Tryd.ntmps17
  go_wp2_with (first
    | (go_at_call 25; refine (hnone _ (below_al _ _)).mono ?_; rintro e w1 ⟨rfl, rfl⟩)
    | (refine wpList_store_row rfl _ _ _ rfl w.heap.size (vc zeroV) rfl rfl 30 (vc zeroV) (heap_alloc_last' _ _) (sizeV _) rfl (oneVc _) ?_))
  (try simp only [Exit.inBlock, Exit.then])
  refine bodyPost_ret (results_cell_row rfl _ _ _ _ _ _ _ rfl (setRow_heap _ _ _ _ _ _ (heap_alloc_last' _ _)) Tryd.underlying30 rfl (sizeV _)) rfl ?_
  exact ⟨rfl, Below.setRow (below_al _ _) (Nat.le_refl _) _⟩
theorem none_Waits {w : World} {v : Value} (h : NoneP w v) :
    Calls Tryd.prog 18 #[v] w fun e w' => e = .returned (.slice none 0 0) ∧ Below w.heap.size w w' := by
  have hnone := none_none h
  clear h
  go_enter Tryd.func18, Tryd.ntmps18
  go_wp2_with (go_at_call 25; refine hnone.mono ?_; rintro e w1 ⟨rfl, rfl⟩)
  go_ret
  exact ⟨rfl, Below.refl _ _⟩
theorem none_Copy {w : World} {v : Value} (h : NoneP w v) :
    Calls Tryd.prog 12 #[v] w fun e w' => e = .returned (.pointer none) ∧ Below w.heap.size w w' := by
  have hnone := none_none h
  clear h
  go_enter Tryd.func12, Tryd.ntmps12
  go_wp2_with (go_at_call 25; refine hnone.mono ?_; rintro e w1 ⟨rfl, rfl⟩)
  go_ret
  exact ⟨rfl, Below.refl _ _⟩
theorem none_Put {w : World} {v u : Value} (h : NoneP w v) :
    Calls Tryd.prog 13 #[v, u] w fun e w' => e = .returned (.tuple #[.slice none 0 0, .int .i64 1]) ∧ Below w.heap.size w w' := by
  have hnone := none_none h
  clear h
  go_enter Tryd.func13, Tryd.ntmps13
  go_wp2_with (go_at_call 25; refine hnone.mono ?_; rintro e w1 ⟨rfl, rfl⟩)
  (try simp only [Exit.inBlock, Exit.then])
  refine bodyPost_ret (results_tmp2 rfl _ _ _) rfl ?_
  exact ⟨rfl, Below.refl _ _⟩
/-! ### New -/
/-- Is a vector 0 from here on? -/
def zeroFromB (v : Vec) (n : Nat) : Bool := (List.range 8).all fun r => decide (r < n) || decide (v r = 0)
theorem zeroFrom_iff {v : Vec} {n : Nat} : zeroFromB v n = true ↔ ∀ r, r < 8 → n ≤ r → v r = 0 := by
  unfold zeroFromB
  rw [List.all_eq_true]
  constructor
  · intro h r hr hn
    have := h r (List.mem_range.2 hr)
    simp only [Bool.or_eq_true, decide_eq_true_eq] at this
    omega
  · intro h r hr
    rw [List.mem_range] at hr
    simp only [Bool.or_eq_true, decide_eq_true_eq]
    by_cases hn : r < n
    · exact .inl hn
    · exact .inr (h r hr (by omega))
theorem buffer_zeroFrom (v : Vec) (n : Nat) (hn : n ≤ 8) (w : World) :
    Calls Tryd.prog 23 #[.agg (vc v), .int .i64 (n : Int)] w fun e w' => e = .returned (.bool (zeroFromB v n)) ∧ Below w.heap.size w w' := by
  have hb := heap_alloc_last' w (.cells (vc v) 30)
  have HC := hid (show ∀ k, k < 8 → (w.alloc (.cells (vc v) 30)).cell? ⟨w.heap.size, k, none⟩ = some (.int .u32 (v k : Int)) from fun k hk => cellV hb hk)
  have HB := hid (below_al w (.cells (vc v) 30))
  by_cases h8 : n = 8
  · subst h8
    rw [zeroFrom_iff.2 fun r hr h => by omega]
    clear hb
    go_enter Tryd.func23, Tryd.ntmps23
    go_wp2
    go_loopw [10] (fun i wr => i = .int .i64 0 ∧ Hid (Below w.heap.size w wr)) (fun _ _ => 0)
    case atStart => exact ⟨rfl, HB⟩
    case round =>
      obtain ⟨rfl, HR⟩ := hrel
      go_wp2
      go_ret
      exact ⟨rfl, HR.out⟩
  · have h1 : (n : Int) ≤ 8 := by omega
    have h2 : ¬ (8 < n) := by omega
    have h3 : ¬ (8 = n) := by omega
    clear hb
    go_enter Tryd.func23, Tryd.ntmps23
    go_wp2
    obtain ⟨m, hm⟩ : ∃ m, m = 8 - n := ⟨_, rfl⟩
    rw [← hm]
    have HM := hid hm
    have hm8 : m ≤ 8 := by omega
    clear hm h1 h2 h3
    go_loopw [10] (fun i wr => ∃ k : Nat, k ≤ m ∧ i = .int .i64 (k : Nat) ∧ Hid (∀ r, r < n + k → n ≤ r → v r = 0) ∧ Hid (wr = w.alloc (.cells (vc v) 30))) (fun i _ => m - (intOf i).toNat)
    case atStart => exact ⟨0, by omega, rfl, hid (fun r h1 h2 => by omega), hid rfl⟩
    case round =>
      obtain ⟨k, hk, rfl, HZ, HR⟩ := hrel
      obtain rfl := HR.out
      by_cases hlt : k < m
      · have hc := HC.out (n + k) (by have := HM.out; omega)
        have h1 : (k : Int) < (m : Int) := by omega
        by_cases hz : v (n + k) = 0
        · have hz' : ((v (n + k) : Int) != 0) = false := by simp [hz]
          rw [hz] at hc
          have HH := hid hz
          clear hz
          go_wp2
          go_roundw
          case rel =>
            refine ⟨k + 1, by omega, by go_num, hid (fun r h1 h2 => ?_), hid (by first | trivial | rfl)⟩
            by_cases e : r = n + k
            · rw [e]; exact HH.out
            · exact HZ.out r (by omega) h2
          case measure => exact meas1 hlt
        · have hz' : ((v (n + k) : Int) != 0) = true := by simpa using hz
          have HF := hid (show zeroFromB v n = false from by
            cases h : zeroFromB v n with
            | false => rfl
            | true => exact absurd (zeroFrom_iff.1 h (n + k) (by have := HM.out; omega) (by omega)) hz)
          clear hz
          go_wp2
          go_ret
          exact ⟨by rw [HF.out]; rfl, HB.out⟩
      · obtain rfl : k = m := by omega
        have HF := hid (show zeroFromB v n = true from zeroFrom_iff.2 fun r hr h => HZ.out r (by have := HM.out; omega) h)
        go_wp2
        go_ret
        exact ⟨by rw [HF.out]; rfl, HB.out⟩
theorem built_buf (n : Nat) (v : Vec) (mb : Nat) : Tryd.prog.built 60 [(0, .int .i64 (n : Int)), (1, .agg (vc v)), (2, .map (some mb))] = some (bufC n v mb) := by kernel_rfl
section
variable {ops : Array Oper} {rest : List Oper} {c : Oper} {a : Act} {w : World} {Q : Exit → Act → World → Prop}
theorem build_buf (hg : c.guard = none) (x y z : Operand) (ho : c.op = .build 60 #[(0, x), (1, y), (2, z)]) (n : Nat) (v : Vec) (mb : Nat) (hx : a.eval x = .int .i64 (n : Int)) (hy : a.eval y = .agg (vc v)) (hz : a.eval z = .map (some mb))
    (h : wpList Tryd.prog ops Q rest (a.put c.dst (.agg (bufC n v mb))) w) : wpList Tryd.prog ops Q (c :: rest) a w := by
  have e : (Tryd.prog.built 60 ((#[(0, x), (1, y), (2, z)] : Array (Nat × Operand)).map fun (i, x) => (i, a.eval x)).toList) = some (bufC n v mb) := by
    simp only [List.map_toArray, List.map_cons, List.map_nil, hx, hy, hz]
    exact built_buf n v mb
  refine wpList_build hg _ _ ho (by rw [e]; rfl) ?_
  rw [e]
  exact h
theorem box_buf (hg : c.guard = none) (x : Operand) (ho : c.op = .box 60 x) (n : Nat) (v : Vec) (mb : Nat) (hx : a.eval x = .agg (bufC n v mb))
    (h : wpList Tryd.prog ops Q rest (a.put c.dst (.pointer (some ⟨w.heap.size, 0, none⟩))) (w.alloc (.cells (bufC n v mb) 60))) : wpList Tryd.prog ops Q (c :: rest) a w := by
  refine wpList_plain hg fun K hK => ?_
  unfold Oper.wp execOp
  simp only [ho, hx, Sem.run_bind, Instr.box, newVar, newRow, run_newObj_alloc, Sem.run_pure, Result.andThen_ok]
  exact hK _ _ h
end
/-- What New answers. -/
def NewP (w : World) (n : Int) (v : Vec) (e : Ending) (w' : World) : Prop := (((n < 1 ∨ 8 < n) ∨ zeroFromB v n.toNat = false) → e = .returned (.tuple #[.pointer none, .int .i64 2])) ∧
      (¬ (n < 1 ∨ 8 < n) → zeroFromB v n.toNat = true → ∃ p mb, e = .returned (.tuple #[.pointer (some ⟨p, 0, none⟩), .int .i64 0]) ∧ w.heap.size ≤ p ∧ w.heap.size ≤ mb ∧ BufAt w' p mb n.toNat v []) ∧ Below w.heap.size w w'
theorem buffer_New (n : Int) (v : Vec) (hv : okV v) (w : World) :
    Calls Tryd.prog 8 #[.int .i64 n, .agg (vc v)] w fun e w' => NewP w n v e w' := by
  have hb := heap_alloc_last' w (.cells (vc v) 30)
  have HB := hid (below_al w (.cells (vc v) 30))
  have HV := hid hb
  by_cases h1 : n < 1
  · clear hb
    go_enter Tryd.func8, Tryd.ntmps8
    go_wp2
    (try simp only [Exit.inBlock, Exit.then])
    refine bodyPost_ret (results_tmp2 rfl _ _ _) rfl ?_
    exact ⟨fun _ => rfl, fun h => absurd (.inl h1) h, HB.out⟩
  · by_cases h8 : 8 < n
    · clear hb
      go_enter Tryd.func8, Tryd.ntmps8
      go_wp2
      (try simp only [Exit.inBlock, Exit.then])
      refine bodyPost_ret (results_tmp2 rfl _ _ _) rfl ?_
      exact ⟨fun _ => rfl, fun h => absurd (.inr h8) h, HB.out⟩
    · obtain ⟨m, rfl⟩ : ∃ m : Nat, n = m := ⟨n.toNat, by omega⟩
      have hzf := buffer_zeroFrom v m (by omega) (w.alloc (.cells (vc v) 30))
      obtain ⟨z, hz⟩ : ∃ z, zeroFromB v m = z := ⟨_, rfl⟩
      rw [hz] at hzf
      have HN := hid (And.intro h1 h8)
      have HZ := hid hz
      clear hb hz
      cases z
      · go_enter Tryd.func8, Tryd.ntmps8
        go_wp2_with (first
          | (refine load_vecIn _ rfl rfl ⟨w.heap.size, 0, none⟩ rfl v (fun k hk => by rw [add8]; exact cellV HV.out hk) ?_)
          | (go_at_call 23; refine hzf.mono ?_; rintro e w1 ⟨rfl, hb1⟩; have HB1 := hid hb1; clear hb1 hzf))
        (try simp only [Exit.inBlock, Exit.then])
        refine bodyPost_ret (results_tmp2 rfl _ _ _) rfl ?_
        exact ⟨fun _ => rfl, fun _ h => (by rw [Int.toNat_natCast, HZ.out] at h; cases h), below_next HB.out HB1.out⟩
      · go_enter Tryd.func8, Tryd.ntmps8
        go_wp2_with (first
          | (refine load_vecIn _ rfl rfl ⟨w.heap.size, 0, none⟩ rfl v (fun k hk => by rw [add8]; exact cellV HV.out hk) ?_)
          | (refine load_vecIn _ rfl rfl ⟨w.heap.size, 0, none⟩ rfl v (fun k hk => by rw [add8]; exact cellV (heap_keep HV.out HB1.out) hk) ?_)
          | (go_at_call 23; refine hzf.mono ?_; rintro e w1 ⟨rfl, hb1⟩; have HB1 := hid hb1; clear hb1 hzf; have hmk := make_map w1)
          | (refine build_buf rfl _ _ _ rfl m v w1.heap.size rfl rfl rfl ?_)
          | (refine box_buf rfl _ rfl m v w1.heap.size rfl ?_))
        (try simp only [Exit.inBlock, Exit.then])
        refine bodyPost_ret (results_tmp2 rfl _ _ _) rfl ?_
        have hm1 := map_made w1
        have hm2 := hm1.keep (below_al _ (.cells (bufC m v w1.heap.size) 60))
        have hsz : (w1.alloc (.map #[] 0)).heap.size = w1.heap.size + 1 := by simp
        have hob := heap_alloc_last' (w1.alloc (.map #[] 0)) (.cells (bufC m v w1.heap.size) 60)
        rw [hsz] at hob
        have hB2 := below_next HB.out HB1.out
        refine ⟨fun h => ?_, fun _ _ => ⟨w1.heap.size + 1, w1.heap.size, rfl, by have := hB2.size; omega, hB2.size, ⟨hob, hm2, ⟨by omega, by omega, hv, by simp, fun x hx => (by cases hx), fun x hx => (by cases hx)⟩, fun x hx => (by cases hx)⟩⟩, (hB2.alloc hB2.size _).alloc (by have := hB2.size; simp; omega) _⟩
        rcases h with h | h
        · have := HN.out; omega
        · rw [Int.toNat_natCast, HZ.out] at h; cases h
end Go.Proofs.YtfnmekmgjcjglaaDoor.V
