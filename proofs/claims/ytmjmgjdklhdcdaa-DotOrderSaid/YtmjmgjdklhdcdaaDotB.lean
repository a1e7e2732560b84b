/-
  Contracts of package dot and of the document's answer for it: keys.
-/
import Derived.Test.YtmjmgjdklhdcdaaDotA
namespace Go.Proofs.Ytmjmgjdklhdcdaa
set_option linter.unusedVariables false
set_option linter.unusedSimpArgs false
open Go Go.RowKit Go.Sort

theorem ret_pair {k l : IntKind} {a b c : Int} (h : a = b) : Ending.returned (.tuple #[.int k a, .int l c]) = .returned (.tuple #[.int k b, .int l c]) := by rw [h]
theorem ret_u64 {a b : Int} (h : a = b) : Ending.returned (.int .u64 a) = .returned (.int .u64 b) := by rw [h]

theorem below_drewN (B : Nat) (w : World) (q : Nat) : Below B w (w.drewN q) := ⟨rfl, rfl, rfl, Nat.le_refl _, fun _ _ => rfl⟩

theorem or_key (r n : Nat) (hr : r < 8) (hn : n < 4294967296) : bits .or .u64 ((n : Int) * 8) (r : Int) = ((8 * n + r : Nat) : Int) := by
  have e : (n : Int) * 8 = ((8 * n : Nat) : Int) := by omega
  have hx : (8 * n) ||| r = 8 * n + r := by
    have h := Nat.two_pow_add_eq_or_of_lt (i := 3) hr n
    rw [show (2 : Nat) ^ 3 = 8 from rfl] at h
    exact h.symm
  rw [e]
  show IntKind.u64.wrap ((BitVec.ofInt 64 ((8 * n : Nat) : Int) ||| BitVec.ofInt 64 (r : Int)).toNat : Int) = _
  rw [BitVec.toNat_or, ofNat_toNat 64 (8 * n) (by omega), ofNat_toNat 64 r (by omega), hx]
  simp [IntKind.wrap, IntKind.bits, IntKind.signed]; omega

theorem refCompare (x y : Dot) (hx : x.ok) (hy : y.ok) (w : World) :
    Calls Try.prog 15 #[.agg #[.int .u8 (x.1 : Int), .int .u32 (x.2 : Int)], .agg #[.int .u8 (y.1 : Int), .int .u32 (y.2 : Int)]] w
      fun e w' => e = .returned (.int .i64 (cmpD x y)) ∧ Below w.heap.size w w' := by
  obtain ⟨r, n⟩ := x
  obtain ⟨s, m⟩ := y
  obtain ⟨hr, hn⟩ := hx
  obtain ⟨hs, hm⟩ := hy
  have hr' : r < 256 := hr
  have hn' : n < 4294967296 := hn
  have hs' : s < 256 := hs
  have hm' : m < 4294967296 := hm
  have hc : cmpD (r, n) (s, m) = if (r : Int) * 8589934592 + n < s * 8589934592 + m then -1 else if (r : Int) * 8589934592 + n > s * 8589934592 + m then 1 else 0 := by
    unfold cmpD orI cmpN
    dsimp only
    by_cases h1 : r < s
    · rw [if_pos h1, if_pos (by omega), if_pos (by omega)]
    · by_cases h2 : s < r
      · rw [if_neg h1, if_pos h2, if_pos (by omega), if_neg (by omega), if_pos (by omega)]
      · obtain rfl : r = s := by omega
        rw [if_neg h1, if_neg h1, if_neg (by simp)]
        by_cases h3 : n < m
        · rw [if_pos h3, if_pos (by omega)]
        · rw [if_neg h3, if_neg (show ¬ ((r : Int) * 8589934592 + n < r * 8589934592 + m) by omega)]
          by_cases h4 : m < n
          · rw [if_pos h4, if_pos (by omega)]
          · rw [if_neg h4, if_neg (by omega)]
  have HC : Hid (cmpD (r, n) (s, m) = if (r : Int) * 8589934592 + n < s * 8589934592 + m then -1 else if (r : Int) * 8589934592 + n > s * 8589934592 + m then 1 else 0) := hc
  clear hc hr hn hs hm
  by_cases h1 : (r : Int) * 8589934592 + n < s * 8589934592 + m
  · go_enter Try.func15, Try.ntmps15
    go_wp2
    go_quiet (fail)
    go_wp2
    go_ret
    exact ⟨ret_int (by rw [HC.out, if_pos h1]), (((Below.refl _ _).alloc (Nat.le_refl _) _).alloc (by simp) _).trans (below_drewN _ _ _)⟩
  · by_cases h2 : (s : Int) * 8589934592 + m < r * 8589934592 + n
    · go_enter Try.func15, Try.ntmps15
      go_wp2
      go_quiet (fail)
      go_wp2
      go_ret
      exact ⟨ret_int (by rw [HC.out, if_neg (by omega), if_pos h2]), (((Below.refl _ _).alloc (Nat.le_refl _) _).alloc (by simp) _).trans (below_drewN _ _ _)⟩
    · go_enter Try.func15, Try.ntmps15
      go_wp2
      go_quiet (fail)
      go_wp2
      go_ret
      exact ⟨ret_int (by rw [HC.out, if_neg (by omega), if_neg (by omega)]), (((Below.refl _ _).alloc (Nat.le_refl _) _).alloc (by simp) _).trans (below_drewN _ _ _)⟩

def keyD (d : Dot) : Nat := if mayD d then 8 * d.2 + d.1 else 0
def keyE (d : Dot) : Int := if mayD d then 0 else 2

theorem dot_Key (d : Dot) (hd : d.ok) (w : World) :
    Calls Try.prog 8 #[.agg #[.int .u8 (d.1 : Int), .int .u32 (d.2 : Int)]] w
      fun e w' => e = .returned (.tuple #[.int .u64 (keyD d : Nat), .int .i64 (keyE d)]) ∧ Below w.heap.size w w' := by
  obtain ⟨r, n⟩ := d
  obtain ⟨hr, hn⟩ := hd
  have hr' : r < 256 := hr
  have hn' : n < 4294967296 := hn
  have hmay := fun W => dot_May (r, n) W
  unfold keyD keyE
  cases hb : mayD (r, n)
  · rw [hb] at hmay
    rw [if_neg (by simp), if_neg (by simp)]
    clear hb
    go_enter Try.func8, Try.ntmps8
    go_wp2_with (go_at_call 12; refine (hmay _).mono ?_; rintro e w' ⟨rfl, hB⟩)
    go_ret2
    exact ⟨rfl, ((Below.refl _ _).alloc (Nat.le_refl _) _).trans (hB.mono (by simp))⟩
  · rw [hb] at hmay
    have hr8 : r < 8 := by simp [mayD] at hb; exact hb.1
    rw [if_pos rfl, if_pos rfl]
    clear hb
    go_enter Try.func8, Try.ntmps8
    go_wp2_with (go_at_call 12; refine (hmay _).mono ?_; rintro e w' ⟨rfl, hB⟩; obtain ⟨hc, hf⟩ := bcell hB)
    go_ret2
    exact ⟨ret_pair (or_key r n hr8 hn'), ((Below.refl _ _).alloc (Nat.le_refl _) _).trans (hB.mono (by simp))⟩

theorem ref_Key (d : Dot) (hd : d.ok) (w : World) :
    Calls Try.prog 9 #[.agg #[.int .u8 (d.1 : Int), .int .u32 (d.2 : Int)]] w
      fun e w' => e = .returned (.tuple #[.int .u64 (keyD d : Nat), .int .i64 (keyE d)]) ∧ Below w.heap.size w w' := by
  obtain ⟨r, n⟩ := d
  obtain ⟨hr, hn⟩ := hd
  have hr' : r < 256 := hr
  have hn' : n < 4294967296 := hn
  have hmay := fun W => ref_May (r, n) W
  unfold keyD keyE
  cases hb : mayD (r, n)
  · rw [hb] at hmay
    rw [if_neg (by simp), if_neg (by simp)]
    clear hb
    go_enter Try.func9, Try.ntmps9
    go_wp2_with (go_at_call 13; refine (hmay _).mono ?_; rintro e w' ⟨rfl, hB⟩)
    go_ret2
    exact ⟨rfl, ((Below.refl _ _).alloc (Nat.le_refl _) _).trans (hB.mono (by simp))⟩
  · rw [hb] at hmay
    have hr8 : r < 8 := by simp [mayD] at hb; exact hb.1
    rw [if_pos rfl, if_pos rfl]
    clear hb
    go_enter Try.func9, Try.ntmps9
    go_wp2_with (go_at_call 13; refine (hmay _).mono ?_; rintro e w' ⟨rfl, hB⟩; obtain ⟨hc, hf⟩ := bcell hB)
    go_ret2
    exact ⟨ret_pair (by omega), ((Below.refl _ _).alloc (Nat.le_refl _) _).trans (hB.mono (by simp))⟩

/-! ### what a number is the key of -/
def ofOk (k : Nat) : Bool := decide (8 ≤ k) && decide (k < 34359738368)
def ofD (k : Nat) : Dot := if ofOk k then (k % 8, k / 8) else (0, 0)
def ofE (k : Nat) : Int := if ofOk k then 0 else 5

theorem and_mask (b m : Nat) (k : Nat) (hk : k < 18446744073709551616) (hm : m = 2 ^ b - 1) (hb : m < 18446744073709551616) : bits .and .u64 (k : Int) (m : Int) = ((k % 2 ^ b : Nat) : Int) := by
  have hx : k &&& m = k % 2 ^ b := by rw [hm]; exact Nat.and_two_pow_sub_one_eq_mod k b
  show IntKind.u64.wrap ((BitVec.ofInt 64 (k : Int) &&& BitVec.ofInt 64 (m : Int)).toNat : Int) = _
  rw [BitVec.toNat_and, ofNat_toNat 64 k (by omega), ofNat_toNat 64 m (by omega), hx]
  have : k % 2 ^ b ≤ k := Nat.mod_le _ _
  generalize k % 2 ^ b = z at *
  simp [IntKind.wrap, IntKind.bits, IntKind.signed]; omega

theorem results_row_tmp {P : Program} {fn : Func} {u p : Tmp} {ty : TypeId} (h : fn.results = #[.cell p ty, .tmp u]) (tmps : Array Value) (w : World) (g : Nat) (t : TypeId) (cs : Array Value) (fr : Nat × Nat) (d : TypeDesc) (v : Value)
    (hv : tmps.getD u undef = v) (hp : tmps.getD p undef = .pointer (some ⟨g, 0, none⟩)) (hg : w.heap[g]? = some (.cells cs t fr))
    (hu : P.underlying ty = some d) (hd : (match d with | .struct _ | .array _ _ => true | _ => false) = true) (hi : (P.info? ty).map (·.size) = some cs.size) :
    (results fn tmps).run P w = .ok (.tuple #[.agg cs, v]) w := by
  have hp' : tmps[p]?.getD undef = .pointer (some ⟨g, 0, none⟩) := by simpa using hp
  have hv' : tmps[u]?.getD undef = v := by simpa using hv
  simp [results, h, hp', hv', asAddr, run_loadVar_row w g t ty cs fr d hg hu hd hi]

theorem heap_alloc_last' (w : World) (o : Obj) : (w.alloc o).heap[w.heap.size]? = some o := by
  show (w.heap.push o)[w.heap.size]? = _
  simp

def ofWorld (w : World) (k a b : Nat) (v1 v2 c0 c1 : Value) : World := (((((((w.alloc (Obj.cells #[.int .u64 (k : Int)] 25)).alloc (Obj.cells #[.int .u8 0, .int .u32 0] 24)).drewN a).setCell ⟨w.heap.size, 0, none⟩ v1).drewN b).setCell ⟨w.heap.size, 0, none⟩ v2).setCell ⟨w.heap.size + 1, 0, none⟩ c0).setCell ⟨w.heap.size + 1, 1, none⟩ c1
theorem ofWorld_heap (w : World) (k a b : Nat) (v1 v2 c0 c1 : Value) : (ofWorld w k a b v1 v2 c0 c1).heap[w.heap.size + 1]? = some (.cells #[c0, c1] 24 (0, 0)) := by
  unfold ofWorld
  refine (heap_setCell_same _ _ 1 #[c0, .int .u32 0] _ _ ?_).trans rfl
  refine (heap_setCell_same _ _ 0 #[.int .u8 0, .int .u32 0] _ _ ?_).trans rfl
  rw [heap_setCell_other _ _ _ _ (by simp)]
  show (World.setCell _ _ _).heap[_]? = _
  rw [heap_setCell_other _ _ _ _ (by simp)]
  show ((w.alloc _).alloc _).heap[w.heap.size + 1]? = _
  have h := heap_alloc_last' (w.alloc (Obj.cells #[.int .u64 (k : Int)] 25)) (Obj.cells #[.int .u8 0, .int .u32 0] 24)
  rw [World.size_alloc] at h
  exact h
theorem ofWorld_below (w : World) (k a b : Nat) (v1 v2 c0 c1 : Value) : Below w.heap.size w (ofWorld w k a b v1 v2 c0 c1) := by
  have h0 : Below w.heap.size w ((w.alloc (Obj.cells #[.int .u64 (k : Int)] 25)).alloc (Obj.cells #[.int .u8 0, .int .u32 0] 24)) := ((Below.refl _ _).alloc (Nat.le_refl _) _).alloc (by simp) _
  exact ((((((h0.trans (below_drewN _ _ a)).setCell (p := ⟨w.heap.size, 0, none⟩) (Nat.le_refl _) v1).trans (below_drewN _ _ b)).setCell (p := ⟨w.heap.size, 0, none⟩) (Nat.le_refl _) v2).setCell (p := ⟨w.heap.size + 1, 0, none⟩) (Nat.le_succ _) c0).setCell (p := ⟨w.heap.size + 1, 1, none⟩) (Nat.le_succ _) c1)

set_option maxHeartbeats 2000000 in
theorem dot_Of (k : Nat) (hk : k < 18446744073709551616) (w : World) :
    Calls Try.prog 10 #[.int .u64 (k : Int)] w
      fun e w' => e = .returned (.tuple #[.agg #[.int .u8 ((ofD k).1 : Int), .int .u32 ((ofD k).2 : Int)], .int .i64 (ofE k)]) ∧ Below w.heap.size w w' := by
  have m1 := and_mask 3 7 k hk (by decide) (by decide)
  have m2 := and_mask 32 4294967295 (k / 8) (by omega) (by decide) (by decide)
  have e1 : ((k / 8 : Nat) : Int) = (k : Int) / 8 := by omega
  rw [e1] at m2
  unfold ofD ofE
  cases hb : ofOk k
  · rw [if_neg (by simp), if_neg (by simp)]
    by_cases h1 : k / 8 / 4294967296 = 0
    · have h2 : k / 8 % 4294967296 = 0 := by simp [ofOk] at hb; omega
      have h1' : (k : Int) / 8 / 4294967296 = 0 := by omega
      have h2' : bits .and .u64 ((k : Int) / 8) 4294967295 = 0 := m2.trans (by omega)
      clear h1 h2 hb m1 m2 e1
      go_enter Try.func10, Try.ntmps10
      go_wp2
      go_quiet (fail)
      go_wp2
      go_quiet (fail)
      go_wp2
      exact bodyPost_ret (results_row_tmp rfl _ _ _ _ _ _ _ _ rfl rfl (ofWorld_heap w k _ _ _ _ _ _) Try.underlying24 rfl (by kernel_rfl)) rfl ⟨rfl, ofWorld_below w k _ _ _ _ _ _⟩
    · have h1' : ((k : Int) / 8 / 4294967296 == 0) = false := by simp; omega
      have h2' : ((k : Int) / 8 / 4294967296 != 0) = true := by simp; omega
      clear h1 hb m1 m2 e1
      go_enter Try.func10, Try.ntmps10
      go_wp2
      go_quiet (fail)
      go_wp2
      go_quiet (fail)
      go_wp2
      exact bodyPost_ret (results_row_tmp rfl _ _ _ _ _ _ _ _ rfl rfl (ofWorld_heap w k _ _ _ _ _ _) Try.underlying24 rfl (by kernel_rfl)) rfl ⟨rfl, ofWorld_below w k _ _ _ _ _ _⟩
  · rw [if_pos rfl, if_pos rfl]
    have hk8 : 8 ≤ k ∧ k < 34359738368 := by simpa [ofOk] using hb
    obtain ⟨h8, h35⟩ := hk8
    have h1' : (k : Int) / 8 / 4294967296 = 0 := by omega
    have h2' : bits .and .u64 ((k : Int) / 8) 4294967295 = (k : Int) / 8 := m2.trans (by omega)
    have h3' : ((k : Int) / 8 == 0) = false := by simp; omega
    have h4' : ((k : Int) / 8 != 0) = true := by simp; omega
    have h5' : bits .and .u64 (k : Int) 7 = (k : Int) % 8 := m1.trans (by omega)
    have h6' : 0 ≤ (k : Int) % 8 := by omega
    have h7' : (k : Int) % 8 < 256 := by omega
    have h8' : 0 ≤ (k : Int) / 8 := by omega
    have h9' : (k : Int) / 8 < 4294967296 := by omega
    clear hb m1 m2 e1
    go_enter Try.func10, Try.ntmps10
    go_wp2
    go_quiet (fail)
    go_wp2
    go_quiet (fail)
    go_wp2
    exact bodyPost_ret (results_row_tmp rfl _ _ _ _ _ _ _ _ rfl rfl (ofWorld_heap w k _ _ _ _ _ _) Try.underlying24 rfl (by kernel_rfl)) rfl ⟨by simp, ofWorld_below w k _ _ _ _ _ _⟩

set_option maxHeartbeats 1000000 in
theorem ref_Of (k : Nat) (hk : k < 18446744073709551616) (w : World) :
    Calls Try.prog 11 #[.int .u64 (k : Int)] w
      fun e w' => e = .returned (.tuple #[.agg #[.int .u8 ((ofD k).1 : Int), .int .u32 ((ofD k).2 : Int)], .int .i64 (ofE k)]) ∧ Below w.heap.size w w' := by
  unfold ofD ofE
  cases hb : ofOk k
  · rw [if_neg (by simp), if_neg (by simp)]
    by_cases h1 : k < 8
    · have h1' : (k : Int) / 8 < 1 := by omega
      clear hb h1
      go_enter Try.func11, Try.ntmps11
      go_wp2
      exact bodyPost_ret (results_row_tmp rfl _ _ _ _ _ _ _ _ rfl rfl (heap_alloc_last' _ _) Try.underlying24 rfl (by kernel_rfl)) rfl ⟨rfl, (Below.refl _ _).alloc (Nat.le_refl _) _⟩
    · have h1' : ¬ (k : Int) / 8 < 1 := by omega
      have h2' : (4294967295 : Int) < (k : Int) / 8 := by simp [ofOk] at hb; omega
      clear hb h1
      go_enter Try.func11, Try.ntmps11
      go_wp2
      exact bodyPost_ret (results_row_tmp rfl _ _ _ _ _ _ _ _ rfl rfl (heap_alloc_last' _ _) Try.underlying24 rfl (by kernel_rfl)) rfl ⟨rfl, (Below.refl _ _).alloc (Nat.le_refl _) _⟩
  · rw [if_pos rfl, if_pos rfl]
    have hk8 : 8 ≤ k ∧ k < 34359738368 := by simpa [ofOk] using hb
    obtain ⟨h8, h35⟩ := hk8
    have h1' : ¬ (k : Int) / 8 < 1 := by omega
    have h2' : ¬ (4294967295 : Int) < (k : Int) / 8 := by omega
    clear hb
    go_enter Try.func11, Try.ntmps11
    go_wp2
    exact bodyPost_ret (results_row_tmp rfl _ _ _ _ _ _ _ _ rfl rfl (heap_alloc_last' _ _) Try.underlying24 rfl (by kernel_rfl)) rfl ⟨by simp, (Below.refl _ _).alloc (Nat.le_refl _) _⟩

theorem law_d (r n : Nat) (w : World) : Calls Try.prog 32 #[.int .u8 (r : Int), .int .u32 (n : Int)] w
      fun e w' => e = .returned (.agg #[.int .u8 (r : Int), .int .u32 (n : Int)]) ∧ Below w.heap.size w w' := by
  go_enter Try.func32, Try.ntmps32
  go_wp2
  exact bodyPost_ret (results_cell_row rfl _ _ _ _ _ _ _ rfl (heap_alloc_last' _ _) Try.underlying24 rfl (by kernel_rfl)) rfl ⟨rfl, (Below.refl _ _).alloc (Nat.le_refl _) _⟩

end Go.Proofs.Ytmjmgjdklhdcdaa
