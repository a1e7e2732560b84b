/-
  Contracts of the document's answer for package wire: numbers and texts read.
-/
import Derived.Test.YtagjgknkkbkjgaaJD
import Derived.WalkLawsBesides
namespace Go.Proofs.Ytagjgknkkbkjgaa
open Go Go.RowKit Wire

set_option maxRecDepth 100000
set_option linter.unusedVariables false
set_option linter.unusedSimpArgs false
theorem takeNum_of_none {l : List UInt8} (h : parse l = none) (most : Nat) : takeNum (some l) most = (0, none) := by
  unfold takeNum; rw [Option.bind_some, h]
theorem takeNum_of_some {l r : List UInt8} {n : Nat} (h : parse l = some (n, r)) (most : Nat) : takeNum (some l) most = if n ≤ most then (n, some r) else (0, none) := by
  unfold takeNum; rw [Option.bind_some, h]

theorem ref_TakeNum (st : St) (hs : Small st) (most : Nat) (W : World) :
    Calls Try.prog 43 #[.agg (rcells st), .int .u64 most] W fun e w' => e = .returned (.tuple #[.int .u64 ((takeNum st most).1 : Nat), .agg (rcells (takeNum st most).2)]) ∧ Below W.heap.size W w' := by
  match st, hs with
  | none, _ => exact takeNum_A none rfl most W
  | some [], _ => exact takeNum_A (some []) rfl most W
  | some (b :: r), hs =>
    have hl : (b :: r).length ≤ 1000000 := hs
    have hsz : (ba (b :: r)).size = r.length + 1 := by rw [ba_size]; rfl
    have hb256 := Wire.u8_lt b
    by_cases hb : b.toNat < 128
    · have hp : parse (b :: r) = some (b.toNat, r) := by rw [parse_cons, if_pos hb]
      rw [takeNum_of_some hp]
      have hR : (ba (b :: r)).extract 1 (ba (b :: r)).size = ba r := by
        have := ba_extract_from (b :: r) 1
        rw [ba_size]; exact this
      have hN := fun W => ref_Num b.toNat (by omega) W
      rw [enc_small hb, UInt8.ofNat_toNat] at hN
      have := takeNum_B (ba (b :: r)) (ba [b]) (ba r) b.toNat most (by rw [hsz]; simpa using hl) (by rw [hsz]; omega) rfl hb (ba_extract_to (b :: r) 1) hR hN W
      by_cases hm : b.toNat ≤ most
      · rw [if_pos hm] at this ⊢; exact this
      · rw [if_neg hm] at this ⊢; exact this
    · obtain ⟨k, hk⟩ : ∃ k : Nat, k = b.toNat - 128 := ⟨_, rfl⟩
      by_cases hkr : 8 < k ∨ (ba (b :: r)).size < 1 + k
      · have hp : parse (b :: r) = none := by
          rw [parse_cons, if_neg hb, if_neg]
          rintro ⟨c1, _, _, c4⟩
          rw [hsz] at hkr; omega
        rw [takeNum_of_none hp]
        exact takeNum_C1 (ba (b :: r)) b.toNat k most (by rw [hsz]; simpa using hl) (by rw [hsz]; omega) rfl (by omega) hkr (by omega) W
      · have hk8 : k ≤ 8 := by omega
        have hkl : k ≤ r.length := by rw [hsz] at hkr; omega
        have hbound : ∀ j, j ≤ k → big (r.take j) < 18446744073709551616 := fun j hj => by
          have h1 := big_lt (r.take j)
          have h2 : (r.take j).length ≤ 8 := by rw [List.length_take]; omega
          have h3 := Nat.pow_le_pow_right (show 0 < 256 by omega) h2
          exact Nat.lt_of_lt_of_le h1 (by simpa using h3)
        have hstep : ∀ j, j < k → ∀ h : j + 1 < (ba (b :: r)).size, big (r.take (j + 1)) = 256 * big (r.take j) + (ba (b :: r))[j + 1].toNat := fun j hj h => by
          have hjr : j < r.length := by omega
          rw [List.take_succ_eq_append_getElem hjr, big_snoc]
          rfl
        have hR : (ba (b :: r)).extract (1 + k) (ba (b :: r)).size = ba (r.drop k) := by
          have := ba_extract_from (b :: r) (1 + k)
          rw [show (b :: r).drop (1 + k) = r.drop k by rw [Nat.add_comm]; rfl] at this
          rw [ba_size]; exact this
        have hP : (ba (b :: r)).extract 0 (1 + k) = ba (b :: r.take k) := by
          have := ba_extract_to (b :: r) (1 + k)
          rw [show (b :: r).take (1 + k) = b :: r.take k by rw [Nat.add_comm]; rfl] at this
          exact this
        have hcat : b :: r = (b :: r.take k) ++ r.drop k := by simp
        have hm := hbound k (Nat.le_refl _)
        have hyes : enc (big (r.take k)) = b :: r.take k → parse (b :: r) = some (big (r.take k), r.drop k) := fun e => by
          rw [hcat, ← e]; exact parse_enc hm _
        have hno : enc (big (r.take k)) ≠ b :: r.take k → parse (b :: r) = none := fun e => by
          rw [parse_cons, if_neg hb, if_neg]
          rw [← hk]
          intro hc
          have hp : parse (b :: r) = some (big (r.take k), r.drop k) := by rw [parse_cons, if_neg hb, ← hk, if_pos hc]
          have := (parse_some hp).1
          rw [hcat] at this
          exact e (List.append_cancel_right this).symm
        refine takeNum_C (ba (b :: r)) (ba (b :: r.take k)) (ba (r.drop k)) (ba (enc (big (r.take k)))) b.toNat k most (big (r.take k)) (fun j => big (r.take j)) (decide (enc (big (r.take k)) = b :: r.take k)) _ ⟨fun hc => ?_, fun hc => ?_⟩ (by rw [hsz]; simpa using hl) (by rw [hsz]; omega) rfl (by omega) hk8 (by omega) rfl hstep hbound rfl hP hR ?_ (ref_Num _ hm) W
        · have e : enc (big (r.take k)) = b :: r.take k := by simpa using hc.1
          rw [takeNum_of_some (hyes e), if_pos hc.2]
          rfl
        · by_cases e : enc (big (r.take k)) = b :: r.take k
          · rw [takeNum_of_some (hyes e), if_neg (fun x => hc ⟨by simpa using e, x⟩)]
            rfl
          · rw [takeNum_of_none (hno e)]
            rfl
        · rw [beq_lists, ba_list, ba_list]

theorem rcells_form (st : St) : ∃ X f, rcells st = #[.string X, .bool f] := by
  cases st <;> exact ⟨_, _, rfl⟩

def textRes : St → Nat → Array Value
  | some r, n => if n ≤ r.length then #[.string (ba (r.take n)), .agg #[.string (ba (r.drop n)), .bool true]] else #[.string ⟨#[]⟩, .agg #[.string ⟨#[]⟩, .bool false]]
  | none, _ => #[.string ⟨#[]⟩, .agg #[.string ⟨#[]⟩, .bool false]]

set_option maxHeartbeats 4000000 in
set_option maxRecDepth 100000 in
theorem takeText_walk (X : ByteArray) (f : Bool) (most : Int) (n : Nat) (st1 : St) (hs1 : Small st1) (h1m : -9223372036854775808 ≤ most) (h2m : most < 9223372036854775808) (hn : n < 18446744073709551616)
    (hnum : ∀ W, Calls Try.prog 43 #[.agg #[.string X, .bool f], .int .u64 (max most 0)] W fun e w' => e = .returned (.tuple #[.int .u64 (n : Nat), .agg (rcells st1)]) ∧ Below W.heap.size W w') (res : Array Value)
    (hres : res = textRes st1 n) (W : World) :
    Calls Try.prog 44 #[.agg #[.string X, .bool f], .int .i64 most] W fun e w' => e = .returned (.tuple res) ∧ Below W.heap.size W w' := by
  have hx := first_two W (.cells #[.string X, .bool f] 78) (.cells #[.string ⟨#[]⟩, .bool false] 78)
  have hy := last_two W (.cells #[.string X, .bool f] 78) (.cells #[.string ⟨#[]⟩, .bool false] 78)
  have hb := below_two W (.cells #[.string X, .bool f] 78) (.cells #[.string ⟨#[]⟩, .bool false] 78)
  have hx0 := (cell_of_heap (j := 0) hx).trans rfl
  have hx1 := (cell_of_heap (j := 1) hx).trans rfl
  have HY : Hid _ := hy
  clear hx hy
  cases st1 with
  | none =>
    simp only [rcells] at hnum
    simp only [textRes] at hres
    subst hres
    go_enter Try.func44, Try.ntmps44
    go_wp2_with (first | (go_at_call 43; refine (hnum _).mono ?_; rintro e w1 ⟨rfl, hb1⟩; clear hnum; have HY1 : Hid (w1.heap[W.heap.size + 1]? = some (.cells #[.string ⟨#[]⟩, .bool false] 78 (0, 0))) := (hb1.block _ (lt_of_some HY.out)).trans HY.out; have hB1 := below_next hb hb1) | (go_at_call 69; refine (ref_failed _).mono ?_; rintro e w5 ⟨rfl, hb5⟩; have HY5 : Hid (w5.heap[W.heap.size + 1]? = some (.cells #[.string ⟨#[]⟩, .bool false] 78 (0, 0))) := (hb5.block _ (by have := lt_of_some HY1.out; simp; omega)).trans ((Below.heap_alloc _ _ _ (lt_of_some HY1.out)).trans HY1.out); have hc0 := (cell_of_heap (j := 0) HY5.out).trans rfl; have hc1 := (cell_of_heap (j := 1) HY5.out).trans rfl; have hfr := fun j => free_of_heap (j := j) HY5.out))
    exact bodyPost_ret (v := .tuple #[.string ⟨#[]⟩, .agg #[.string ⟨#[]⟩, .bool false]]) (results_tmp_row rfl _ _ (W.heap.size + 1) 78 #[.string ⟨#[]⟩, .bool false] (0, 0) _ _ rfl rfl (set2_heap HY5.out _ _) Try.underlying78 rfl (by kernel_rfl)) rfl ⟨rfl, ((below_next hB1 (((Below.refl _ w1).alloc (Nat.le_refl _) _).trans (hb5.mono (by simp)))).setCell (by simp) _).setCell (by simp) _⟩
  | some r =>
    simp only [rcells] at hnum
    have hl : r.length ≤ 1000000 := hs1
    have hsz := ba_size r
    have hcv : IntKind.u64.wrap (r.length : Int) = r.length := by rw [wrap_u64]; omega
    by_cases hle : n ≤ r.length
    · simp only [textRes, if_pos hle] at hres
      subst hres
      have he1 := ba_extract_to r n
      have he2 := ba_extract_from r n
      have hw : IntKind.i64.wrap (n : Int) = n := by simp [IntKind.wrap, IntKind.bits, IntKind.signed]; omega
      go_enter Try.func44, Try.ntmps44
      go_wp2_with (go_at_call 43; refine (hnum _).mono ?_; rintro e w1 ⟨rfl, hb1⟩; clear hnum; have HY1 : Hid (w1.heap[W.heap.size + 1]? = some (.cells #[.string ⟨#[]⟩, .bool false] 78 (0, 0))) := (hb1.block _ (lt_of_some HY.out)).trans HY.out; have hB1 := below_next hb hb1)
      have HY2 : Hid ((w1.alloc (.cells #[.string (ba r), .bool true] 78)).heap[W.heap.size + 1]? = some (.cells #[.string ⟨#[]⟩, .bool false] 78 (0, 0))) := (Below.heap_alloc _ _ _ (lt_of_some HY1.out)).trans HY1.out
      have hd := heap_alloc_last w1 (.cells #[.string (ba r), .bool true] 78)
      have hd0 := (cell_of_heap (j := 0) hd).trans rfl
      have hd1 := (cell_of_heap (j := 1) hd).trans rfl
      have hc0 := (cell_of_heap (j := 0) HY2.out).trans rfl
      have hc1 := (cell_of_heap (j := 1) HY2.out).trans rfl
      have hfr := fun j => free_of_heap (j := j) HY2.out
      have hB2 : Below W.heap.size W (w1.alloc (.cells #[.string (ba r), .bool true] 78)) := hB1.alloc hB1.size _
      clear hd
      generalize w1.alloc (.cells #[.string (ba r), .bool true] 78) = w2 at *
      go_region
      all_goals
        go_wp2
        exact bodyPost_ret (v := .tuple #[.string (ba (r.take n)), .agg #[.string (ba (r.drop n)), .bool true]]) (results_tmp_row rfl _ _ (W.heap.size + 1) 78 #[.string (ba (r.drop n)), .bool true] (0, 0) _ _ rfl rfl (set2_heap HY2.out _ _) Try.underlying78 rfl (by kernel_rfl)) rfl ⟨rfl, ((hB2.drew).setCell (by simp) _).setCell (by simp) _⟩
    · simp only [textRes, if_neg hle] at hres
      subst hres
      go_enter Try.func44, Try.ntmps44
      go_wp2_with (first | (go_at_call 43; refine (hnum _).mono ?_; rintro e w1 ⟨rfl, hb1⟩; clear hnum; have HY1 : Hid (w1.heap[W.heap.size + 1]? = some (.cells #[.string ⟨#[]⟩, .bool false] 78 (0, 0))) := (hb1.block _ (lt_of_some HY.out)).trans HY.out; have hB1 := below_next hb hb1) | (go_at_call 69; refine (ref_failed _).mono ?_; rintro e w5 ⟨rfl, hb5⟩; have HY5 : Hid (w5.heap[W.heap.size + 1]? = some (.cells #[.string ⟨#[]⟩, .bool false] 78 (0, 0))) := (hb5.block _ (by have := lt_of_some HY1.out; simp; omega)).trans ((Below.heap_alloc _ _ _ (lt_of_some HY1.out)).trans HY1.out); have hc0 := (cell_of_heap (j := 0) HY5.out).trans rfl; have hc1 := (cell_of_heap (j := 1) HY5.out).trans rfl; have hfr := fun j => free_of_heap (j := j) HY5.out))
      exact bodyPost_ret (v := .tuple #[.string ⟨#[]⟩, .agg #[.string ⟨#[]⟩, .bool false]]) (results_tmp_row rfl _ _ (W.heap.size + 1) 78 #[.string ⟨#[]⟩, .bool false] (0, 0) _ _ rfl rfl (set2_heap HY5.out _ _) Try.underlying78 rfl (by kernel_rfl)) rfl ⟨rfl, ((below_next hB1 (((Below.refl _ w1).alloc (Nat.le_refl _) _).trans (hb5.mono (by simp)))).setCell (by simp) _).setCell (by simp) _⟩

theorem ref_TakeText (st : St) (hs : Small st) (most : Int) (h1m : -9223372036854775808 ≤ most) (h2m : most < 9223372036854775808) (W : World) :
    Calls Try.prog 44 #[.agg (rcells st), .int .i64 most] W fun e w' => e = .returned (.tuple #[.string (ba (takeText st most).1), .agg (rcells (takeText st most).2)]) ∧ Below W.heap.size W w' := by
  obtain ⟨X, f, hX⟩ := rcells_form st
  have hnum := fun W => ref_TakeNum st hs most.toNat W
  rw [show ((most.toNat : Nat) : Int) = max most 0 by omega] at hnum
  rw [hX] at hnum ⊢
  refine takeText_walk X f most _ _ (small_takeNum hs _) h1m h2m (takeNum_lt _ _) hnum _ ?_ W
  unfold takeText
  cases h : (takeNum st most.toNat).2 with
  | none => rfl
  | some r =>
    by_cases hl : (takeNum st most.toNat).1 ≤ r.length
    · simp only [textRes, if_pos hl]; rfl
    · simp only [textRes, if_neg hl]; rfl

end Go.Proofs.Ytagjgknkkbkjgaa

/-
  Contracts of the document's answer for package wire: dots read.
-/
namespace Go.Proofs.Ytagjgknkkbkjgaa
open Go Go.RowKit Wire

set_option maxRecDepth 100000
set_option linter.unusedVariables false
set_option linter.unusedSimpArgs false
theorem last_three (W : World) (a b c : Obj) : (((W.alloc a).alloc b).alloc c).heap[W.heap.size + 2]? = some c := by
  have := heap_alloc_last ((W.alloc a).alloc b) c
  rw [World.size_alloc, World.size_alloc] at this
  exact this
theorem first_three (W : World) (a b c : Obj) : (((W.alloc a).alloc b).alloc c).heap[W.heap.size]? = some a := (Below.heap_alloc _ _ _ (by simp; omega)).trans (first_two W a b)
theorem kept_block {w w' : World} {g : Nat} {o : Obj} (h : w.heap[g]? = some o) (hb : Below w.heap.size w w') : w'.heap[g]? = some o := (hb.block _ (lt_of_some h)).trans h
theorem kept_alloc {w : World} {g : Nat} {o : Obj} (h : w.heap[g]? = some o) (o' : Obj) : (w.alloc o').heap[g]? = some o := (Below.heap_alloc _ _ _ (lt_of_some h)).trans h

theorem set22 {w : World} {b1 b2 : Nat} {t1 t2 : TypeId} {z0 z1 y0 y1 : Value} (hne : b1 ≠ b2) (h1 : w.heap[b1]? = some (.cells #[z0, z1] t1 (0, 0))) (h2 : w.heap[b2]? = some (.cells #[y0, y1] t2 (0, 0))) (a0 a1 c0 c1 : Value) :
    ((((w.setCell ⟨b1, 0, none⟩ a0).setCell ⟨b1, 1, none⟩ a1).setCell ⟨b2, 0, none⟩ c0).setCell ⟨b2, 1, none⟩ c1).heap[b1]? = some (.cells #[a0, a1] t1 (0, 0)) ∧
      ((((w.setCell ⟨b1, 0, none⟩ a0).setCell ⟨b1, 1, none⟩ a1).setCell ⟨b2, 0, none⟩ c0).setCell ⟨b2, 1, none⟩ c1).heap[b2]? = some (.cells #[c0, c1] t2 (0, 0)) := by
  constructor
  · rw [Below.heap_setCell _ _ _ _ hne, Below.heap_setCell _ _ _ _ hne]
    exact set2_heap h1 a0 a1
  · exact set2_heap ((Below.heap_setCell _ _ _ _ (Ne.symm hne)).trans ((Below.heap_setCell _ _ _ _ (Ne.symm hne)).trans h2)) c0 c1

set_option maxHeartbeats 4000000 in
set_option maxRecDepth 100000 in
theorem takeDot_walk (X X1 : ByteArray) (f f1 : Bool) (a b : Nat) (s2 : St) (ha : a < 256) (hb : b < 4294967296)
    (hnum1 : ∀ W, Calls Try.prog 43 #[.agg #[.string X, .bool f], .int .u64 255] W fun e w' => e = .returned (.tuple #[.int .u64 (a : Nat), .agg #[.string X1, .bool f1]]) ∧ Below W.heap.size W w')
    (hnum2 : ∀ W, Calls Try.prog 43 #[.agg #[.string X1, .bool f1], .int .u64 4294967295] W fun e w' => e = .returned (.tuple #[.int .u64 (b : Nat), .agg (rcells s2)]) ∧ Below W.heap.size W w') (W : World) :
    Calls Try.prog 81 #[.agg #[.string X, .bool f]] W fun e w' => e = .returned (.tuple #[.agg (dcells (if s2.isSome then (a, b) else (0, 0))), .agg (rcells s2)]) ∧ Below W.heap.size W w' := by
  have hx := first_three W (.cells #[.string X, .bool f] 78) (.cells #[.int .u8 0, .int .u32 0] 46) (.cells #[.string ⟨#[]⟩, .bool false] 78)
  have hy := mid_three W (.cells #[.string X, .bool f] 78) (.cells #[.int .u8 0, .int .u32 0] 46) (.cells #[.string ⟨#[]⟩, .bool false] 78)
  have hz := last_three W (.cells #[.string X, .bool f] 78) (.cells #[.int .u8 0, .int .u32 0] 46) (.cells #[.string ⟨#[]⟩, .bool false] 78)
  have hb3 := below_three W (.cells #[.string X, .bool f] 78) (.cells #[.int .u8 0, .int .u32 0] 46) (.cells #[.string ⟨#[]⟩, .bool false] 78)
  have hx0 := (cell_of_heap (j := 0) hx).trans rfl
  have hx1 := (cell_of_heap (j := 1) hx).trans rfl
  have HY : Hid _ := And.intro hy hz
  have hcv1 : IntKind.u8.wrap (a : Int) = a := by rw [wrap_u8]; omega
  have hcv2 : IntKind.u32.wrap (b : Int) = b := by rw [wrap_u32]; omega
  clear hx hy hz
  cases s2 with
  | none =>
    simp only [rcells] at hnum2
    simp only [rcells, Option.isSome, Bool.false_eq_true, if_false, dcells]
    go_enter Try.func81, Try.ntmps81
    go_wp2_with (first
      | (go_at_call 43; (with_reducible refine (hnum1 _).mono ?_); rintro e w1 ⟨rfl, hb1⟩; clear hnum1; have HY1 : Hid (w1.heap[W.heap.size + 1]? = some (.cells #[.int .u8 0, .int .u32 0] 46 (0, 0)) ∧ w1.heap[W.heap.size + 2]? = some (.cells #[.string ⟨#[]⟩, .bool false] 78 (0, 0))) := ⟨kept_block HY.out.1 hb1, kept_block HY.out.2 hb1⟩; have hB1 := below_next hb3 hb1)
      | (go_at_call 43; (with_reducible refine (hnum2 _).mono ?_); rintro e w2 ⟨rfl, hb2⟩; clear hnum2; have HY2 : Hid (w2.heap[W.heap.size + 1]? = some (.cells #[.int .u8 0, .int .u32 0] 46 (0, 0)) ∧ w2.heap[W.heap.size + 2]? = some (.cells #[.string ⟨#[]⟩, .bool false] 78 (0, 0))) := ⟨kept_block (kept_alloc HY1.out.1 _) hb2, kept_block (kept_alloc HY1.out.2 _) hb2⟩; have hB2 := below_next (hB1.alloc hB1.size _) hb2)
      | (go_at_call 69; refine (ref_failed _).mono ?_; rintro e w5 ⟨rfl, hb5⟩; have HY5 : Hid (w5.heap[W.heap.size + 1]? = some (.cells #[.int .u8 0, .int .u32 0] 46 (0, 0)) ∧ w5.heap[W.heap.size + 2]? = some (.cells #[.string ⟨#[]⟩, .bool false] 78 (0, 0))) := ⟨kept_block (kept_alloc HY2.out.1 _) hb5, kept_block (kept_alloc HY2.out.2 _) hb5⟩; have hB5 := below_next (hB2.alloc hB2.size _) hb5; have e0 := (cell_of_heap (j := 0) HY5.out.1).trans rfl; have e1 := (cell_of_heap (j := 1) HY5.out.1).trans rfl; have e2 := (cell_of_heap (j := 0) HY5.out.2).trans rfl; have e3 := (cell_of_heap (j := 1) HY5.out.2).trans rfl; have e4 := fun j => free_of_heap (j := j) HY5.out.1; have e5 := fun j => free_of_heap (j := j) HY5.out.2))
    exact bodyPost_ret (v := .tuple #[.agg #[.int .u8 0, .int .u32 0], .agg #[.string ⟨#[]⟩, .bool false]]) (results_two_rows rfl _ _ (W.heap.size + 1) (W.heap.size + 2) 46 78 #[.int .u8 0, .int .u32 0] #[.string ⟨#[]⟩, .bool false] (0, 0) (0, 0) _ _ rfl (set22 (by omega) HY5.out.1 HY5.out.2 _ _ _ _).1 Try.underlying46 rfl (by kernel_rfl) rfl (set22 (by omega) HY5.out.1 HY5.out.2 _ _ _ _).2 Try.underlying78 rfl (by kernel_rfl)) rfl ⟨rfl, ((((hB5).setCell (by simp <;> omega) _).setCell (by simp <;> omega) _).setCell (by simp <;> omega) _).setCell (by simp <;> omega) _⟩
  | some r =>
    simp only [rcells] at hnum2
    simp only [rcells, Option.isSome, if_true, dcells]
    go_enter Try.func81, Try.ntmps81
    go_wp2_with (first
      | (go_at_call 43; (with_reducible refine (hnum1 _).mono ?_); rintro e w1 ⟨rfl, hb1⟩; clear hnum1; have HY1 : Hid (w1.heap[W.heap.size + 1]? = some (.cells #[.int .u8 0, .int .u32 0] 46 (0, 0)) ∧ w1.heap[W.heap.size + 2]? = some (.cells #[.string ⟨#[]⟩, .bool false] 78 (0, 0))) := ⟨kept_block HY.out.1 hb1, kept_block HY.out.2 hb1⟩; have hB1 := below_next hb3 hb1)
      | (go_at_call 43; (with_reducible refine (hnum2 _).mono ?_); rintro e w2 ⟨rfl, hb2⟩; clear hnum2; have HY2 : Hid (w2.heap[W.heap.size + 1]? = some (.cells #[.int .u8 0, .int .u32 0] 46 (0, 0)) ∧ w2.heap[W.heap.size + 2]? = some (.cells #[.string ⟨#[]⟩, .bool false] 78 (0, 0))) := ⟨kept_block (kept_alloc HY1.out.1 _) hb2, kept_block (kept_alloc HY1.out.2 _) hb2⟩; have hB2 := below_next (hB1.alloc hB1.size _) hb2))
    have HY5 : Hid ((w2.alloc (.cells #[.string (ba r), .bool true] 78)).heap[W.heap.size + 1]? = some (.cells #[.int .u8 0, .int .u32 0] 46 (0, 0)) ∧ (w2.alloc (.cells #[.string (ba r), .bool true] 78)).heap[W.heap.size + 2]? = some (.cells #[.string ⟨#[]⟩, .bool false] 78 (0, 0))) := ⟨kept_alloc HY2.out.1 _, kept_alloc HY2.out.2 _⟩
    have hB5 := hB2.alloc hB2.size (.cells #[.string (ba r), .bool true] 78)
    have hd := heap_alloc_last w2 (.cells #[.string (ba r), .bool true] 78)
    have d0 := (cell_of_heap (j := 0) hd).trans rfl
    have d1 := (cell_of_heap (j := 1) hd).trans rfl
    have hne1 : ¬ w2.heap.size = W.heap.size + 1 := by have := lt_of_some HY2.out.1; omega
    have hne2 : ¬ w2.heap.size = W.heap.size + 2 := by have := lt_of_some HY2.out.2; omega
    clear hd
    generalize w2.alloc (.cells #[.string (ba r), .bool true] 78) = w5 at *
    have e0 := (cell_of_heap (j := 0) HY5.out.1).trans rfl
    have e1 := (cell_of_heap (j := 1) HY5.out.1).trans rfl
    have e2 := (cell_of_heap (j := 0) HY5.out.2).trans rfl
    have e3 := (cell_of_heap (j := 1) HY5.out.2).trans rfl
    have e4 := fun j => free_of_heap (j := j) HY5.out.1
    have e5 := fun j => free_of_heap (j := j) HY5.out.2
    go_region
    all_goals
      clear e0 e1 e2 e3 e4 e5 d0 d1
      go_wp2
      first
        | exact bodyPost_ret (v := .tuple #[.agg #[.int .u8 (a : Int), .int .u32 (b : Int)], .agg #[.string (ba r), .bool true]]) (results_two_rows rfl _ _ (W.heap.size + 1) (W.heap.size + 2) 46 78 #[.int .u8 (a : Int), .int .u32 (b : Int)] #[.string (ba r), .bool true] (0, 0) (0, 0) _ _ rfl (set22 (by omega) HY5.out.1 HY5.out.2 _ _ _ _).1 Try.underlying46 rfl (by kernel_rfl) rfl (set22 (by omega) HY5.out.1 HY5.out.2 _ _ _ _).2 Try.underlying78 rfl (by kernel_rfl)) rfl ⟨rfl, ((((hB5.drew).setCell (by simp <;> omega) _).setCell (by simp <;> omega) _).setCell (by simp <;> omega) _).setCell (by simp <;> omega) _⟩
        | exact bodyPost_ret (v := .tuple #[.agg #[.int .u8 (a : Int), .int .u32 (b : Int)], .agg #[.string (ba r), .bool true]]) (results_two_rows rfl _ _ (W.heap.size + 1) (W.heap.size + 2) 46 78 #[.int .u8 (a : Int), .int .u32 (b : Int)] #[.string (ba r), .bool true] (0, 0) (0, 0) _ _ rfl (set22 (by omega) HY5.out.2 HY5.out.1 _ _ _ _).2 Try.underlying46 rfl (by kernel_rfl) rfl (set22 (by omega) HY5.out.2 HY5.out.1 _ _ _ _).1 Try.underlying78 rfl (by kernel_rfl)) rfl ⟨rfl, ((((hB5.drew).setCell (by simp <;> omega) _).setCell (by simp <;> omega) _).setCell (by simp <;> omega) _).setCell (by simp <;> omega) _⟩

theorem ref_TakeDot (st : St) (hs : Small st) (W : World) :
    Calls Try.prog 81 #[.agg (rcells st)] W fun e w' => e = .returned (.tuple #[.agg (dcells (takeDot st).1), .agg (rcells (takeDot st).2)]) ∧ Below W.heap.size W w' := by
  have h1 := fun W => ref_TakeNum st hs m8 W
  have h2 := fun W => ref_TakeNum _ (small_takeNum hs m8) m32 W
  have l1 := takeNum_le st m8
  have l2 := takeNum_le (takeNum st m8).2 m32
  rw [takeDot_is]
  obtain ⟨X, f, hX⟩ := rcells_form st
  obtain ⟨X1, f1, hX1⟩ := rcells_form (takeNum st m8).2
  rw [hX] at h1 ⊢
  rw [hX1] at h1 h2
  exact takeDot_walk X X1 f f1 _ _ _ (by unfold m8 at l1 ⊢; omega) (by have e : m32 = 4294967295 := rfl; omega) h1 h2 W

end Go.Proofs.Ytagjgknkkbkjgaa

/-
  Contracts of the document's answer for package wire: vectors read.
-/
namespace Go.Proofs.Ytagjgknkkbkjgaa
open Go Go.RowKit Wire

set_option maxRecDepth 100000
set_option linter.unusedVariables false
set_option linter.unusedSimpArgs false
theorem last_four (W : World) (a b c d : Obj) : ((((W.alloc a).alloc b).alloc c).alloc d).heap[W.heap.size + 3]? = some d := by
  have := heap_alloc_last (((W.alloc a).alloc b).alloc c) d
  rw [World.size_alloc, World.size_alloc, World.size_alloc] at this
  exact this

theorem drew_heap (w : World) : w.drew.heap = w.heap := rfl
theorem set82a {w : World} {b1 b2 : Nat} {t1 t2 : TypeId} {z0 z1 z2 z3 z4 z5 z6 z7 y0 y1 : Value} (hne : b1 ≠ b2) (h1 : w.heap[b1]? = some (.cells #[z0, z1, z2, z3, z4, z5, z6, z7] t1 (0, 0))) (h2 : w.heap[b2]? = some (.cells #[y0, y1] t2 (0, 0))) (a0 a1 a2 a3 a4 a5 a6 a7 c0 c1 : Value) :
    ((((((((((w.setCell ⟨b1, 0, none⟩ a0).setCell ⟨b1, 1, none⟩ a1).setCell ⟨b1, 2, none⟩ a2).setCell ⟨b1, 3, none⟩ a3).setCell ⟨b1, 4, none⟩ a4).setCell ⟨b1, 5, none⟩ a5).setCell ⟨b1, 6, none⟩ a6).setCell ⟨b1, 7, none⟩ a7).setCell ⟨b2, 0, none⟩ c0).setCell ⟨b2, 1, none⟩ c1).heap[b1]? = some (.cells #[a0, a1, a2, a3, a4, a5, a6, a7] t1 (0, 0)) ∧ ((((((((((w.setCell ⟨b1, 0, none⟩ a0).setCell ⟨b1, 1, none⟩ a1).setCell ⟨b1, 2, none⟩ a2).setCell ⟨b1, 3, none⟩ a3).setCell ⟨b1, 4, none⟩ a4).setCell ⟨b1, 5, none⟩ a5).setCell ⟨b1, 6, none⟩ a6).setCell ⟨b1, 7, none⟩ a7).setCell ⟨b2, 0, none⟩ c0).setCell ⟨b2, 1, none⟩ c1).heap[b2]? = some (.cells #[c0, c1] t2 (0, 0)) := by
  constructor
  · rw [Below.heap_setCell _ _ _ _ hne, Below.heap_setCell _ _ _ _ hne]
    exact set8_heap h1 rfl a0 a1 a2 a3 a4 a5 a6 a7
  · refine set2_heap (z0 := y0) (z1 := y1) ?_ c0 c1
    rw [Below.heap_setCell _ _ _ _ (Ne.symm hne), Below.heap_setCell _ _ _ _ (Ne.symm hne), Below.heap_setCell _ _ _ _ (Ne.symm hne), Below.heap_setCell _ _ _ _ (Ne.symm hne), Below.heap_setCell _ _ _ _ (Ne.symm hne), Below.heap_setCell _ _ _ _ (Ne.symm hne), Below.heap_setCell _ _ _ _ (Ne.symm hne), Below.heap_setCell _ _ _ _ (Ne.symm hne)]
    exact h2
theorem set82b {w : World} {b1 b2 : Nat} {t1 t2 : TypeId} {z0 z1 z2 z3 z4 z5 z6 z7 y0 y1 : Value} (hne : b1 ≠ b2) (h1 : w.heap[b1]? = some (.cells #[z0, z1, z2, z3, z4, z5, z6, z7] t1 (0, 0))) (h2 : w.heap[b2]? = some (.cells #[y0, y1] t2 (0, 0))) (a0 a1 a2 a3 a4 a5 a6 a7 c0 c1 : Value) :
    ((((((((((w.setCell ⟨b2, 0, none⟩ c0).setCell ⟨b2, 1, none⟩ c1).setCell ⟨b1, 0, none⟩ a0).setCell ⟨b1, 1, none⟩ a1).setCell ⟨b1, 2, none⟩ a2).setCell ⟨b1, 3, none⟩ a3).setCell ⟨b1, 4, none⟩ a4).setCell ⟨b1, 5, none⟩ a5).setCell ⟨b1, 6, none⟩ a6).setCell ⟨b1, 7, none⟩ a7).heap[b1]? = some (.cells #[a0, a1, a2, a3, a4, a5, a6, a7] t1 (0, 0)) ∧ ((((((((((w.setCell ⟨b2, 0, none⟩ c0).setCell ⟨b2, 1, none⟩ c1).setCell ⟨b1, 0, none⟩ a0).setCell ⟨b1, 1, none⟩ a1).setCell ⟨b1, 2, none⟩ a2).setCell ⟨b1, 3, none⟩ a3).setCell ⟨b1, 4, none⟩ a4).setCell ⟨b1, 5, none⟩ a5).setCell ⟨b1, 6, none⟩ a6).setCell ⟨b1, 7, none⟩ a7).heap[b2]? = some (.cells #[c0, c1] t2 (0, 0)) := by
  constructor
  · exact set8_heap ((Below.heap_setCell _ _ _ _ hne).trans ((Below.heap_setCell _ _ _ _ hne).trans h1)) rfl a0 a1 a2 a3 a4 a5 a6 a7
  · rw [Below.heap_setCell _ _ _ _ (Ne.symm hne), Below.heap_setCell _ _ _ _ (Ne.symm hne), Below.heap_setCell _ _ _ _ (Ne.symm hne), Below.heap_setCell _ _ _ _ (Ne.symm hne), Below.heap_setCell _ _ _ _ (Ne.symm hne), Below.heap_setCell _ _ _ _ (Ne.symm hne), Below.heap_setCell _ _ _ _ (Ne.symm hne), Below.heap_setCell _ _ _ _ (Ne.symm hne)]
    exact set2_heap h2 c0 c1

theorem set82d {w : World} {b1 b2 : Nat} {t1 t2 : TypeId} {z0 z1 z2 z3 z4 z5 z6 z7 y0 y1 : Value} (hne : b1 ≠ b2) (h1 : w.heap[b1]? = some (.cells #[z0, z1, z2, z3, z4, z5, z6, z7] t1 (0, 0))) (h2 : w.heap[b2]? = some (.cells #[y0, y1] t2 (0, 0))) (a0 a1 a2 a3 a4 a5 a6 a7 c0 c1 : Value) :
    ((((((((((w.setCell ⟨b1, 0, none⟩ a0).setCell ⟨b1, 1, none⟩ a1).setCell ⟨b1, 2, none⟩ a2).setCell ⟨b1, 3, none⟩ a3).setCell ⟨b1, 4, none⟩ a4).setCell ⟨b1, 5, none⟩ a5).setCell ⟨b1, 6, none⟩ a6).setCell ⟨b1, 7, none⟩ a7).setCell ⟨b2, 0, none⟩ c0).setCell ⟨b2, 1, none⟩ c1).drew.heap[b1]? = some (.cells #[a0, a1, a2, a3, a4, a5, a6, a7] t1 (0, 0)) ∧ ((((((((((w.setCell ⟨b1, 0, none⟩ a0).setCell ⟨b1, 1, none⟩ a1).setCell ⟨b1, 2, none⟩ a2).setCell ⟨b1, 3, none⟩ a3).setCell ⟨b1, 4, none⟩ a4).setCell ⟨b1, 5, none⟩ a5).setCell ⟨b1, 6, none⟩ a6).setCell ⟨b1, 7, none⟩ a7).setCell ⟨b2, 0, none⟩ c0).setCell ⟨b2, 1, none⟩ c1).drew.heap[b2]? = some (.cells #[c0, c1] t2 (0, 0)) := by
  rw [drew_heap]
  exact set82a hne h1 h2 a0 a1 a2 a3 a4 a5 a6 a7 c0 c1

/-- What lies in the walk's blocks behind k numbers. -/
def VAt (W w : World) (k : Nat) (st : St) : Prop :=
  w.heap[W.heap.size]? = some (.cells (rcells (vecGo k st).2) 78 (0, 0)) ∧ w.heap[W.heap.size + 1]? = some (.cells #[.int .u32 0, .int .u32 0, .int .u32 0, .int .u32 0, .int .u32 0, .int .u32 0, .int .u32 0, .int .u32 0] 24 (0, 0)) ∧ w.heap[W.heap.size + 2]? = some (.cells #[.string ⟨#[]⟩, .bool false] 78 (0, 0)) ∧ w.heap[W.heap.size + 3]? = some (.cells (vrow k st) 24 (0, 0))
theorem VAt.keep {W w w' : World} {k : Nat} {st : St} (h : VAt W w k st) (hb : Below w.heap.size w w') : VAt W w' k st :=
  ⟨kept_block h.1 hb, kept_block h.2.1 hb, kept_block h.2.2.1 hb, kept_block h.2.2.2 hb⟩
theorem VAt.alloc {W w : World} {k : Nat} {st : St} (h : VAt W w k st) (o : Obj) : VAt W (w.alloc o) k st :=
  ⟨kept_alloc h.1 o, kept_alloc h.2.1 o, kept_alloc h.2.2.1 o, kept_alloc h.2.2.2 o⟩
theorem VAt.mid {W w : World} {k : Nat} {st : St} {X : ByteArray} {f : Bool} (h : VAt W w k st) (hX : rcells (vecGo k st).2 = #[.string X, .bool f]) (y : Value) (o : Obj) :
    ((w.setCell ⟨W.heap.size + 3, k, none⟩ y).alloc o).heap[W.heap.size]? = some (.cells #[.string X, .bool f] 78 (0, 0)) := by
  have h0 := h.1
  rw [hX] at h0
  exact kept_alloc ((Below.heap_setCell _ _ _ _ (by show W.heap.size ≠ W.heap.size + 3; omega)).trans h0) o
theorem VAt.step {W w : World} {k : Nat} {st : St} {X X' : ByteArray} {f f' : Bool} (h : VAt W w k st) (hk : k < 8) (hX : rcells (vecGo k st).2 = #[.string X, .bool f]) (hX' : rcells (vecGo (k + 1) st).2 = #[.string X', .bool f']) (y : Int) (hy : y = ((takeNum (vecGo k st).2 m32).1 : Nat)) (o : Obj) :
    VAt W ((((w.setCell ⟨W.heap.size + 3, k, none⟩ (.int .u32 y)).alloc o).setCell ⟨W.heap.size, 0, none⟩ (.string X')).setCell ⟨W.heap.size, 1, none⟩ (.bool f')) (k + 1) st := by
  have hm := h.mid hX (.int .u32 y) o
  obtain ⟨h0, h1, h2, h3⟩ := h
  refine ⟨?_, ?_, ?_, ?_⟩
  · rw [hX']
    exact set2_heap hm _ _
  · rw [Below.heap_setCell _ _ _ _ (by show W.heap.size + 1 ≠ W.heap.size; omega), Below.heap_setCell _ _ _ _ (by show W.heap.size + 1 ≠ W.heap.size; omega)]
    exact kept_alloc ((Below.heap_setCell _ _ _ _ (by show W.heap.size + 1 ≠ W.heap.size + 3; omega)).trans h1) o
  · rw [Below.heap_setCell _ _ _ _ (by show W.heap.size + 2 ≠ W.heap.size; omega), Below.heap_setCell _ _ _ _ (by show W.heap.size + 2 ≠ W.heap.size; omega)]
    exact kept_alloc ((Below.heap_setCell _ _ _ _ (by show W.heap.size + 2 ≠ W.heap.size + 3; omega)).trans h2) o
  · rw [Below.heap_setCell _ _ _ _ (by show W.heap.size + 3 ≠ W.heap.size; omega), Below.heap_setCell _ _ _ _ (by show W.heap.size + 3 ≠ W.heap.size; omega)]
    refine kept_alloc ?_ o
    rw [heap_setCell_same _ _ _ _ _ _ h3, hy, vrow_set k hk st]

set_option maxHeartbeats 1000000 in
set_option maxRecDepth 100000 in
theorem ref_TakeVector (st : St) (hs : Small st) (W : World) :
    Calls Try.prog 42 #[.agg (rcells st)] W fun e w' => e = .returned (.tuple #[.agg (vcells (takeVec st).1), .agg (rcells (takeVec st).2)]) ∧ Below W.heap.size W w' := by
  obtain ⟨X0, f0, hX0⟩ := rcells_form st
  have hb4 : Below W.heap.size W ((((W.alloc (.cells (rcells st) 78)).alloc (.cells #[.int .u32 0, .int .u32 0, .int .u32 0, .int .u32 0, .int .u32 0, .int .u32 0, .int .u32 0, .int .u32 0] 24)).alloc (.cells #[.string ⟨#[]⟩, .bool false] 78)).alloc (.cells #[.int .u32 0, .int .u32 0, .int .u32 0, .int .u32 0, .int .u32 0, .int .u32 0, .int .u32 0, .int .u32 0] 24)) := (below_three _ _ _ _).alloc (by simp; omega) _
  have hv0 : VAt W ((((W.alloc (.cells (rcells st) 78)).alloc (.cells #[.int .u32 0, .int .u32 0, .int .u32 0, .int .u32 0, .int .u32 0, .int .u32 0, .int .u32 0, .int .u32 0] 24)).alloc (.cells #[.string ⟨#[]⟩, .bool false] 78)).alloc (.cells #[.int .u32 0, .int .u32 0, .int .u32 0, .int .u32 0, .int .u32 0, .int .u32 0, .int .u32 0, .int .u32 0] 24)) 0 st :=
    ⟨kept_alloc (first_three _ _ _ _) _, kept_alloc (mid_three _ _ _ _) _, kept_alloc (last_three _ _ _ _) _, last_four _ _ _ _ _⟩
  rw [hX0] at hb4 hv0
  have HV0 : Hid _ := hv0
  clear hv0
  rw [takeVec_is]
  obtain ⟨a0, a1, a2, a3, a4, a5, a6, a7, hv⟩ := list8 _ (vecGo_len 8 st)
  have hend := vrow_end st
  rw [hv] at hend
  obtain ⟨b0, b1, b2, b3, b4, b5, b6, b7, hbv⟩ := list8 (if (vecGo 8 st).2.isSome = true then (vecGo 8 st).1 else zeros8) (by split; exact vecGo_len 8 st; rfl)
  have hwhich : ((vecGo 8 st).2.isSome = true → (b0 = a0 ∧ b1 = a1 ∧ b2 = a2 ∧ b3 = a3 ∧ b4 = a4 ∧ b5 = a5 ∧ b6 = a6 ∧ b7 = a7)) ∧ ((vecGo 8 st).2.isSome = false → (b0 = 0 ∧ b1 = 0 ∧ b2 = 0 ∧ b3 = 0 ∧ b4 = 0 ∧ b5 = 0 ∧ b6 = 0 ∧ b7 = 0)) := by
    constructor
    · intro h; rw [if_pos h, hv] at hbv; simpa [eq_comm] using hbv
    · intro h; rw [if_neg (by rw [h]; decide)] at hbv; unfold zeros8 at hbv; simpa [eq_comm] using hbv
  rw [hbv, hX0]
  obtain ⟨XE, fE, hXE⟩ := rcells_form (vecGo 8 st).2
  have hfE : fE = (vecGo 8 st).2.isSome ∧ (fE = false → XE = ⟨#[]⟩) := by
    cases h : (vecGo 8 st).2 with
    | none => rw [h] at hXE; simp only [rcells] at hXE; simp at hXE; exact ⟨by rw [hXE.2]; rfl, fun _ => hXE.1.symm⟩
    | some r => rw [h] at hXE; simp only [rcells] at hXE; simp at hXE; exact ⟨by rw [hXE.2]; rfl, fun e => by rw [hXE.2] at e; cases e⟩
  rw [hXE]
  have HEND : Hid _ := And.intro hend (And.intro hXE (And.intro hfE hwhich))
  clear hend hv hbv hwhich hXE hfE hX0
  go_enter Try.func42, Try.ntmps42
  go_wp2
  go_loopw [5] (fun i wr => ∃ k : Nat, k ≤ 8 ∧ i = .int .i64 k ∧ VAt W wr k st ∧ Below W.heap.size W wr) (fun i _ => 8 - (intOf i).toNat)
  case atStart => exact ⟨0, by omega, rfl, HV0.out, hb4⟩
  case round =>
    obtain ⟨k, hk, rfl, hvr, hbr⟩ := hrel
    by_cases hlt : k < 8
    · have hn := fun w => ref_TakeNum _ (small_vecGo hs k) m32 w
      have hle := takeNum_le (vecGo k st).2 m32
      obtain ⟨X, f, hX⟩ := rcells_form (vecGo k st).2
      obtain ⟨X', f', hX'⟩ := rcells_form (vecGo (k + 1) st).2
      have hX'' : rcells (takeNum (vecGo k st).2 m32).2 = #[.string X', .bool f'] := hX'
      rw [hX, hX''] at hn
      obtain ⟨y, hy⟩ : ∃ y : Nat, y = (takeNum (vecGo k st).2 m32).1 := ⟨_, rfl⟩
      rw [← hy] at hn hle
      rw [show m32 = 4294967295 by rfl] at hn hle
      have hcv : IntKind.u32.wrap (y : Int) = y := by rw [wrap_u32]; omega
      obtain ⟨x, hx⟩ := vrow_at k hlt st
      have hr0 := hvr.1
      rw [hX] at hr0
      have e0 := (cell_of_heap (j := 0) hr0).trans rfl
      have e1 := (cell_of_heap (j := 1) hr0).trans rfl
      have HQ : Hid _ := And.intro hX (And.intro hX' (And.intro hx hy))
      have HV : Hid (VAt W wr k st) := hvr
      have HB : Hid (Below W.heap.size W wr) := hbr
      clear hX hX' hX'' hx hy hr0 hvr hbr
      go_wp2_with (go_at_call 43; refine (hn _).mono ?_; rintro e w1 ⟨rfl, hb1⟩; clear hn e0 e1; have HV1 : Hid (VAt W w1 k st) := HV.out.keep hb1; have HV2 : Hid (VAt W (w1.alloc (.cells #[.string X', .bool f'] 78)) k st) := HV1.out.alloc _; have g0 := HV1.out.mid HQ.out.1 (.int .u32 (y : Int)) (.cells #[.string X', .bool f'] 78); have d0 := (cell_of_heap (j := 0) g0).trans rfl; have d1 := (cell_of_heap (j := 1) g0).trans rfl; have d2 := fun j => free_of_heap (j := j) g0; have d3 := (cell_of_heap (j := k) HV2.out.2.2.2).trans HQ.out.2.2.1; have d4 := fun j => free_of_heap (j := j) HV2.out.2.2.2; have hs1 := lt_of_some HV1.out.2.2.2; have hB1 := below_next HB.out hb1; clear g0)
      go_roundw
      case rel => exact ⟨k + 1, by omega, by go_num, HV1.out.step hlt HQ.out.1 HQ.out.2.1 _ (by rw [HQ.out.2.2.2]) _, ((((hB1.setCell (by simp <;> omega) _).alloc (by simp; omega) _).setCell (by simp <;> omega) _).setCell (by simp <;> omega) _)⟩
      case measure => simp [intOf]; omega
    · have : k = 8 := by omega
      subst this
      obtain ⟨hend, hXE, ⟨hfE, hXn⟩, hw1, hw0⟩ := HEND.out
      have hv8 := hvr
      unfold VAt at hv8
      rw [hend, hXE] at hv8
      have HV : Hid _ := hv8
      have e0 := (cell_of_heap (j := 0) hv8.1).trans rfl
      have e1 := (cell_of_heap (j := 1) hv8.1).trans rfl
      rw [← hfE] at hw1 hw0
      have HB : Hid (Below W.heap.size W wr) := hbr
      clear hvr hv8 hbr hend hXE hfE
      cases fE with
      | false =>
        obtain rfl := hXn rfl
        obtain ⟨rfl, rfl, rfl, rfl, rfl, rfl, rfl, rfl⟩ := hw0 rfl
        clear hw1 hw0 hXn
        go_wp2_with (go_at_call 69; refine (ref_failed _).mono ?_; rintro e w5 ⟨rfl, hb5⟩; have HV5 : Hid (w5.heap[W.heap.size + 1]? = some (.cells #[.int .u32 0, .int .u32 0, .int .u32 0, .int .u32 0, .int .u32 0, .int .u32 0, .int .u32 0, .int .u32 0] 24 (0, 0)) ∧ w5.heap[W.heap.size + 2]? = some (.cells #[.string ⟨#[]⟩, .bool false] 78 (0, 0))) := ⟨kept_block HV.out.2.1 hb5, kept_block HV.out.2.2.1 hb5⟩; have hB5 := below_next HB.out hb5; obtain ⟨c0, c1, c2, c3, c4, c5, c6, c7⟩ := cells8 HV5.out.1 (.int .u32 0) (.int .u32 0) (.int .u32 0) (.int .u32 0) (.int .u32 0) (.int .u32 0) (.int .u32 0) (.int .u32 0) rfl; have k0 := (cell_of_heap (j := 0) HV5.out.2).trans rfl; have k1 := (cell_of_heap (j := 1) HV5.out.2).trans rfl; have fr1 := fun j => free_of_heap (j := j) HV5.out.1; have fr2 := fun j => free_of_heap (j := j) HV5.out.2)
        refine bodyPost_ret (v := .tuple #[.agg (vcells [0, 0, 0, 0, 0, 0, 0, 0]), .agg #[.string ⟨#[]⟩, .bool false]]) (results_two_rows rfl _ _ (W.heap.size + 1) (W.heap.size + 2) 24 78 (vcells [0, 0, 0, 0, 0, 0, 0, 0]) #[.string ⟨#[]⟩, .bool false] (0, 0) (0, 0) _ _ rfl (set82a (by omega) HV5.out.1 HV5.out.2 _ _ _ _ _ _ _ _ _ _).1 Try.underlying24 rfl (by kernel_rfl) rfl (set82a (by omega) HV5.out.1 HV5.out.2 _ _ _ _ _ _ _ _ _ _).2 Try.underlying78 rfl (by kernel_rfl)) rfl ⟨rfl, ?_⟩
        iterate 10 (refine Below.setCell ?_ (by simp <;> omega) _)
        exact hB5
      | true =>
        obtain ⟨rfl, rfl, rfl, rfl, rfl, rfl, rfl, rfl⟩ := hw1 rfl
        clear hw0 hw1 hXn
        obtain ⟨c0, c1, c2, c3, c4, c5, c6, c7⟩ := cells8 HV.out.2.1 (.int .u32 0) (.int .u32 0) (.int .u32 0) (.int .u32 0) (.int .u32 0) (.int .u32 0) (.int .u32 0) (.int .u32 0) rfl
        have k0 := (cell_of_heap (j := 0) HV.out.2.2.1).trans rfl
        have k1 := (cell_of_heap (j := 1) HV.out.2.2.1).trans rfl
        have fr1 := fun j => free_of_heap (j := j) HV.out.2.1
        have fr2 := fun j => free_of_heap (j := j) HV.out.2.2.1
        obtain ⟨v0, v1, v2, v3, v4, v5, v6, v7⟩ := cells8 HV.out.2.2.2 (.int .u32 b0) (.int .u32 b1) (.int .u32 b2) (.int .u32 b3) (.int .u32 b4) (.int .u32 b5) (.int .u32 b6) (.int .u32 b7) rfl
        go_wp2
        go_region
        all_goals
          clear c0 c1 c2 c3 c4 c5 c6 c7 k0 k1 fr1 fr2 v0 v1 v2 v3 v4 v5 v6 v7 e0 e1
          go_wp2
          refine bodyPost_ret (v := .tuple #[.agg (vcells [b0, b1, b2, b3, b4, b5, b6, b7]), .agg #[.string XE, .bool true]]) (results_two_rows rfl _ _ (W.heap.size + 1) (W.heap.size + 2) 24 78 (vcells [b0, b1, b2, b3, b4, b5, b6, b7]) #[.string XE, .bool true] (0, 0) (0, 0) _ _ rfl (set82d (by omega) HV.out.2.1 HV.out.2.2.1 _ _ _ _ _ _ _ _ _ _).1 Try.underlying24 rfl (by kernel_rfl) rfl (set82d (by omega) HV.out.2.1 HV.out.2.2.1 _ _ _ _ _ _ _ _ _ _).2 Try.underlying78 rfl (by kernel_rfl)) rfl ⟨rfl, ?_⟩
          refine Below.drew ?_
          iterate 10 (refine Below.setCell ?_ (by simp <;> omega) _)
          exact HB.out

end Go.Proofs.Ytagjgknkkbkjgaa
