/-
  The walk of the law 'WireReads'.
-/
import Derived.Test.YtimemfkhmfhffaaWireZ2
import Derived.Deep.RegionHeld3
namespace Go.Proofs.Ytimemfkhmfhffaa
open Go Go.RowKit Wire

theorem IsThings.lt {w : World} {ad : Addr} {len cap : Nat} {xs : List Thing} (h : IsThings w (some ad) len cap xs) (i : Nat) (hi : i < len) : (ad.add (i * 14)).block < w.heap.size := by
  obtain ⟨x, B, O, sp, _, _, hA, h0, _⟩ := h.at i hi
  rw [hA]
  exact cell_lt h0

set_option maxHeartbeats 3000000 in
set_option maxRecDepth 100000 in
theorem law_WireReads (s : ByteArray) (hsm : s.size ≤ maxLen) (a : Option Addr) (len cap : Nat) (xs : List Thing) (W : World) (h : IsThings W a len cap xs) :
    Calls Try.prog 4 #[.string s, .slice a len cap] W fun e w' => e = .returned (.bool true) ∧ Below W.heap.size W w' := by
  have hcap : len ≤ 9223372036854775807 := by have := h.2.1; have := h.2.2.1; unfold maxLen at this; omega
  have hsm' : s.size ≤ 9223372036854775807 := by unfold maxLen at hsm; omega
  clear hsm
  by_cases hbig : 3000 < s.size
  · clear h
    go_enter Try.func4, Try.ntmps4
    go_wp2_with (go_at_call 9; refine (law_head _).mono ?_; rintro e w2 ⟨rfl, hb2⟩)
    go_ret
    exact ⟨rfl, hb2⟩
  by_cases hlong : 100 < len
  · clear h
    go_enter Try.func4, Try.ntmps4
    go_wp2_with (go_at_call 9; refine (law_head _).mono ?_; rintro e w2 ⟨rfl, hb2⟩)
    go_ret
    exact ⟨rfl, hb2⟩
  have HH : Hid (IsThings W a len cap xs) := h
  clear h
  go_enter Try.func4, Try.ntmps4
  go_wp2_with (first
    | (go_at_call 13; refine (wire_Open s (by omega) _).mono ?_; rintro e w1 ⟨g, rfl, hgW, hr1, hb1⟩; have HR1 : Hid (RAt w1 (some g) (some s.data.toList)) := hr1; clear hr1))
  have hlt1 : g < w1.heap.size := lt_of_some (show w1.heap[g]? = some (Obj.cells (rcells (some s.data.toList)) 65 (0, 0)) from HR1.out)
  obtain ⟨t6, ht6⟩ : ∃ t6, t6 = w1.heap.size := ⟨_, rfl⟩
  have hal : Below w1.heap.size w1 (w1.alloc (.cells #[.string s, .bool true] 40)) := (Below.refl _ w1).alloc (Nat.le_refl _) _
  have hx6 : (w1.alloc (.cells #[.string s, .bool true] 40)).heap[t6]? = some (.cells (rcells (some s.data.toList)) 40 (0, 0)) := by
    rw [ht6, heap_alloc_last]; show _ = some (Obj.cells #[.string (ba s.data.toList), .bool true] _ _); rw [ba_of]
  have hra := RAt.keep HR1.out hal
  have hba := below_next hb1 hal
  rw [← ht6]
  have h6g : t6 ≠ g := by omega
  have h6W : W.heap.size ≤ t6 := by have := hb1.size; omega
  have H0 : Hid _ := And.intro hx6 (And.intro hra hba)
  clear hx6 hra hba hal hb1 ht6
  go_loopw [7] (fun i wr => ∃ (k : Nat) (st : St), k ≤ len ∧ i = .int .i64 k ∧ RAt wr (some g) st ∧ Small st ∧ Below W.heap.size W wr ∧ wr.heap[t6]? = some (.cells (rcells st) 40 (0, 0))) (fun i _ => len - (intOf i).toNat)
  case atStart => exact ⟨0, some s.data.toList, by omega, rfl, H0.out.2.1, by show s.data.toList.length ≤ 1000000; rw [len_toList]; omega, H0.out.2.2, H0.out.1⟩
  case round =>
    obtain ⟨k, st, hk, rfl, hr, hs, hbr, h6⟩ := hrel
    by_cases hlt : k < len
    · obtain ⟨ad, rfl⟩ := HH.out.some_of (by omega)
      obtain ⟨x, Bx, O, sp, hx, hok, hA, c0, c1, c2, c3, c4, c5, c6, c7, c8, c9, c10, c11, c12, c13⟩ := (HH.out.below hbr).at k hlt
      have hBx : Bx < W.heap.size := by have := HH.out.lt k hlt; rw [hA] at this; exact this
      have htk := fun w (h : RAt w (some g) st) => law_take w g x hok st hs h
      have hs' := small_stepI hs x
      obtain ⟨X, f, hX⟩ := rcells_form st
      obtain ⟨X', f', hX'⟩ := rcells_form (stepI st x)
      rw [hX] at htk h6
      rw [hX'] at htk
      have htk' : ∀ w, RAt w (some g) st → Calls Try.prog 14 #[.pointer (some ⟨g, 0, none⟩), .agg #[.string X, .bool f], .agg #[.int .u8 (x.kind : Int), .int .u64 (x.n : Int), .string x.s, .int .u8 (x.r : Int), .int .u32 (x.dn : Int), .int .u32 (x.v0 : Int), .int .u32 (x.v1 : Int), .int .u32 (x.v2 : Int), .int .u32 (x.v3 : Int), .int .u32 (x.v4 : Int), .int .u32 (x.v5 : Int), .int .u32 (x.v6 : Int), .int .u32 (x.v7 : Int), .int .u64 (x.most : Int)]] w fun e w' => e = .returned (.tuple #[.agg #[.string X', .bool f'], .bool true]) ∧ RAt w' (some g) (stepI st x) ∧ Keeps w.heap.size (some g) w w' := htk
      clear htk
      have z0 : wr.cell? ⟨t6, 0, none⟩ = some (.string X) := (cell_of_heap (j := 0) h6).trans rfl
      have z1 : wr.cell? ⟨t6, 1, none⟩ = some (.bool f) := (cell_of_heap (j := 1) h6).trans rfl
      have h6l := lt_of_some h6
      have hWr := hbr.size
      have HW : Hid _ := And.intro hr (And.intro hbr (And.intro h6 (And.intro hX' hs')))
      have hn : ¬ wr.heap.size = t6 := by omega
      have hgB : some Bx ≠ some g := by simp; omega
      have hg6 : some t6 ≠ some g := by simpa using h6g
      have hcl : ∀ w2, Keeps wr.heap.size (some g) wr w2 → w2.cell? ⟨t6, 0, none⟩ = some (.string X) ∧ w2.cell? ⟨t6, 1, none⟩ = some (.bool f) ∧ w2.cell? ⟨Bx, O, sp⟩ = some (.int .u8 (x.kind : Int)) ∧ w2.cell? ⟨Bx, O + 1, none⟩ = some (.int .u64 (x.n : Int)) ∧ w2.cell? ⟨Bx, O + 2, none⟩ = some (.string x.s) ∧ w2.cell? ⟨Bx, O + 3, none⟩ = some (.int .u8 (x.r : Int)) ∧ w2.cell? ⟨Bx, O + 4, none⟩ = some (.int .u32 (x.dn : Int)) ∧ w2.cell? ⟨Bx, O + 5, none⟩ = some (.int .u32 (x.v0 : Int)) ∧ w2.cell? ⟨Bx, O + 6, none⟩ = some (.int .u32 (x.v1 : Int)) ∧ w2.cell? ⟨Bx, O + 7, none⟩ = some (.int .u32 (x.v2 : Int)) ∧ w2.cell? ⟨Bx, O + 8, none⟩ = some (.int .u32 (x.v3 : Int)) ∧ w2.cell? ⟨Bx, O + 9, none⟩ = some (.int .u32 (x.v4 : Int)) ∧ w2.cell? ⟨Bx, O + 10, none⟩ = some (.int .u32 (x.v5 : Int)) ∧ w2.cell? ⟨Bx, O + 11, none⟩ = some (.int .u32 (x.v6 : Int)) ∧ w2.cell? ⟨Bx, O + 12, none⟩ = some (.int .u32 (x.v7 : Int)) ∧ w2.cell? ⟨Bx, O + 13, none⟩ = some (.int .u64 (x.most : Int)) := fun w2 hk => by
        have e6 := hk.block t6 h6l hg6
        have e1 := hk.block Bx (by omega) hgB
        exact ⟨(World.cell?_of_block (a := ⟨t6, 0, none⟩) e6).trans z0, (World.cell?_of_block (a := ⟨t6, 1, none⟩) e6).trans z1, (World.cell?_of_block (a := ⟨Bx, O, sp⟩) e1).trans c0, (World.cell?_of_block (a := ⟨Bx, O + 1, none⟩) e1).trans c1, (World.cell?_of_block (a := ⟨Bx, O + 2, none⟩) e1).trans c2, (World.cell?_of_block (a := ⟨Bx, O + 3, none⟩) e1).trans c3, (World.cell?_of_block (a := ⟨Bx, O + 4, none⟩) e1).trans c4, (World.cell?_of_block (a := ⟨Bx, O + 5, none⟩) e1).trans c5, (World.cell?_of_block (a := ⟨Bx, O + 6, none⟩) e1).trans c6, (World.cell?_of_block (a := ⟨Bx, O + 7, none⟩) e1).trans c7, (World.cell?_of_block (a := ⟨Bx, O + 8, none⟩) e1).trans c8, (World.cell?_of_block (a := ⟨Bx, O + 9, none⟩) e1).trans c9, (World.cell?_of_block (a := ⟨Bx, O + 10, none⟩) e1).trans c10, (World.cell?_of_block (a := ⟨Bx, O + 11, none⟩) e1).trans c11, (World.cell?_of_block (a := ⟨Bx, O + 12, none⟩) e1).trans c12, (World.cell?_of_block (a := ⟨Bx, O + 13, none⟩) e1).trans c13⟩
      have HCL : Hid _ := hcl
      have HT : Hid _ := htk'
      have hal : Below wr.heap.size wr (wr.alloc (.cells #[.string ⟨#[]⟩, .bool false] 40)) := (Below.refl _ wr).alloc (Nat.le_refl _) _
      have HA1 : Hid (RAt wr.drew (some g) st ∧ Keeps wr.heap.size (some g) wr wr.drew) := ⟨RAt.drew hr, (Keeps.refl _ _ wr).drew⟩
      have HA2 : Hid (RAt (wr.alloc (.cells #[.string ⟨#[]⟩, .bool false] 40)).drew (some g) st ∧ Keeps wr.heap.size (some g) wr (wr.alloc (.cells #[.string ⟨#[]⟩, .bool false] 40)).drew ∧ (wr.alloc (.cells #[.string ⟨#[]⟩, .bool false] 40)).drew.heap[wr.heap.size]? = some (.cells #[.string ⟨#[]⟩, .bool false] 40 (0, 0))) := ⟨RAt.drew (RAt.keep hr hal), (hal.keeps (some g) _ (Nat.le_refl _)).drew, heap_alloc_last wr _⟩
      have hnB : ¬ wr.heap.size = Bx := by omega
      have hng : some wr.heap.size ≠ some g := by have := hr.lt.1; exact this
      have hk0 : (0 : Int) ≤ (k : Int) := by omega
      have hk1 : (k : Int) < (len : Int) := by omega
      clear hr hbr h6 hX hs hs' hok hx hcl hal htk'
      go_wp2
      go_region_held3 (fun w' => w'.cell? ⟨t6, 0, none⟩ = some (.string X) ∧ w'.cell? ⟨t6, 1, none⟩ = some (.bool f) ∧ w'.cell? ⟨Bx, O, sp⟩ = some (.int .u8 (x.kind : Int)) ∧ w'.cell? ⟨Bx, O + 1, none⟩ = some (.int .u64 (x.n : Int)) ∧ w'.cell? ⟨Bx, O + 2, none⟩ = some (.string x.s) ∧ w'.cell? ⟨Bx, O + 3, none⟩ = some (.int .u8 (x.r : Int)) ∧ w'.cell? ⟨Bx, O + 4, none⟩ = some (.int .u32 (x.dn : Int)) ∧ w'.cell? ⟨Bx, O + 5, none⟩ = some (.int .u32 (x.v0 : Int)) ∧ w'.cell? ⟨Bx, O + 6, none⟩ = some (.int .u32 (x.v1 : Int)) ∧ w'.cell? ⟨Bx, O + 7, none⟩ = some (.int .u32 (x.v2 : Int)) ∧ w'.cell? ⟨Bx, O + 8, none⟩ = some (.int .u32 (x.v3 : Int)) ∧ w'.cell? ⟨Bx, O + 9, none⟩ = some (.int .u32 (x.v4 : Int)) ∧ w'.cell? ⟨Bx, O + 10, none⟩ = some (.int .u32 (x.v5 : Int)) ∧ w'.cell? ⟨Bx, O + 11, none⟩ = some (.int .u32 (x.v6 : Int)) ∧ w'.cell? ⟨Bx, O + 12, none⟩ = some (.int .u32 (x.v7 : Int)) ∧ w'.cell? ⟨Bx, O + 13, none⟩ = some (.int .u64 (x.most : Int))) (first | go_keep | (refine ⟨?_, ?_, ?_, ?_, ?_, ?_, ?_, ?_, ?_, ?_, ?_, ?_, ?_, ?_, ?_, ?_⟩ <;> assumption)) ((go_at_call 14; first
        | ((with_reducible refine (HT.out _ HA1.out.1).mono ?_); rintro e w2 ⟨rfl, h2, hk2⟩; obtain ⟨y0, y1, d0, d1, d2, d3, d4, d5, d6, d7, d8, d9, d10, d11, d12, d13⟩ := HCL.out w2 (HA1.out.2.trans hk2); have HR2 : Hid (RAt w2 (some g) (stepI st x)) := h2; have HK2 : Hid (Keeps wr.heap.size (some g) wr w2) := HA1.out.2.trans hk2; have hs2 := hk2.size; clear h2 hk2)
        | ((with_reducible refine (HT.out _ HA2.out.1).mono ?_); rintro e w2 ⟨rfl, h2, hk2⟩; obtain ⟨y0, y1, d0, d1, d2, d3, d4, d5, d6, d7, d8, d9, d10, d11, d12, d13⟩ := HCL.out w2 (HA2.out.2.1.trans (hk2.mono HA2.out.2.1.size)); have HR2 : Hid (RAt w2 (some g) (stepI st x)) := h2; have HK2 : Hid (Keeps wr.heap.size (some g) wr w2) := HA2.out.2.1.trans (hk2.mono HA2.out.2.1.size); have HZ2 : Hid (w2.heap[wr.heap.size]? = some (.cells #[.string ⟨#[]⟩, .bool false] 40 (0, 0))) := hk2.other _ _ _ _ HA2.out.2.2 (by decide) hng; have u0 : w2.cell? ⟨wr.heap.size, 0, none⟩ = some (.string ⟨#[]⟩) := (cell_of_heap (j := 0) HZ2.out).trans rfl; have u1 : w2.cell? ⟨wr.heap.size, 1, none⟩ = some (.bool false) := (cell_of_heap (j := 1) HZ2.out).trans rfl; have u2 := fun j => free_of_heap (j := j) HZ2.out; have hs2 := hk2.size; clear h2 hk2)))
      all_goals (try clear c0 c1 c2 c3 c4 c5 c6 c7 c8 c9 c10 c11 c12 c13 z0 z1)
      · have h6' : w2.heap[t6]? = some (.cells #[.string X, .bool f] 40 (0, 0)) := HK2.out.other _ _ _ _ HW.out.2.2.1 (by decide) hg6
        have hBw : Below W.heap.size W w2 := HW.out.2.1.trans ((HK2.out.mono hWr).below (fun q hq => by cases hq; exact hgW))
        have r0 : (w2.alloc (.cells #[.string X', .bool f'] 40)).cell? ⟨w2.heap.size, 0, none⟩ = some (.string X') := (cell_of_heap (j := 0) (heap_alloc_last w2 _)).trans rfl
        have r1 : (w2.alloc (.cells #[.string X', .bool f'] 40)).cell? ⟨w2.heap.size, 1, none⟩ = some (.bool f') := (cell_of_heap (j := 1) (heap_alloc_last w2 _)).trans rfl
        have HV : Hid ((w2.alloc (.cells #[.string X', .bool f'] 40)).heap[t6]? = some (.cells #[.string X, .bool f] 40 (0, 0)) ∧ RAt (w2.alloc (.cells #[.string X', .bool f'] 40)) (some g) (stepI st x) ∧ Below W.heap.size W (w2.alloc (.cells #[.string X', .bool f'] 40))) := ⟨kept_alloc h6' _, RAt.keep HR2.out ((Below.refl _ w2).alloc (Nat.le_refl _) _), hBw.alloc hBw.size _⟩
        have hnx : t6 ≠ w2.heap.size := by have := lt_of_some h6'; omega
        clear y0 y1 d0 d1 d2 d3 d4 d5 d6 d7 d8 d9 d10 d11 d12 d13 h6' hBw
        generalize (w2.alloc (.cells #[.string X', .bool f'] 40)) = V3 at *
        have y0' : V3.cell? ⟨t6, 0, none⟩ = some (.string X) := (cell_of_heap (j := 0) HV.out.1).trans rfl
        have y1' : V3.cell? ⟨t6, 1, none⟩ = some (.bool f) := (cell_of_heap (j := 1) HV.out.1).trans rfl
        have y2' := fun j => free_of_heap (j := j) HV.out.1
        have HV4 : Hid (((V3.setCell ⟨t6, 0, none⟩ (.string X')).setCell ⟨t6, 1, none⟩ (.bool f')).heap[t6]? = some (.cells #[.string X', .bool f'] 40 (0, 0)) ∧ RAt ((V3.setCell ⟨t6, 0, none⟩ (.string X')).setCell ⟨t6, 1, none⟩ (.bool f')) (some g) (stepI st x) ∧ Below W.heap.size W ((V3.setCell ⟨t6, 0, none⟩ (.string X')).setCell ⟨t6, 1, none⟩ (.bool f'))) :=
          ⟨set2_heap HV.out.1 _ _, RAt.setOwn (RAt.setOwn HV.out.2.1 hg6 _) hg6 _, (HV.out.2.2.setCell h6W _).setCell h6W _⟩
        go_wp2
        generalize (V3.setCell ⟨t6, 0, none⟩ (.string X')).setCell ⟨t6, 1, none⟩ (.bool f') = V5 at *
        clear y0' y1' y2' r0 r1 HV
        have q0 : ∀ p : Later V5.heap.size V5, p.val.cell? ⟨t6, 0, none⟩ = some (.string X') := fun p => (cell_of_heap (j := 0) (kept_block HV4.out.1 p.ok)).trans rfl
        have q1 : ∀ p : Later V5.heap.size V5, p.val.cell? ⟨t6, 1, none⟩ = some (.bool f') := fun p => (cell_of_heap (j := 1) (kept_block HV4.out.1 p.ok)).trans rfl
        have hF := fun p : Later V5.heap.size V5 => wire_Fine (some g) _ p.val (RAt.keep HV4.out.2.1 p.ok)
        have hL := fun p : Later V5.heap.size V5 => wire_Left (some g) _ p.val (RAt.keep HV4.out.2.1 p.ok)
        have hE := fun p : Later V5.heap.size V5 => wire_End (some g) _ p.val (RAt.keep HV4.out.2.1 p.ok)
        have hXX := HW.out.2.2.2.1
        simp only [rptr, Option.map] at hF hL hE
        cases hst : stepI st x with
        | none =>
          rw [hst] at hF hL hE hXX
          simp only [rcells] at hXX
          obtain ⟨rfl, rfl⟩ : (⟨#[]⟩ : ByteArray) = X' ∧ false = f' := by simpa using hXX
          simp only [Option.isSome, Option.getD, List.length_nil] at hF hL
          have he5 : endOf none = 5 := rfl
          rw [he5] at hE
          clear hXX
          refine wp_region_later V5.heap.size (by kernel_rfl) (by kernel_rfl) ?_
          repeat (go_big_quiet_step (first
            | (go_at_call 15; exact Calls.later_same (hF _))
            | (go_at_call 16; exact Calls.later_same (hL _))
            | (go_at_call 17; exact Calls.later_same (hE _))))
          refine wpQuiet_nil ?_
          rintro _ ⟨p, rfl⟩
          go_wp2
          go_roundw
          case rel => exact ⟨k + 1, stepI st x, by omega, by go_num, RAt.keep HV4.out.2.1 p.ok, HW.out.2.2.2.2, below_next HV4.out.2.2 p.ok, by have := kept_block HV4.out.1 p.ok; rw [HW.out.2.2.2.1]; exact this⟩
          case measure => simp [intOf]; omega
        | some r =>
          rw [hst] at hF hL hE hXX
          simp only [rcells] at hXX
          obtain ⟨rfl, rfl⟩ : ba r = X' ∧ true = f' := by simpa using hXX
          simp only [Option.isSome, Option.getD] at hF hL
          have hsz := ba_size r
          have heq : (r.length = 0 → endOf (some r) = 0) ∧ (¬ r.length = 0 → endOf (some r) = 5) := by
            unfold endOf
            exact ⟨fun h => by rw [if_pos (by rw [List.eq_nil_of_length_eq_zero h])], fun h => by rw [if_neg (by intro e; cases e; exact h rfl)]⟩
          clear hXX
          have HRR : Hid (stepI st x = some r) := hst
          clear hst
          generalize ba r = S at *
          by_cases hq : r.length = 0
          · rw [heq.1 hq] at hE
            rw [hq] at hsz hL
            clear heq
            refine wp_region_later V5.heap.size (by kernel_rfl) (by kernel_rfl) ?_
            repeat (go_big_quiet_step (first
              | (go_at_call 15; exact Calls.later_same (hF _))
              | (go_at_call 16; exact Calls.later_same (hL _))
              | (go_at_call 17; exact Calls.later_same (hE _))))
            refine wpQuiet_nil ?_
            rintro _ ⟨p, rfl⟩
            go_wp2
            go_roundw
            case rel => exact ⟨k + 1, stepI st x, by omega, by go_num, RAt.keep HV4.out.2.1 p.ok, HW.out.2.2.2.2, below_next HV4.out.2.2 p.ok, by have := kept_block HV4.out.1 p.ok; rw [HW.out.2.2.2.1]; exact this⟩
            case measure => simp [intOf]; omega
          · rw [heq.2 hq] at hE
            generalize r.length = q at *
            have hqz : ((q : Int) == 0) = false := by rw [beq_eq_false_iff_ne]; omega
            clear heq
            refine wp_region_later V5.heap.size (by kernel_rfl) (by kernel_rfl) ?_
            repeat (go_big_quiet_step (first
              | (go_at_call 15; exact Calls.later_same (hF _))
              | (go_at_call 16; exact Calls.later_same (hL _))
              | (go_at_call 17; exact Calls.later_same (hE _))))
            refine wpQuiet_nil ?_
            rintro _ ⟨p, rfl⟩
            go_wp2
            go_roundw
            case rel => exact ⟨k + 1, stepI st x, by omega, by go_num, RAt.keep HV4.out.2.1 p.ok, HW.out.2.2.2.2, below_next HV4.out.2.2 p.ok, by have := kept_block HV4.out.1 p.ok; rw [HW.out.2.2.2.1]; exact this⟩
            case measure => simp [intOf]; omega
      · have h6' : w2.heap[t6]? = some (.cells #[.string X, .bool f] 40 (0, 0)) := HK2.out.other _ _ _ _ HW.out.2.2.1 (by decide) hg6
        have hBw : Below W.heap.size W w2 := HW.out.2.1.trans ((HK2.out.mono hWr).below (fun q hq => by cases hq; exact hgW))
        have r0 : ((w2.setCell ⟨wr.heap.size, 0, none⟩ (.string X')).setCell ⟨wr.heap.size, 1, none⟩ (.bool f')).cell? ⟨wr.heap.size, 0, none⟩ = some (.string X') := (cell_of_heap (j := 0) (set2_heap HZ2.out _ _)).trans rfl
        have r1 : ((w2.setCell ⟨wr.heap.size, 0, none⟩ (.string X')).setCell ⟨wr.heap.size, 1, none⟩ (.bool f')).cell? ⟨wr.heap.size, 1, none⟩ = some (.bool f') := (cell_of_heap (j := 1) (set2_heap HZ2.out _ _)).trans rfl
        have HV : Hid (((w2.setCell ⟨wr.heap.size, 0, none⟩ (.string X')).setCell ⟨wr.heap.size, 1, none⟩ (.bool f')).heap[t6]? = some (.cells #[.string X, .bool f] 40 (0, 0)) ∧ RAt ((w2.setCell ⟨wr.heap.size, 0, none⟩ (.string X')).setCell ⟨wr.heap.size, 1, none⟩ (.bool f')) (some g) (stepI st x) ∧ Below W.heap.size W ((w2.setCell ⟨wr.heap.size, 0, none⟩ (.string X')).setCell ⟨wr.heap.size, 1, none⟩ (.bool f'))) := ⟨(Below.heap_setCell _ _ _ _ (by show t6 ≠ wr.heap.size; omega)).trans ((Below.heap_setCell _ _ _ _ (by show t6 ≠ wr.heap.size; omega)).trans h6'), RAt.setOwn (RAt.setOwn HR2.out hng _) hng _, (hBw.setCell (by exact hWr) _).setCell (by exact hWr) _⟩
        clear y0 y1 d0 d1 d2 d3 d4 d5 d6 d7 d8 d9 d10 d11 d12 d13 h6' hBw u0 u1 u2
        generalize ((w2.setCell ⟨wr.heap.size, 0, none⟩ (.string X')).setCell ⟨wr.heap.size, 1, none⟩ (.bool f')) = V3 at *
        have y0' : V3.cell? ⟨t6, 0, none⟩ = some (.string X) := (cell_of_heap (j := 0) HV.out.1).trans rfl
        have y1' : V3.cell? ⟨t6, 1, none⟩ = some (.bool f) := (cell_of_heap (j := 1) HV.out.1).trans rfl
        have y2' := fun j => free_of_heap (j := j) HV.out.1
        have HV4 : Hid (((V3.setCell ⟨t6, 0, none⟩ (.string X')).setCell ⟨t6, 1, none⟩ (.bool f')).heap[t6]? = some (.cells #[.string X', .bool f'] 40 (0, 0)) ∧ RAt ((V3.setCell ⟨t6, 0, none⟩ (.string X')).setCell ⟨t6, 1, none⟩ (.bool f')) (some g) (stepI st x) ∧ Below W.heap.size W ((V3.setCell ⟨t6, 0, none⟩ (.string X')).setCell ⟨t6, 1, none⟩ (.bool f'))) :=
          ⟨set2_heap HV.out.1 _ _, RAt.setOwn (RAt.setOwn HV.out.2.1 hg6 _) hg6 _, (HV.out.2.2.setCell h6W _).setCell h6W _⟩
        go_wp2
        generalize (V3.setCell ⟨t6, 0, none⟩ (.string X')).setCell ⟨t6, 1, none⟩ (.bool f') = V5 at *
        clear y0' y1' y2' r0 r1 HV
        have q0 : ∀ p : Later V5.heap.size V5, p.val.cell? ⟨t6, 0, none⟩ = some (.string X') := fun p => (cell_of_heap (j := 0) (kept_block HV4.out.1 p.ok)).trans rfl
        have q1 : ∀ p : Later V5.heap.size V5, p.val.cell? ⟨t6, 1, none⟩ = some (.bool f') := fun p => (cell_of_heap (j := 1) (kept_block HV4.out.1 p.ok)).trans rfl
        have hF := fun p : Later V5.heap.size V5 => wire_Fine (some g) _ p.val (RAt.keep HV4.out.2.1 p.ok)
        have hL := fun p : Later V5.heap.size V5 => wire_Left (some g) _ p.val (RAt.keep HV4.out.2.1 p.ok)
        have hE := fun p : Later V5.heap.size V5 => wire_End (some g) _ p.val (RAt.keep HV4.out.2.1 p.ok)
        have hXX := HW.out.2.2.2.1
        simp only [rptr, Option.map] at hF hL hE
        cases hst : stepI st x with
        | none =>
          rw [hst] at hF hL hE hXX
          simp only [rcells] at hXX
          obtain ⟨rfl, rfl⟩ : (⟨#[]⟩ : ByteArray) = X' ∧ false = f' := by simpa using hXX
          simp only [Option.isSome, Option.getD, List.length_nil] at hF hL
          have he5 : endOf none = 5 := rfl
          rw [he5] at hE
          clear hXX
          refine wp_region_later V5.heap.size (by kernel_rfl) (by kernel_rfl) ?_
          repeat (go_big_quiet_step (first
            | (go_at_call 15; exact Calls.later_same (hF _))
            | (go_at_call 16; exact Calls.later_same (hL _))
            | (go_at_call 17; exact Calls.later_same (hE _))))
          refine wpQuiet_nil ?_
          rintro _ ⟨p, rfl⟩
          go_wp2
          go_roundw
          case rel => exact ⟨k + 1, stepI st x, by omega, by go_num, RAt.keep HV4.out.2.1 p.ok, HW.out.2.2.2.2, below_next HV4.out.2.2 p.ok, by have := kept_block HV4.out.1 p.ok; rw [HW.out.2.2.2.1]; exact this⟩
          case measure => simp [intOf]; omega
        | some r =>
          rw [hst] at hF hL hE hXX
          simp only [rcells] at hXX
          obtain ⟨rfl, rfl⟩ : ba r = X' ∧ true = f' := by simpa using hXX
          simp only [Option.isSome, Option.getD] at hF hL
          have hsz := ba_size r
          have heq : (r.length = 0 → endOf (some r) = 0) ∧ (¬ r.length = 0 → endOf (some r) = 5) := by
            unfold endOf
            exact ⟨fun h => by rw [if_pos (by rw [List.eq_nil_of_length_eq_zero h])], fun h => by rw [if_neg (by intro e; cases e; exact h rfl)]⟩
          clear hXX
          have HRR : Hid (stepI st x = some r) := hst
          clear hst
          generalize ba r = S at *
          by_cases hq : r.length = 0
          · rw [heq.1 hq] at hE
            rw [hq] at hsz hL
            clear heq
            refine wp_region_later V5.heap.size (by kernel_rfl) (by kernel_rfl) ?_
            repeat (go_big_quiet_step (first
              | (go_at_call 15; exact Calls.later_same (hF _))
              | (go_at_call 16; exact Calls.later_same (hL _))
              | (go_at_call 17; exact Calls.later_same (hE _))))
            refine wpQuiet_nil ?_
            rintro _ ⟨p, rfl⟩
            go_wp2
            go_roundw
            case rel => exact ⟨k + 1, stepI st x, by omega, by go_num, RAt.keep HV4.out.2.1 p.ok, HW.out.2.2.2.2, below_next HV4.out.2.2 p.ok, by have := kept_block HV4.out.1 p.ok; rw [HW.out.2.2.2.1]; exact this⟩
            case measure => simp [intOf]; omega
          · rw [heq.2 hq] at hE
            generalize r.length = q at *
            have hqz : ((q : Int) == 0) = false := by rw [beq_eq_false_iff_ne]; omega
            clear heq
            refine wp_region_later V5.heap.size (by kernel_rfl) (by kernel_rfl) ?_
            repeat (go_big_quiet_step (first
              | (go_at_call 15; exact Calls.later_same (hF _))
              | (go_at_call 16; exact Calls.later_same (hL _))
              | (go_at_call 17; exact Calls.later_same (hE _))))
            refine wpQuiet_nil ?_
            rintro _ ⟨p, rfl⟩
            go_wp2
            go_roundw
            case rel => exact ⟨k + 1, stepI st x, by omega, by go_num, RAt.keep HV4.out.2.1 p.ok, HW.out.2.2.2.2, below_next HV4.out.2.2 p.ok, by have := kept_block HV4.out.1 p.ok; rw [HW.out.2.2.2.1]; exact this⟩
            case measure => simp [intOf]; omega
    · have : k = len := by omega
      subst this
      have HB : Hid (Below W.heap.size W wr) := hbr
      clear hr hbr hs h6
      go_wp2_with (go_at_call 9; refine (law_head _).mono ?_; rintro e w8 ⟨rfl, hb8⟩)
      go_ret
      exact ⟨rfl, below_next HB.out hb8⟩

end Go.Proofs.Ytimemfkhmfhffaa
