/-
  The document's letters of a kind; is a letter in a text?
-/
import Derived.Test.YtagdapmnghnphaaDoorZOG
import Derived.Test.YtagdapmnghnphaaDoorZJU
import Derived.Deep.Cut
namespace Go.Proofs.YtagdapmnghnphaaDoor.V
set_option linter.unusedVariables false
set_option linter.unusedSimpArgs false
set_option maxRecDepth 100000
open Go Go.RowKit Go.Maps

set_option maxRecDepth 100000
set_option linter.unusedVariables false
set_option linter.unusedSimpArgs false
def letS (k : Nat) : ByteArray := match k with
  | 0 => ⟨#[]⟩
  | 1 => ⟨#[99, 116, 114, 100, 112]⟩
  | 2 => ⟨#[99, 97]⟩
  | 3 => ⟨#[99, 105, 113, 101]⟩
  | 4 => ⟨#[99, 97, 113]⟩
  | 5 => ⟨#[99, 97]⟩
  | 6 => ⟨#[99, 97, 118]⟩
  | 7 => ⟨#[99, 97, 118]⟩
  | 8 => ⟨#[99, 108]⟩
  | _ => ⟨#[]⟩

set_option maxHeartbeats 1000000 in
theorem ref_Has (k : Nat) (hk : k < 9) (w : World) :
    Calls Tryd.prog 63 #[.int .u8 (k : Int)] w fun e w' => e = .returned (.string (letS k)) ∧ Below w.heap.size w w' := by
  match k, hk with
  | 0, _ =>
    go_enter Tryd.func63, Tryd.ntmps63
    go_wp2
    go_ret
    exact ⟨rfl, (Below.refl _ _).alloc (Nat.le_refl _) _⟩
  | 1, _ =>
    go_enter Tryd.func63, Tryd.ntmps63
    go_wp2
    go_ret
    exact ⟨rfl, (Below.refl _ _).alloc (Nat.le_refl _) _⟩
  | 2, _ =>
    go_enter Tryd.func63, Tryd.ntmps63
    go_wp2
    go_ret
    exact ⟨rfl, (Below.refl _ _).alloc (Nat.le_refl _) _⟩
  | 3, _ =>
    go_enter Tryd.func63, Tryd.ntmps63
    go_wp2
    go_ret
    exact ⟨rfl, (Below.refl _ _).alloc (Nat.le_refl _) _⟩
  | 4, _ =>
    go_enter Tryd.func63, Tryd.ntmps63
    go_wp2
    go_ret
    exact ⟨rfl, (Below.refl _ _).alloc (Nat.le_refl _) _⟩
  | 5, _ =>
    go_enter Tryd.func63, Tryd.ntmps63
    go_wp2
    go_ret
    exact ⟨rfl, (Below.refl _ _).alloc (Nat.le_refl _) _⟩
  | 6, _ =>
    go_enter Tryd.func63, Tryd.ntmps63
    go_wp2
    go_ret
    exact ⟨rfl, (Below.refl _ _).alloc (Nat.le_refl _) _⟩
  | 7, _ =>
    go_enter Tryd.func63, Tryd.ntmps63
    go_wp2
    go_ret
    exact ⟨rfl, (Below.refl _ _).alloc (Nat.le_refl _) _⟩
  | 8, _ =>
    go_enter Tryd.func63, Tryd.ntmps63
    go_wp2
    go_ret
    exact ⟨rfl, (Below.refl _ _).alloc (Nat.le_refl _) _⟩

def inS (s : ByteArray) (c : Nat) : Bool := s.data.toList.any fun b => decide (b.toNat = c)

set_option maxHeartbeats 1000000 in
theorem ref_in (s : ByteArray) (hs : s.size ≤ 1000000) (c : Nat) (w : World) :
    Calls Tryd.prog 65 #[.string s, .int .u8 (c : Int)] w fun e w' => e = .returned (.bool (inS s c)) ∧ w = w' := by
  go_enter Tryd.func65, Tryd.ntmps65
  go_wp2
  go_loop [5] (fun i => ∃ k : Nat, k ≤ s.size ∧ i = .int .i64 k ∧ ∀ j, j < k → ∀ b, s.data.toList[j]? = some b → b.toNat ≠ c) (fun i => s.size - (intOf i).toNat)
  case atStart => exact ⟨0, by omega, rfl, fun j hj => absurd hj (by omega)⟩
  case round =>
    obtain ⟨k, hk, rfl, hall⟩ := hrel
    by_cases hlt : k < s.size
    · have hget : s.data.toList[k]? = some s[k] := by
        rw [List.getElem?_eq_getElem (by simpa using hlt)]; rfl
      have HA := hid (And.intro hall hget)
      clear hall hget
      by_cases hc : s[k].toNat = c
      · have e1 : ((s[k].toNat : Int) == (c : Int)) = true := by simp [hc]
        have HC := hid hc
        clear hc
        go_wp2
        go_ret
        refine ⟨?_, rfl⟩
        have : inS s c = true := by
          unfold inS
          rw [List.any_eq_true]
          exact ⟨_, List.mem_of_getElem? HA.out.2, by rw [HC.out]; simp⟩
        rw [this]; rfl
      · have e1 : ((s[k].toNat : Int) == (c : Int)) = false := by simp; omega
        have HC := hid hc
        clear hc
        go_wp2
        go_round
        case rel =>
          refine ⟨k + 1, by omega, by go_num, fun j hj b hb => ?_⟩
          by_cases hjk : j = k
          · rw [hjk] at hb
            rw [HA.out.2] at hb
            cases hb
            exact HC.out
          · exact HA.out.1 j (by omega) b hb
        case measure => simp [intOf]; omega
    · obtain rfl : k = s.size := by omega
      have HA := hid hall
      clear hall
      go_wp2
      go_ret
      refine ⟨?_, rfl⟩
      have : inS s c = false := by
        cases hb : inS s c
        · rfl
        · unfold inS at hb
          rw [List.any_eq_true] at hb
          obtain ⟨b, hm, hb⟩ := hb
          obtain ⟨j, hj, rfl⟩ := List.mem_iff_getElem.1 hm
          exact absurd (of_decide_eq_true hb) (HA.out j (by simpa using hj) _ (List.getElem?_eq_getElem hj))
      rw [this]; rfl

end Go.Proofs.YtagdapmnghnphaaDoor.V

namespace Go.Proofs.YtagdapmnghnphaaDoor.V
set_option linter.unusedVariables false
set_option linter.unusedSimpArgs false
set_option maxRecDepth 100000
open Go Go.RowKit Go.Maps

set_option maxRecDepth 100000
set_option linter.unusedVariables false
set_option linter.unusedSimpArgs false
/-- A walk held still. -/
structure Hold (p : Prop) : Prop where
  out : p
theorem hold_at {P : Program} {ops : Array Oper} {Q : Exit → Act → World → Prop} {o : Oper} {rest : List Oper} {a : Act} {w : World} (n : Nat) (hd : o.dst = some n) (h : Hold (wpList P ops Q (o :: rest) a w)) : wpList P ops Q (o :: rest) a w := h.out
/-- The ways of a row of operations meet again behind n of them. -/
theorem wp_merge {P : Program} {ops : Array Oper} {Q : Exit → Act → World → Prop} {l : List Oper} {a : Act} {w : World} (n : Nat) (R : (Act → World → Prop) → Prop)
    (h2 : R (fun a' w' => wpList P ops Q (l.drop n) a' w') → wpList P ops Q l a w) (h1 : R (fun a' w' => wpList P ops Q (l.drop n) a' w')) : wpList P ops Q l a w := h2 h1
theorem cells2 {w : World} {b : Nat} {x y : Value} {t : TypeId} {fr : Nat × Nat} (h : w.heap[b]? = some (.cells #[x, y] t fr)) : w.cell? ⟨b, 0, none⟩ = some x ∧ w.cell? ⟨b, 1, none⟩ = some y := by constructor <;> simp [World.cell?, h]
theorem eql_zero (r n : Nat) (W : World) : (binOp .eql 30 (.agg #[.int .u8 (r : Int), .int .u32 (n : Int)]) (.agg #[.int .u8 0, .int .u32 0])).run Tryd.prog W = .ok (.bool (eqB (r, n) (0, 0))) W := run_eql r n 0 0 W

def zeroM (o : OpM) (l : List Claim) : Bool := (inS (letS o.kd) 99 || eqB (o.dr, o.dn) (0, 0)) && (inS (letS o.kd) 116 || ((o.to : Int) == 0)) && (inS (letS o.kd) 114 || ((o.ro : Int) == 0)) && (inS (letS o.kd) 100 || ((o.de : Int) == 0)) && (inS (letS o.kd) 112 || ((o.cap : Int) == 0)) && (inS (letS o.kd) 97 || eqB (o.ar, o.an) (0, 0)) && (inS (letS o.kd) 118 || eqB (o.vr, o.vn) (0, 0)) && (inS (letS o.kd) 105 || ((o.it : Int) == 0)) && (inS (letS o.kd) 113 || ((o.qt : Int) == 0)) && (inS (letS o.kd) 101 || ((o.pr : Int) == 0)) && (inS (letS o.kd) 108 || ((l.length : Int) == 0))

set_option maxHeartbeats 4000000 in
theorem ref_zero (o : OpM) (l : List Claim) (hk : o.kd < 9) (w : World) (hv : ClaimsV w o.lv l) :
    Calls Tryd.prog 62 #[.agg (oc o)] w
      fun e w' => e = .returned (.bool (zeroM o l)) ∧ Below w.heap.size w w' := by
  obtain ⟨ad, len, cap, hlv, hI⟩ := hv
  have HLV := hid hlv
  have hlen := hI.1
  clear hlv hI
  have hH := fun W => ref_Has o.kd hk W
  unfold zeroM
  have hsz : (letS o.kd).size ≤ 1000000 := by unfold letS; split <;> decide
  have hin := fun c W => ref_in (letS o.kd) hsz c W
  generalize letS o.kd = s at hH hin hsz ⊢
  rw [hlen]
  obtain ⟨b0, hb0⟩ : ∃ b, inS s 99 = b := ⟨_, rfl⟩
  obtain ⟨z0, hz0⟩ : ∃ z, eqB (o.dr, o.dn) (0, 0) = z := ⟨_, rfl⟩
  have i0 : ∀ W, Calls Tryd.prog 65 #[.string s, .int .u8 99] W fun e w' => e = .returned (.bool b0) ∧ W = w' := fun W => hb0 ▸ hin 99 W
  obtain ⟨b1, hb1⟩ : ∃ b, inS s 116 = b := ⟨_, rfl⟩
  obtain ⟨z1, hz1⟩ : ∃ z, ((o.to : Int) == 0) = z := ⟨_, rfl⟩
  have i1 : ∀ W, Calls Tryd.prog 65 #[.string s, .int .u8 116] W fun e w' => e = .returned (.bool b1) ∧ W = w' := fun W => hb1 ▸ hin 116 W
  obtain ⟨b2, hb2⟩ : ∃ b, inS s 114 = b := ⟨_, rfl⟩
  obtain ⟨z2, hz2⟩ : ∃ z, ((o.ro : Int) == 0) = z := ⟨_, rfl⟩
  have i2 : ∀ W, Calls Tryd.prog 65 #[.string s, .int .u8 114] W fun e w' => e = .returned (.bool b2) ∧ W = w' := fun W => hb2 ▸ hin 114 W
  obtain ⟨b3, hb3⟩ : ∃ b, inS s 100 = b := ⟨_, rfl⟩
  obtain ⟨z3, hz3⟩ : ∃ z, ((o.de : Int) == 0) = z := ⟨_, rfl⟩
  have i3 : ∀ W, Calls Tryd.prog 65 #[.string s, .int .u8 100] W fun e w' => e = .returned (.bool b3) ∧ W = w' := fun W => hb3 ▸ hin 100 W
  obtain ⟨b4, hb4⟩ : ∃ b, inS s 112 = b := ⟨_, rfl⟩
  obtain ⟨z4, hz4⟩ : ∃ z, ((o.cap : Int) == 0) = z := ⟨_, rfl⟩
  have i4 : ∀ W, Calls Tryd.prog 65 #[.string s, .int .u8 112] W fun e w' => e = .returned (.bool b4) ∧ W = w' := fun W => hb4 ▸ hin 112 W
  obtain ⟨b5, hb5⟩ : ∃ b, inS s 97 = b := ⟨_, rfl⟩
  obtain ⟨z5, hz5⟩ : ∃ z, eqB (o.ar, o.an) (0, 0) = z := ⟨_, rfl⟩
  have i5 : ∀ W, Calls Tryd.prog 65 #[.string s, .int .u8 97] W fun e w' => e = .returned (.bool b5) ∧ W = w' := fun W => hb5 ▸ hin 97 W
  obtain ⟨b6, hb6⟩ : ∃ b, inS s 118 = b := ⟨_, rfl⟩
  obtain ⟨z6, hz6⟩ : ∃ z, eqB (o.vr, o.vn) (0, 0) = z := ⟨_, rfl⟩
  have i6 : ∀ W, Calls Tryd.prog 65 #[.string s, .int .u8 118] W fun e w' => e = .returned (.bool b6) ∧ W = w' := fun W => hb6 ▸ hin 118 W
  obtain ⟨b7, hb7⟩ : ∃ b, inS s 105 = b := ⟨_, rfl⟩
  obtain ⟨z7, hz7⟩ : ∃ z, ((o.it : Int) == 0) = z := ⟨_, rfl⟩
  have i7 : ∀ W, Calls Tryd.prog 65 #[.string s, .int .u8 105] W fun e w' => e = .returned (.bool b7) ∧ W = w' := fun W => hb7 ▸ hin 105 W
  obtain ⟨b8, hb8⟩ : ∃ b, inS s 113 = b := ⟨_, rfl⟩
  obtain ⟨z8, hz8⟩ : ∃ z, ((o.qt : Int) == 0) = z := ⟨_, rfl⟩
  have i8 : ∀ W, Calls Tryd.prog 65 #[.string s, .int .u8 113] W fun e w' => e = .returned (.bool b8) ∧ W = w' := fun W => hb8 ▸ hin 113 W
  obtain ⟨b9, hb9⟩ : ∃ b, inS s 101 = b := ⟨_, rfl⟩
  obtain ⟨z9, hz9⟩ : ∃ z, ((o.pr : Int) == 0) = z := ⟨_, rfl⟩
  have i9 : ∀ W, Calls Tryd.prog 65 #[.string s, .int .u8 101] W fun e w' => e = .returned (.bool b9) ∧ W = w' := fun W => hb9 ▸ hin 101 W
  obtain ⟨b10, hb10⟩ : ∃ b, inS s 108 = b := ⟨_, rfl⟩
  obtain ⟨z10, hz10⟩ : ∃ z, ((len : Int) == 0) = z := ⟨_, rfl⟩
  have i10 : ∀ W, Calls Tryd.prog 65 #[.string s, .int .u8 108] W fun e w' => e = .returned (.bool b10) ∧ W = w' := fun W => hb10 ▸ hin 108 W
  rw [hb0, hz0, hb1, hz1, hb2, hz2, hb3, hz3, hb4, hz4, hb5, hz5, hb6, hz6, hb7, hz7, hb8, hz8, hb9, hz9, hb10, hz10]
  obtain ⟨e0, he0⟩ : ∃ e, e = (b0 || z0) := ⟨_, rfl⟩
  rw [← he0]
  have HE0 := hid he0
  clear he0
  obtain ⟨e1, he1⟩ : ∃ e, e = (e0 && (b1 || z1)) := ⟨_, rfl⟩
  rw [← he1]
  have HE1 := hid he1
  clear he1
  obtain ⟨e2, he2⟩ : ∃ e, e = (e1 && (b2 || z2)) := ⟨_, rfl⟩
  rw [← he2]
  have HE2 := hid he2
  clear he2
  obtain ⟨e3, he3⟩ : ∃ e, e = (e2 && (b3 || z3)) := ⟨_, rfl⟩
  rw [← he3]
  have HE3 := hid he3
  clear he3
  obtain ⟨e4, he4⟩ : ∃ e, e = (e3 && (b4 || z4)) := ⟨_, rfl⟩
  rw [← he4]
  have HE4 := hid he4
  clear he4
  obtain ⟨e5, he5⟩ : ∃ e, e = (e4 && (b5 || z5)) := ⟨_, rfl⟩
  rw [← he5]
  have HE5 := hid he5
  clear he5
  obtain ⟨e6, he6⟩ : ∃ e, e = (e5 && (b6 || z6)) := ⟨_, rfl⟩
  rw [← he6]
  have HE6 := hid he6
  clear he6
  obtain ⟨e7, he7⟩ : ∃ e, e = (e6 && (b7 || z7)) := ⟨_, rfl⟩
  rw [← he7]
  have HE7 := hid he7
  clear he7
  obtain ⟨e8, he8⟩ : ∃ e, e = (e7 && (b8 || z8)) := ⟨_, rfl⟩
  rw [← he8]
  have HE8 := hid he8
  clear he8
  obtain ⟨e9, he9⟩ : ∃ e, e = (e8 && (b9 || z9)) := ⟨_, rfl⟩
  rw [← he9]
  have HE9 := hid he9
  clear he9
  obtain ⟨e10, he10⟩ : ∃ e, e = (e9 && (b10 || z10)) := ⟨_, rfl⟩
  rw [← he10]
  have HE10 := hid he10
  clear he10
  have g14 : (oc o)[14]? = some (.int .u8 (o.kd : Int)) := rfl
  have HZ0 := hid hz0
  have HZ1 := hid hz1
  have HZ2 := hid hz2
  have HZ3 := hid hz3
  have HZ4 := hid hz4
  have HZ5 := hid hz5
  have HZ6 := hid hz6
  have HZ7 := hid hz7
  have HZ8 := hid hz8
  have HZ9 := hid hz9
  have HZ10 := hid hz10
  clear hin hk hsz hb0 hz0 hb1 hz1 hb2 hz2 hb3 hz3 hb4 hz4 hb5 hz5 hb6 hz6 hb7 hz7 hb8 hz8 hb9 hz9 hb10 hz10
  go_enter Tryd.func62, Tryd.ntmps62
  go_upto_region 3 with (first
    | (go_at_call 63; (with_reducible refine (hH _).mono ?_); rintro e w1 ⟨rfl, hB1⟩; have HP1 := hid ((opAt_new w o).keep hB1); have HB1 := hid (below_next (below_al w (.cells (oc o) 34)) hB1); clear hB1))
  dsimp only [List.append]
  refine wp_region_lit ?_
  have HN := hid (heap_alloc_last' w1 (.cells #[.int .u8 0, .int .u32 0] 30))
  have HP := hid (HP1.out.al (.cells #[.int .u8 0, .int .u32 0] 30))
  have HB := hid (below_next HB1.out (below_al w1 (.cells #[.int .u8 0, .int .u32 0] 30)))
  generalize w1.alloc (.cells #[.int .u8 0, .int .u32 0] 30) = w2 at HN HP HB ⊢
  have HP2 := HP
  have HN2 := hid (cells2 HN.out)
  clear HN HP g14 hH
  refine wp_merge 10 (fun K => ∀ x9 x10 x11 x12 x13 x14 x15 x18 : Value, (e0 = true → x18 = .string s) → K ⟨#[.agg (oc o), .pointer (some ⟨w.heap.size, 0, none⟩), .bool false, .string s, .pointer (some ⟨w1.heap.size, 0, none⟩), .pointer (some ⟨w.heap.size, 14, none⟩), .int .u8 (o.kd : Int), .string s, .agg #[.int .u8 0, .int .u32 0], x9, x10, x11, x12, x13, x14, x15, .bool e0, .bool e0, x18, undef, undef, undef, undef, undef, undef, undef, undef, undef, undef, undef, undef, undef, undef, undef, undef, undef, undef, undef, undef, undef, undef, undef, undef, undef, undef, undef, undef, undef, undef, undef, undef, undef, undef, undef, undef, undef, undef, undef, undef, undef, undef, undef, undef, undef, undef, undef, undef, undef, undef, undef, undef, undef, undef, undef, undef, undef, undef, undef, undef, undef, undef, undef, undef, undef, undef, undef, undef, undef, undef, undef, undef, undef, undef, undef, undef, undef, undef, undef, undef, undef, undef, undef, undef, undef, undef, undef, undef, undef, undef, undef], []⟩ w2) (fun H => ?_) ?_
  · dsimp only at H
    simp only [List.drop_succ_cons, List.drop_zero] at H
    have c15 := HP2.out.c15
    have c16 := HP2.out.c16
    have n0 := HN2.out.1
    have n1 := HN2.out.2
    have hq := fun W => eql_zero o.dr o.dn W
    rw [HZ0.out] at hq
    cases b0
    · cases z0
      · have : e0 = false := by rw [HE0.out]; rfl
        subst this
        go_upto_region 999 with (first | (with_reducible exact H _ _ _ _ _ _ _ _ (by first | exact fun _ => rfl | exact fun h => by cases h)) | (go_at_call 65; (with_reducible refine (i0 _).mono ?_); rintro e w' ⟨rfl, rfl⟩))
        all_goals (go_ret; exact ⟨by simp [HE1.out, HE2.out, HE3.out, HE4.out, HE5.out, HE6.out, HE7.out, HE8.out, HE9.out, HE10.out], HB.out⟩)
      · have : e0 = true := by rw [HE0.out]; rfl
        subst this
        go_upto_region 999 with (first | (with_reducible exact H _ _ _ _ _ _ _ _ (by first | exact fun _ => rfl | exact fun h => by cases h)) | (go_at_call 65; (with_reducible refine (i0 _).mono ?_); rintro e w' ⟨rfl, rfl⟩))
        all_goals (go_ret; exact ⟨by simp [HE1.out, HE2.out, HE3.out, HE4.out, HE5.out, HE6.out, HE7.out, HE8.out, HE9.out, HE10.out], HB.out⟩)
    · have : e0 = true := by rw [HE0.out]; rfl
      subst this
      go_upto_region 999 with (first | (with_reducible exact H _ _ _ _ _ _ _ _ (by first | exact fun _ => rfl | exact fun h => by cases h)) | (go_at_call 65; (with_reducible refine (i0 _).mono ?_); rintro e w' ⟨rfl, rfl⟩))
      all_goals (go_ret; exact ⟨by simp [HE1.out, HE2.out, HE3.out, HE4.out, HE5.out, HE6.out, HE7.out, HE8.out, HE9.out, HE10.out], HB.out⟩)
  dsimp only
  simp only [List.drop_succ_cons, List.drop_zero]
  intro x9 x10 x11 x12 x13 x14 x15 x18 hx
  refine wp_merge 9 (fun K => ∀ x19 x20 x21 x22 x23 x24 x27 : Value, (e1 = true → x27 = .string s) → K ⟨#[.agg (oc o), .pointer (some ⟨w.heap.size, 0, none⟩), .bool false, .string s, .pointer (some ⟨w1.heap.size, 0, none⟩), .pointer (some ⟨w.heap.size, 14, none⟩), .int .u8 (o.kd : Int), .string s, .agg #[.int .u8 0, .int .u32 0], x9, x10, x11, x12, x13, x14, x15, .bool e0, .bool e0, x18, x19, x20, x21, x22, x23, x24, .bool e1, .bool e1, x27, undef, undef, undef, undef, undef, undef, undef, undef, undef, undef, undef, undef, undef, undef, undef, undef, undef, undef, undef, undef, undef, undef, undef, undef, undef, undef, undef, undef, undef, undef, undef, undef, undef, undef, undef, undef, undef, undef, undef, undef, undef, undef, undef, undef, undef, undef, undef, undef, undef, undef, undef, undef, undef, undef, undef, undef, undef, undef, undef, undef, undef, undef, undef, undef, undef, undef, undef, undef, undef, undef, undef, undef, undef, undef, undef, undef, undef, undef, undef, undef, undef, undef], []⟩ w2) (fun H => ?_) ?_
  · dsimp only at H
    simp only [List.drop_succ_cons, List.drop_zero] at H
    have c17 := HP2.out.c17
    cases e0
    · have : e1 = false := by rw [HE1.out]; rfl
      subst this
      clear hx
      go_upto_region 999 with (first | (with_reducible exact H _ _ _ _ _ _ _ (by first | exact fun _ => rfl | exact fun h => by cases h)) | (go_at_call 65; (with_reducible refine (i1 _).mono ?_); rintro e w' ⟨rfl, rfl⟩))
      all_goals (go_ret; exact ⟨by simp [HE2.out, HE3.out, HE4.out, HE5.out, HE6.out, HE7.out, HE8.out, HE9.out, HE10.out], HB.out⟩)
    · obtain rfl := hx rfl
      cases b1
      · cases z1
        · have hz := HZ1.out; have : e1 = false := by rw [HE1.out]; rfl
          subst this
          go_upto_region 999 with (first | (with_reducible exact H _ _ _ _ _ _ _ (by first | exact fun _ => rfl | exact fun h => by cases h)) | (go_at_call 65; (with_reducible refine (i1 _).mono ?_); rintro e w' ⟨rfl, rfl⟩))
          all_goals (go_ret; exact ⟨by simp [HE2.out, HE3.out, HE4.out, HE5.out, HE6.out, HE7.out, HE8.out, HE9.out, HE10.out], HB.out⟩)
        · have hz := HZ1.out; have : e1 = true := by rw [HE1.out]; rfl
          subst this
          go_upto_region 999 with (first | (with_reducible exact H _ _ _ _ _ _ _ (by first | exact fun _ => rfl | exact fun h => by cases h)) | (go_at_call 65; (with_reducible refine (i1 _).mono ?_); rintro e w' ⟨rfl, rfl⟩))
          all_goals (go_ret; exact ⟨by simp [HE2.out, HE3.out, HE4.out, HE5.out, HE6.out, HE7.out, HE8.out, HE9.out, HE10.out], HB.out⟩)
      · have : e1 = true := by rw [HE1.out]; rfl
        subst this
        go_upto_region 999 with (first | (with_reducible exact H _ _ _ _ _ _ _ (by first | exact fun _ => rfl | exact fun h => by cases h)) | (go_at_call 65; (with_reducible refine (i1 _).mono ?_); rintro e w' ⟨rfl, rfl⟩))
        all_goals (go_ret; exact ⟨by simp [HE2.out, HE3.out, HE4.out, HE5.out, HE6.out, HE7.out, HE8.out, HE9.out, HE10.out], HB.out⟩)
  dsimp only
  simp only [List.drop_succ_cons, List.drop_zero]
  intro x19 x20 x21 x22 x23 x24 x27 hx
  refine wp_merge 9 (fun K => ∀ x28 x29 x30 x31 x32 x33 x36 : Value, (e2 = true → x36 = .string s) → K ⟨#[.agg (oc o), .pointer (some ⟨w.heap.size, 0, none⟩), .bool false, .string s, .pointer (some ⟨w1.heap.size, 0, none⟩), .pointer (some ⟨w.heap.size, 14, none⟩), .int .u8 (o.kd : Int), .string s, .agg #[.int .u8 0, .int .u32 0], x9, x10, x11, x12, x13, x14, x15, .bool e0, .bool e0, x18, x19, x20, x21, x22, x23, x24, .bool e1, .bool e1, x27, x28, x29, x30, x31, x32, x33, .bool e2, .bool e2, x36, undef, undef, undef, undef, undef, undef, undef, undef, undef, undef, undef, undef, undef, undef, undef, undef, undef, undef, undef, undef, undef, undef, undef, undef, undef, undef, undef, undef, undef, undef, undef, undef, undef, undef, undef, undef, undef, undef, undef, undef, undef, undef, undef, undef, undef, undef, undef, undef, undef, undef, undef, undef, undef, undef, undef, undef, undef, undef, undef, undef, undef, undef, undef, undef, undef, undef, undef, undef, undef, undef, undef, undef, undef], []⟩ w2) (fun H => ?_) ?_
  · dsimp only at H
    simp only [List.drop_succ_cons, List.drop_zero] at H
    have c18 := HP2.out.c18
    cases e1
    · have : e2 = false := by rw [HE2.out]; rfl
      subst this
      clear hx
      go_upto_region 999 with (first | (with_reducible exact H _ _ _ _ _ _ _ (by first | exact fun _ => rfl | exact fun h => by cases h)) | (go_at_call 65; (with_reducible refine (i2 _).mono ?_); rintro e w' ⟨rfl, rfl⟩))
      all_goals (go_ret; exact ⟨by simp [HE3.out, HE4.out, HE5.out, HE6.out, HE7.out, HE8.out, HE9.out, HE10.out], HB.out⟩)
    · obtain rfl := hx rfl
      cases b2
      · cases z2
        · have hz := HZ2.out; have : e2 = false := by rw [HE2.out]; rfl
          subst this
          go_upto_region 999 with (first | (with_reducible exact H _ _ _ _ _ _ _ (by first | exact fun _ => rfl | exact fun h => by cases h)) | (go_at_call 65; (with_reducible refine (i2 _).mono ?_); rintro e w' ⟨rfl, rfl⟩))
          all_goals (go_ret; exact ⟨by simp [HE3.out, HE4.out, HE5.out, HE6.out, HE7.out, HE8.out, HE9.out, HE10.out], HB.out⟩)
        · have hz := HZ2.out; have : e2 = true := by rw [HE2.out]; rfl
          subst this
          go_upto_region 999 with (first | (with_reducible exact H _ _ _ _ _ _ _ (by first | exact fun _ => rfl | exact fun h => by cases h)) | (go_at_call 65; (with_reducible refine (i2 _).mono ?_); rintro e w' ⟨rfl, rfl⟩))
          all_goals (go_ret; exact ⟨by simp [HE3.out, HE4.out, HE5.out, HE6.out, HE7.out, HE8.out, HE9.out, HE10.out], HB.out⟩)
      · have : e2 = true := by rw [HE2.out]; rfl
        subst this
        go_upto_region 999 with (first | (with_reducible exact H _ _ _ _ _ _ _ (by first | exact fun _ => rfl | exact fun h => by cases h)) | (go_at_call 65; (with_reducible refine (i2 _).mono ?_); rintro e w' ⟨rfl, rfl⟩))
        all_goals (go_ret; exact ⟨by simp [HE3.out, HE4.out, HE5.out, HE6.out, HE7.out, HE8.out, HE9.out, HE10.out], HB.out⟩)
  dsimp only
  simp only [List.drop_succ_cons, List.drop_zero]
  intro x28 x29 x30 x31 x32 x33 x36 hx
  refine wp_merge 9 (fun K => ∀ x37 x38 x39 x40 x41 x42 x45 : Value, (e3 = true → x45 = .string s) → K ⟨#[.agg (oc o), .pointer (some ⟨w.heap.size, 0, none⟩), .bool false, .string s, .pointer (some ⟨w1.heap.size, 0, none⟩), .pointer (some ⟨w.heap.size, 14, none⟩), .int .u8 (o.kd : Int), .string s, .agg #[.int .u8 0, .int .u32 0], x9, x10, x11, x12, x13, x14, x15, .bool e0, .bool e0, x18, x19, x20, x21, x22, x23, x24, .bool e1, .bool e1, x27, x28, x29, x30, x31, x32, x33, .bool e2, .bool e2, x36, x37, x38, x39, x40, x41, x42, .bool e3, .bool e3, x45, undef, undef, undef, undef, undef, undef, undef, undef, undef, undef, undef, undef, undef, undef, undef, undef, undef, undef, undef, undef, undef, undef, undef, undef, undef, undef, undef, undef, undef, undef, undef, undef, undef, undef, undef, undef, undef, undef, undef, undef, undef, undef, undef, undef, undef, undef, undef, undef, undef, undef, undef, undef, undef, undef, undef, undef, undef, undef, undef, undef, undef, undef, undef, undef], []⟩ w2) (fun H => ?_) ?_
  · dsimp only at H
    simp only [List.drop_succ_cons, List.drop_zero] at H
    have c19 := HP2.out.c19
    cases e2
    · have : e3 = false := by rw [HE3.out]; rfl
      subst this
      clear hx
      go_upto_region 999 with (first | (with_reducible exact H _ _ _ _ _ _ _ (by first | exact fun _ => rfl | exact fun h => by cases h)) | (go_at_call 65; (with_reducible refine (i3 _).mono ?_); rintro e w' ⟨rfl, rfl⟩))
      all_goals (go_ret; exact ⟨by simp [HE4.out, HE5.out, HE6.out, HE7.out, HE8.out, HE9.out, HE10.out], HB.out⟩)
    · obtain rfl := hx rfl
      cases b3
      · cases z3
        · have hz := HZ3.out; have : e3 = false := by rw [HE3.out]; rfl
          subst this
          go_upto_region 999 with (first | (with_reducible exact H _ _ _ _ _ _ _ (by first | exact fun _ => rfl | exact fun h => by cases h)) | (go_at_call 65; (with_reducible refine (i3 _).mono ?_); rintro e w' ⟨rfl, rfl⟩))
          all_goals (go_ret; exact ⟨by simp [HE4.out, HE5.out, HE6.out, HE7.out, HE8.out, HE9.out, HE10.out], HB.out⟩)
        · have hz := HZ3.out; have : e3 = true := by rw [HE3.out]; rfl
          subst this
          go_upto_region 999 with (first | (with_reducible exact H _ _ _ _ _ _ _ (by first | exact fun _ => rfl | exact fun h => by cases h)) | (go_at_call 65; (with_reducible refine (i3 _).mono ?_); rintro e w' ⟨rfl, rfl⟩))
          all_goals (go_ret; exact ⟨by simp [HE4.out, HE5.out, HE6.out, HE7.out, HE8.out, HE9.out, HE10.out], HB.out⟩)
      · have : e3 = true := by rw [HE3.out]; rfl
        subst this
        go_upto_region 999 with (first | (with_reducible exact H _ _ _ _ _ _ _ (by first | exact fun _ => rfl | exact fun h => by cases h)) | (go_at_call 65; (with_reducible refine (i3 _).mono ?_); rintro e w' ⟨rfl, rfl⟩))
        all_goals (go_ret; exact ⟨by simp [HE4.out, HE5.out, HE6.out, HE7.out, HE8.out, HE9.out, HE10.out], HB.out⟩)
  dsimp only
  simp only [List.drop_succ_cons, List.drop_zero]
  intro x37 x38 x39 x40 x41 x42 x45 hx
  refine wp_merge 9 (fun K => ∀ x46 x47 x48 x49 x50 x51 x54 : Value, (e4 = true → x54 = .string s) → K ⟨#[.agg (oc o), .pointer (some ⟨w.heap.size, 0, none⟩), .bool false, .string s, .pointer (some ⟨w1.heap.size, 0, none⟩), .pointer (some ⟨w.heap.size, 14, none⟩), .int .u8 (o.kd : Int), .string s, .agg #[.int .u8 0, .int .u32 0], x9, x10, x11, x12, x13, x14, x15, .bool e0, .bool e0, x18, x19, x20, x21, x22, x23, x24, .bool e1, .bool e1, x27, x28, x29, x30, x31, x32, x33, .bool e2, .bool e2, x36, x37, x38, x39, x40, x41, x42, .bool e3, .bool e3, x45, x46, x47, x48, x49, x50, x51, .bool e4, .bool e4, x54, undef, undef, undef, undef, undef, undef, undef, undef, undef, undef, undef, undef, undef, undef, undef, undef, undef, undef, undef, undef, undef, undef, undef, undef, undef, undef, undef, undef, undef, undef, undef, undef, undef, undef, undef, undef, undef, undef, undef, undef, undef, undef, undef, undef, undef, undef, undef, undef, undef, undef, undef, undef, undef, undef, undef], []⟩ w2) (fun H => ?_) ?_
  · dsimp only at H
    simp only [List.drop_succ_cons, List.drop_zero] at H
    have c20 := HP2.out.c20
    cases e3
    · have : e4 = false := by rw [HE4.out]; rfl
      subst this
      clear hx
      go_upto_region 999 with (first | (with_reducible exact H _ _ _ _ _ _ _ (by first | exact fun _ => rfl | exact fun h => by cases h)) | (go_at_call 65; (with_reducible refine (i4 _).mono ?_); rintro e w' ⟨rfl, rfl⟩))
      all_goals (go_ret; exact ⟨by simp [HE5.out, HE6.out, HE7.out, HE8.out, HE9.out, HE10.out], HB.out⟩)
    · obtain rfl := hx rfl
      cases b4
      · cases z4
        · have hz := HZ4.out; have : e4 = false := by rw [HE4.out]; rfl
          subst this
          go_upto_region 999 with (first | (with_reducible exact H _ _ _ _ _ _ _ (by first | exact fun _ => rfl | exact fun h => by cases h)) | (go_at_call 65; (with_reducible refine (i4 _).mono ?_); rintro e w' ⟨rfl, rfl⟩))
          all_goals (go_ret; exact ⟨by simp [HE5.out, HE6.out, HE7.out, HE8.out, HE9.out, HE10.out], HB.out⟩)
        · have hz := HZ4.out; have : e4 = true := by rw [HE4.out]; rfl
          subst this
          go_upto_region 999 with (first | (with_reducible exact H _ _ _ _ _ _ _ (by first | exact fun _ => rfl | exact fun h => by cases h)) | (go_at_call 65; (with_reducible refine (i4 _).mono ?_); rintro e w' ⟨rfl, rfl⟩))
          all_goals (go_ret; exact ⟨by simp [HE5.out, HE6.out, HE7.out, HE8.out, HE9.out, HE10.out], HB.out⟩)
      · have : e4 = true := by rw [HE4.out]; rfl
        subst this
        go_upto_region 999 with (first | (with_reducible exact H _ _ _ _ _ _ _ (by first | exact fun _ => rfl | exact fun h => by cases h)) | (go_at_call 65; (with_reducible refine (i4 _).mono ?_); rintro e w' ⟨rfl, rfl⟩))
        all_goals (go_ret; exact ⟨by simp [HE5.out, HE6.out, HE7.out, HE8.out, HE9.out, HE10.out], HB.out⟩)
  dsimp only
  simp only [List.drop_succ_cons, List.drop_zero]
  intro x46 x47 x48 x49 x50 x51 x54 hx
  refine wp_merge 10 (fun K => ∀ x55 x56 x57 x58 x59 x60 x61 x64 : Value, (e5 = true → x64 = .string s) → K ⟨#[.agg (oc o), .pointer (some ⟨w.heap.size, 0, none⟩), .bool false, .string s, .pointer (some ⟨w1.heap.size, 0, none⟩), .pointer (some ⟨w.heap.size, 14, none⟩), .int .u8 (o.kd : Int), .string s, .agg #[.int .u8 0, .int .u32 0], x9, x10, x11, x12, x13, x14, x15, .bool e0, .bool e0, x18, x19, x20, x21, x22, x23, x24, .bool e1, .bool e1, x27, x28, x29, x30, x31, x32, x33, .bool e2, .bool e2, x36, x37, x38, x39, x40, x41, x42, .bool e3, .bool e3, x45, x46, x47, x48, x49, x50, x51, .bool e4, .bool e4, x54, x55, x56, x57, x58, x59, x60, x61, .bool e5, .bool e5, x64, undef, undef, undef, undef, undef, undef, undef, undef, undef, undef, undef, undef, undef, undef, undef, undef, undef, undef, undef, undef, undef, undef, undef, undef, undef, undef, undef, undef, undef, undef, undef, undef, undef, undef, undef, undef, undef, undef, undef, undef, undef, undef, undef, undef, undef], []⟩ w2) (fun H => ?_) ?_
  · dsimp only at H
    simp only [List.drop_succ_cons, List.drop_zero] at H
    have c21 := HP2.out.c21
    have c22 := HP2.out.c22
    have n0 := HN2.out.1
    have n1 := HN2.out.2
    have hq := fun W => eql_zero o.ar o.an W
    rw [HZ5.out] at hq
    cases e4
    · have : e5 = false := by rw [HE5.out]; rfl
      subst this
      clear hx
      go_upto_region 999 with (first | (with_reducible exact H _ _ _ _ _ _ _ _ (by first | exact fun _ => rfl | exact fun h => by cases h)) | (go_at_call 65; (with_reducible refine (i5 _).mono ?_); rintro e w' ⟨rfl, rfl⟩))
      all_goals (go_ret; exact ⟨by simp [HE6.out, HE7.out, HE8.out, HE9.out, HE10.out], HB.out⟩)
    · obtain rfl := hx rfl
      cases b5
      · cases z5
        · have : e5 = false := by rw [HE5.out]; rfl
          subst this
          go_upto_region 999 with (first | (with_reducible exact H _ _ _ _ _ _ _ _ (by first | exact fun _ => rfl | exact fun h => by cases h)) | (go_at_call 65; (with_reducible refine (i5 _).mono ?_); rintro e w' ⟨rfl, rfl⟩))
          all_goals (go_ret; exact ⟨by simp [HE6.out, HE7.out, HE8.out, HE9.out, HE10.out], HB.out⟩)
        · have : e5 = true := by rw [HE5.out]; rfl
          subst this
          go_upto_region 999 with (first | (with_reducible exact H _ _ _ _ _ _ _ _ (by first | exact fun _ => rfl | exact fun h => by cases h)) | (go_at_call 65; (with_reducible refine (i5 _).mono ?_); rintro e w' ⟨rfl, rfl⟩))
          all_goals (go_ret; exact ⟨by simp [HE6.out, HE7.out, HE8.out, HE9.out, HE10.out], HB.out⟩)
      · have : e5 = true := by rw [HE5.out]; rfl
        subst this
        go_upto_region 999 with (first | (with_reducible exact H _ _ _ _ _ _ _ _ (by first | exact fun _ => rfl | exact fun h => by cases h)) | (go_at_call 65; (with_reducible refine (i5 _).mono ?_); rintro e w' ⟨rfl, rfl⟩))
        all_goals (go_ret; exact ⟨by simp [HE6.out, HE7.out, HE8.out, HE9.out, HE10.out], HB.out⟩)
  dsimp only
  simp only [List.drop_succ_cons, List.drop_zero]
  intro x55 x56 x57 x58 x59 x60 x61 x64 hx
  refine wp_merge 10 (fun K => ∀ x65 x66 x67 x68 x69 x70 x71 x74 : Value, (e6 = true → x74 = .string s) → K ⟨#[.agg (oc o), .pointer (some ⟨w.heap.size, 0, none⟩), .bool false, .string s, .pointer (some ⟨w1.heap.size, 0, none⟩), .pointer (some ⟨w.heap.size, 14, none⟩), .int .u8 (o.kd : Int), .string s, .agg #[.int .u8 0, .int .u32 0], x9, x10, x11, x12, x13, x14, x15, .bool e0, .bool e0, x18, x19, x20, x21, x22, x23, x24, .bool e1, .bool e1, x27, x28, x29, x30, x31, x32, x33, .bool e2, .bool e2, x36, x37, x38, x39, x40, x41, x42, .bool e3, .bool e3, x45, x46, x47, x48, x49, x50, x51, .bool e4, .bool e4, x54, x55, x56, x57, x58, x59, x60, x61, .bool e5, .bool e5, x64, x65, x66, x67, x68, x69, x70, x71, .bool e6, .bool e6, x74, undef, undef, undef, undef, undef, undef, undef, undef, undef, undef, undef, undef, undef, undef, undef, undef, undef, undef, undef, undef, undef, undef, undef, undef, undef, undef, undef, undef, undef, undef, undef, undef, undef, undef, undef], []⟩ w2) (fun H => ?_) ?_
  · dsimp only at H
    simp only [List.drop_succ_cons, List.drop_zero] at H
    have c23 := HP2.out.c23
    have c24 := HP2.out.c24
    have n0 := HN2.out.1
    have n1 := HN2.out.2
    have hq := fun W => eql_zero o.vr o.vn W
    rw [HZ6.out] at hq
    cases e5
    · have : e6 = false := by rw [HE6.out]; rfl
      subst this
      clear hx
      go_upto_region 999 with (first | (with_reducible exact H _ _ _ _ _ _ _ _ (by first | exact fun _ => rfl | exact fun h => by cases h)) | (go_at_call 65; (with_reducible refine (i6 _).mono ?_); rintro e w' ⟨rfl, rfl⟩))
      all_goals (go_ret; exact ⟨by simp [HE7.out, HE8.out, HE9.out, HE10.out], HB.out⟩)
    · obtain rfl := hx rfl
      cases b6
      · cases z6
        · have : e6 = false := by rw [HE6.out]; rfl
          subst this
          go_upto_region 999 with (first | (with_reducible exact H _ _ _ _ _ _ _ _ (by first | exact fun _ => rfl | exact fun h => by cases h)) | (go_at_call 65; (with_reducible refine (i6 _).mono ?_); rintro e w' ⟨rfl, rfl⟩))
          all_goals (go_ret; exact ⟨by simp [HE7.out, HE8.out, HE9.out, HE10.out], HB.out⟩)
        · have : e6 = true := by rw [HE6.out]; rfl
          subst this
          go_upto_region 999 with (first | (with_reducible exact H _ _ _ _ _ _ _ _ (by first | exact fun _ => rfl | exact fun h => by cases h)) | (go_at_call 65; (with_reducible refine (i6 _).mono ?_); rintro e w' ⟨rfl, rfl⟩))
          all_goals (go_ret; exact ⟨by simp [HE7.out, HE8.out, HE9.out, HE10.out], HB.out⟩)
      · have : e6 = true := by rw [HE6.out]; rfl
        subst this
        go_upto_region 999 with (first | (with_reducible exact H _ _ _ _ _ _ _ _ (by first | exact fun _ => rfl | exact fun h => by cases h)) | (go_at_call 65; (with_reducible refine (i6 _).mono ?_); rintro e w' ⟨rfl, rfl⟩))
        all_goals (go_ret; exact ⟨by simp [HE7.out, HE8.out, HE9.out, HE10.out], HB.out⟩)
  dsimp only
  simp only [List.drop_succ_cons, List.drop_zero]
  intro x65 x66 x67 x68 x69 x70 x71 x74 hx
  refine wp_merge 9 (fun K => ∀ x75 x76 x77 x78 x79 x80 x83 : Value, (e7 = true → x83 = .string s) → K ⟨#[.agg (oc o), .pointer (some ⟨w.heap.size, 0, none⟩), .bool false, .string s, .pointer (some ⟨w1.heap.size, 0, none⟩), .pointer (some ⟨w.heap.size, 14, none⟩), .int .u8 (o.kd : Int), .string s, .agg #[.int .u8 0, .int .u32 0], x9, x10, x11, x12, x13, x14, x15, .bool e0, .bool e0, x18, x19, x20, x21, x22, x23, x24, .bool e1, .bool e1, x27, x28, x29, x30, x31, x32, x33, .bool e2, .bool e2, x36, x37, x38, x39, x40, x41, x42, .bool e3, .bool e3, x45, x46, x47, x48, x49, x50, x51, .bool e4, .bool e4, x54, x55, x56, x57, x58, x59, x60, x61, .bool e5, .bool e5, x64, x65, x66, x67, x68, x69, x70, x71, .bool e6, .bool e6, x74, x75, x76, x77, x78, x79, x80, .bool e7, .bool e7, x83, undef, undef, undef, undef, undef, undef, undef, undef, undef, undef, undef, undef, undef, undef, undef, undef, undef, undef, undef, undef, undef, undef, undef, undef, undef, undef], []⟩ w2) (fun H => ?_) ?_
  · dsimp only at H
    simp only [List.drop_succ_cons, List.drop_zero] at H
    have c25 := HP2.out.c25
    cases e6
    · have : e7 = false := by rw [HE7.out]; rfl
      subst this
      clear hx
      go_upto_region 999 with (first | (with_reducible exact H _ _ _ _ _ _ _ (by first | exact fun _ => rfl | exact fun h => by cases h)) | (go_at_call 65; (with_reducible refine (i7 _).mono ?_); rintro e w' ⟨rfl, rfl⟩))
      all_goals (go_ret; exact ⟨by simp [HE8.out, HE9.out, HE10.out], HB.out⟩)
    · obtain rfl := hx rfl
      cases b7
      · cases z7
        · have hz := HZ7.out; have : e7 = false := by rw [HE7.out]; rfl
          subst this
          go_upto_region 999 with (first | (with_reducible exact H _ _ _ _ _ _ _ (by first | exact fun _ => rfl | exact fun h => by cases h)) | (go_at_call 65; (with_reducible refine (i7 _).mono ?_); rintro e w' ⟨rfl, rfl⟩))
          all_goals (go_ret; exact ⟨by simp [HE8.out, HE9.out, HE10.out], HB.out⟩)
        · have hz := HZ7.out; have : e7 = true := by rw [HE7.out]; rfl
          subst this
          go_upto_region 999 with (first | (with_reducible exact H _ _ _ _ _ _ _ (by first | exact fun _ => rfl | exact fun h => by cases h)) | (go_at_call 65; (with_reducible refine (i7 _).mono ?_); rintro e w' ⟨rfl, rfl⟩))
          all_goals (go_ret; exact ⟨by simp [HE8.out, HE9.out, HE10.out], HB.out⟩)
      · have : e7 = true := by rw [HE7.out]; rfl
        subst this
        go_upto_region 999 with (first | (with_reducible exact H _ _ _ _ _ _ _ (by first | exact fun _ => rfl | exact fun h => by cases h)) | (go_at_call 65; (with_reducible refine (i7 _).mono ?_); rintro e w' ⟨rfl, rfl⟩))
        all_goals (go_ret; exact ⟨by simp [HE8.out, HE9.out, HE10.out], HB.out⟩)
  dsimp only
  simp only [List.drop_succ_cons, List.drop_zero]
  intro x75 x76 x77 x78 x79 x80 x83 hx
  refine wp_merge 9 (fun K => ∀ x84 x85 x86 x87 x88 x89 x92 : Value, (e8 = true → x92 = .string s) → K ⟨#[.agg (oc o), .pointer (some ⟨w.heap.size, 0, none⟩), .bool false, .string s, .pointer (some ⟨w1.heap.size, 0, none⟩), .pointer (some ⟨w.heap.size, 14, none⟩), .int .u8 (o.kd : Int), .string s, .agg #[.int .u8 0, .int .u32 0], x9, x10, x11, x12, x13, x14, x15, .bool e0, .bool e0, x18, x19, x20, x21, x22, x23, x24, .bool e1, .bool e1, x27, x28, x29, x30, x31, x32, x33, .bool e2, .bool e2, x36, x37, x38, x39, x40, x41, x42, .bool e3, .bool e3, x45, x46, x47, x48, x49, x50, x51, .bool e4, .bool e4, x54, x55, x56, x57, x58, x59, x60, x61, .bool e5, .bool e5, x64, x65, x66, x67, x68, x69, x70, x71, .bool e6, .bool e6, x74, x75, x76, x77, x78, x79, x80, .bool e7, .bool e7, x83, x84, x85, x86, x87, x88, x89, .bool e8, .bool e8, x92, undef, undef, undef, undef, undef, undef, undef, undef, undef, undef, undef, undef, undef, undef, undef, undef, undef], []⟩ w2) (fun H => ?_) ?_
  · dsimp only at H
    simp only [List.drop_succ_cons, List.drop_zero] at H
    have c26 := HP2.out.c26
    cases e7
    · have : e8 = false := by rw [HE8.out]; rfl
      subst this
      clear hx
      go_upto_region 999 with (first | (with_reducible exact H _ _ _ _ _ _ _ (by first | exact fun _ => rfl | exact fun h => by cases h)) | (go_at_call 65; (with_reducible refine (i8 _).mono ?_); rintro e w' ⟨rfl, rfl⟩))
      all_goals (go_ret; exact ⟨by simp [HE9.out, HE10.out], HB.out⟩)
    · obtain rfl := hx rfl
      cases b8
      · cases z8
        · have hz := HZ8.out; have : e8 = false := by rw [HE8.out]; rfl
          subst this
          go_upto_region 999 with (first | (with_reducible exact H _ _ _ _ _ _ _ (by first | exact fun _ => rfl | exact fun h => by cases h)) | (go_at_call 65; (with_reducible refine (i8 _).mono ?_); rintro e w' ⟨rfl, rfl⟩))
          all_goals (go_ret; exact ⟨by simp [HE9.out, HE10.out], HB.out⟩)
        · have hz := HZ8.out; have : e8 = true := by rw [HE8.out]; rfl
          subst this
          go_upto_region 999 with (first | (with_reducible exact H _ _ _ _ _ _ _ (by first | exact fun _ => rfl | exact fun h => by cases h)) | (go_at_call 65; (with_reducible refine (i8 _).mono ?_); rintro e w' ⟨rfl, rfl⟩))
          all_goals (go_ret; exact ⟨by simp [HE9.out, HE10.out], HB.out⟩)
      · have : e8 = true := by rw [HE8.out]; rfl
        subst this
        go_upto_region 999 with (first | (with_reducible exact H _ _ _ _ _ _ _ (by first | exact fun _ => rfl | exact fun h => by cases h)) | (go_at_call 65; (with_reducible refine (i8 _).mono ?_); rintro e w' ⟨rfl, rfl⟩))
        all_goals (go_ret; exact ⟨by simp [HE9.out, HE10.out], HB.out⟩)
  dsimp only
  simp only [List.drop_succ_cons, List.drop_zero]
  intro x84 x85 x86 x87 x88 x89 x92 hx
  refine wp_merge 9 (fun K => ∀ x93 x94 x95 x96 x97 x98 x101 : Value, (e9 = true → x101 = .string s) → K ⟨#[.agg (oc o), .pointer (some ⟨w.heap.size, 0, none⟩), .bool false, .string s, .pointer (some ⟨w1.heap.size, 0, none⟩), .pointer (some ⟨w.heap.size, 14, none⟩), .int .u8 (o.kd : Int), .string s, .agg #[.int .u8 0, .int .u32 0], x9, x10, x11, x12, x13, x14, x15, .bool e0, .bool e0, x18, x19, x20, x21, x22, x23, x24, .bool e1, .bool e1, x27, x28, x29, x30, x31, x32, x33, .bool e2, .bool e2, x36, x37, x38, x39, x40, x41, x42, .bool e3, .bool e3, x45, x46, x47, x48, x49, x50, x51, .bool e4, .bool e4, x54, x55, x56, x57, x58, x59, x60, x61, .bool e5, .bool e5, x64, x65, x66, x67, x68, x69, x70, x71, .bool e6, .bool e6, x74, x75, x76, x77, x78, x79, x80, .bool e7, .bool e7, x83, x84, x85, x86, x87, x88, x89, .bool e8, .bool e8, x92, x93, x94, x95, x96, x97, x98, .bool e9, .bool e9, x101, undef, undef, undef, undef, undef, undef, undef, undef], []⟩ w2) (fun H => ?_) ?_
  · dsimp only at H
    simp only [List.drop_succ_cons, List.drop_zero] at H
    have c27 := HP2.out.c27
    cases e8
    · have : e9 = false := by rw [HE9.out]; rfl
      subst this
      clear hx
      go_upto_region 999 with (first | (with_reducible exact H _ _ _ _ _ _ _ (by first | exact fun _ => rfl | exact fun h => by cases h)) | (go_at_call 65; (with_reducible refine (i9 _).mono ?_); rintro e w' ⟨rfl, rfl⟩))
      all_goals (go_ret; exact ⟨by simp [HE10.out], HB.out⟩)
    · obtain rfl := hx rfl
      cases b9
      · cases z9
        · have hz := HZ9.out; have : e9 = false := by rw [HE9.out]; rfl
          subst this
          go_upto_region 999 with (first | (with_reducible exact H _ _ _ _ _ _ _ (by first | exact fun _ => rfl | exact fun h => by cases h)) | (go_at_call 65; (with_reducible refine (i9 _).mono ?_); rintro e w' ⟨rfl, rfl⟩))
          all_goals (go_ret; exact ⟨by simp [HE10.out], HB.out⟩)
        · have hz := HZ9.out; have : e9 = true := by rw [HE9.out]; rfl
          subst this
          go_upto_region 999 with (first | (with_reducible exact H _ _ _ _ _ _ _ (by first | exact fun _ => rfl | exact fun h => by cases h)) | (go_at_call 65; (with_reducible refine (i9 _).mono ?_); rintro e w' ⟨rfl, rfl⟩))
          all_goals (go_ret; exact ⟨by simp [HE10.out], HB.out⟩)
      · have : e9 = true := by rw [HE9.out]; rfl
        subst this
        go_upto_region 999 with (first | (with_reducible exact H _ _ _ _ _ _ _ (by first | exact fun _ => rfl | exact fun h => by cases h)) | (go_at_call 65; (with_reducible refine (i9 _).mono ?_); rintro e w' ⟨rfl, rfl⟩))
        all_goals (go_ret; exact ⟨by simp [HE10.out], HB.out⟩)
  dsimp only
  simp only [List.drop_succ_cons, List.drop_zero]
  intro x93 x94 x95 x96 x97 x98 x101 hx
  · skip
    have c28 := HP2.out.c28.trans (congrArg some HLV.out)
    cases e9
    · have : e10 = false := by rw [HE10.out]; rfl
      subst this
      clear hx
      go_wp2_with (go_at_call 65; (with_reducible refine (i10 _).mono ?_); rintro e w' ⟨rfl, rfl⟩)
      go_ret
      exact ⟨by simp [], HB.out⟩
    · obtain rfl := hx rfl
      cases b10
      · cases z10
        · have hz := HZ10.out; have : e10 = false := by rw [HE10.out]; rfl
          subst this
          go_wp2_with (go_at_call 65; (with_reducible refine (i10 _).mono ?_); rintro e w' ⟨rfl, rfl⟩)
          go_ret
          exact ⟨by simp [], HB.out⟩
        · have hz := HZ10.out; have : e10 = true := by rw [HE10.out]; rfl
          subst this
          go_wp2_with (go_at_call 65; (with_reducible refine (i10 _).mono ?_); rintro e w' ⟨rfl, rfl⟩)
          go_ret
          exact ⟨by simp [], HB.out⟩
      · have : e10 = true := by rw [HE10.out]; rfl
        subst this
        go_wp2_with (go_at_call 65; (with_reducible refine (i10 _).mono ?_); rintro e w' ⟨rfl, rfl⟩)
        go_ret
        exact ⟨by simp [], HB.out⟩

end Go.Proofs.YtagdapmnghnphaaDoor.V

namespace Go.Proofs.YtagdapmnghnphaaDoor.V
set_option linter.unusedVariables false
set_option linter.unusedSimpArgs false
set_option maxRecDepth 100000
open Go Go.RowKit Go.Maps

set_option maxRecDepth 100000
set_option linter.unusedVariables false
set_option linter.unusedSimpArgs false
theorem notin_take {l : List Claim} {k : Nat} {d : Dot} (h : ∀ m, m < k → ∀ y, l[m]? = some y → y.1 ≠ d) : d ∉ (l.take k).map Prod.fst := by
  intro hm
  obtain ⟨y, hy, rfl⟩ := List.mem_map.1 hm
  obtain ⟨m, hm'⟩ := List.mem_iff_getElem?.1 hy
  rw [List.getElem?_take] at hm'
  split at hm'
  · exact h m (by assumption) y hm' rfl
  · cases hm'
theorem mem_take {l : List Claim} {m k : Nat} {y : Claim} (hm : m < k) (hy : l[m]? = some y) : y.1 ∈ (l.take k).map Prod.fst :=
  List.mem_map.2 ⟨y, List.mem_of_getElem? (by rw [List.getElem?_take, if_pos hm]; exact hy), rfl⟩

set_option maxHeartbeats 2000000 in
theorem ref_lines (o : OpM) (l : List Claim) (w : World) (hv : ClaimsV w o.lv l) :
    Calls Tryd.prog 66 #[.agg (oc o)] w
      fun e w' => e = .returned (.bool (okLB o.dep l)) ∧ Below w.heap.size w w' := by
  obtain ⟨ad, len, cap, hlv, hI⟩ := hv
  have hlen := hI.1
  have HE := hid (below_al w (.cells (oc o) 34))
  have g28 : (oc o)[28]? = some (.slice ad len cap) := by rw [← hlv]; rfl
  have HLV := hid hlv
  by_cases hl1 : 1 ≤ len
  · have t1 : decide ((len : Int) < 1) = false := decide_eq_false (by omega)
    by_cases hl16 : len ≤ 16
    · have t2 : decide (16 < (len : Int)) = false := decide_eq_false (by omega)
      have HI := hid hI
      have HL := hid (And.intro hlen (And.intro hl1 hl16))
      clear hI hlv hlen hl1
      go_enter Tryd.func66, Tryd.ntmps66
      go_wp2
      go_loopw [3] (fun i wr => ∃ k : Nat, k ≤ len ∧ i = .int .i64 k ∧ OkTo o.dep l k ∧ OpAt wr w.heap.size o ∧ Below w.heap.size w wr) (fun i _ => len - (intOf i).toNat)
      case atStart => exact ⟨0, by omega, rfl, OkTo.zero _ _, opAt_new w o, HE.out⟩
      case round =>
        obtain ⟨k, hk, rfl, hto, hop, hBr⟩ := hrel
        obtain ⟨W0, rfl⟩ : ∃ W, W = wr := ⟨_, rfl⟩
        have c28 := hop.c28.trans (congrArg some HLV.out)
        by_cases hlt : k < len
        · cases ad with
          | none => have := HI.out.none_len; omega
          | some ad =>
            obtain ⟨x, B, O, sp, hx, hxo, hA, c0, c1, c2, c3⟩ := (HI.out.keep hBr).at k hlt
            have HX := hid (And.intro hx (And.intro hto (And.intro c0 (And.intro c1 (And.intro c2 c3)))))
            have HOP := hid (And.intro hop hBr)
            clear hx hto c0 c1 c2 c3 hxo hop hBr g28
            go_wp2
            refine wp_region_later_n (by kernel_rfl) (by kernel_rfl) ?_
            intro wd hwd
            have hw1 : Below W0.heap.size W0 wd := by rw [hwd]; first | exact Below.refl _ _ | exact below_dr _
            clear hwd c28
            have HW := hid hw1
            have hO : OpAt wd w.heap.size o := HOP.out.1.keep hw1
            have fl : ∀ w', (∃ p : Later wd.heap.size wd, w' = p.val) → OpAt w' w.heap.size o := by rintro _ ⟨p, rfl⟩; exact hO.keep p.ok
            have FL := hid fl
            have HO := hid hO
            have f28 := fun p : Later wd.heap.size wd => (HO.out.keep p.ok).c28.trans (congrArg some HLV.out)
            have d0 := fun p : Later wd.heap.size wd => cell_keep (hw1.trans (p.ok.mono hw1.size)) HX.out.2.2.1
            have d1 := fun p : Later wd.heap.size wd => cell_keep (hw1.trans (p.ok.mono hw1.size)) HX.out.2.2.2.1
            have d2 := fun p : Later wd.heap.size wd => cell_keep (hw1.trans (p.ok.mono hw1.size)) HX.out.2.2.2.2.1
            have d3 := fun p : Later wd.heap.size wd => cell_keep (hw1.trans (p.ok.mono hw1.size)) HX.out.2.2.2.2.2
            clear fl hO hw1
            have k1 := fun W => ref_Covers o x.1 W
            have k2 := fun W => ref_Covers o x.2 W
            cases hc1 : covB o.dep x.1
            · rw [hc1] at k1
              have HC1 := hid hc1
              clear hc1 k2
              repeat (first | (go_big_quiet_want; refine quiet_ld _ rfl w.heap.size rfl o FL.out ?_; simp only [Act.put, List.setIfInBounds_toArray, List.set_cons_zero, List.set_cons_succ]; go_big_quiet_on) | go_big_quiet_step (first | (go_at_call 64; with_reducible exact Calls.later_of (Nat.le_refl _) (k1 _)) | (go_at_call 64; with_reducible exact Calls.later_of (Nat.le_refl _) (k2 _))))
              refine wpQuiet_nil ?_
              rintro _ ⟨p, rfl⟩
              have HP := hid p.ok
              generalize p.val = w2 at HP
              clear f28 d0 d1 d2 d3
              go_wp2
              go_ret
              exact ⟨by rw [okLB_false (not_okL_cov HX.out.1 (.inl HC1.out))]; rfl, HOP.out.2.trans ((HW.out.trans (HP.out.mono HW.out.size)).mono HOP.out.2.size)⟩
            · rw [hc1] at k1
              have HC1 := hid hc1
              clear hc1
              cases hc2 : covB o.dep x.2
              · rw [hc2] at k2
                have HC2 := hid hc2
                clear hc2
                repeat (first | (go_big_quiet_want; refine quiet_ld _ rfl w.heap.size rfl o FL.out ?_; simp only [Act.put, List.setIfInBounds_toArray, List.set_cons_zero, List.set_cons_succ]; go_big_quiet_on) | go_big_quiet_step (first | (go_at_call 64; with_reducible exact Calls.later_of (Nat.le_refl _) (k1 _)) | (go_at_call 64; with_reducible exact Calls.later_of (Nat.le_refl _) (k2 _))))
                refine wpQuiet_nil ?_
                rintro _ ⟨p, rfl⟩
                have HP := hid p.ok
                generalize p.val = w2 at HP
                clear f28 d0 d1 d2 d3
                go_wp2
                go_ret
                exact ⟨by rw [okLB_false (not_okL_cov HX.out.1 (.inr HC2.out))]; rfl, HOP.out.2.trans ((HW.out.trans (HP.out.mono HW.out.size)).mono HOP.out.2.size)⟩
              · rw [hc2] at k2
                have HC2 := hid hc2
                clear hc2
                repeat (first | (go_big_quiet_want; refine quiet_ld _ rfl w.heap.size rfl o FL.out ?_; simp only [Act.put, List.setIfInBounds_toArray, List.set_cons_zero, List.set_cons_succ]; go_big_quiet_on) | go_big_quiet_step (first | (go_at_call 64; with_reducible exact Calls.later_of (Nat.le_refl _) (k1 _)) | (go_at_call 64; with_reducible exact Calls.later_of (Nat.le_refl _) (k2 _))))
                refine wpQuiet_nil ?_
                rintro _ ⟨p, rfl⟩
                have HP := hid p.ok
                generalize p.val = w2 at HP
                clear f28 d0 d1 d2 d3
                have HB2 := hid (HW.out.trans (HP.out.mono HW.out.size))
                clear HP HW HO FL k1 k2
                go_wp2
                go_loopw [4] (fun j wi => ∃ m : Nat, m ≤ k ∧ j = .int .i64 m ∧ Below W0.heap.size W0 wi ∧ ∀ m', m' < m → ∀ y, l[m']? = some y → y.1 ≠ x.1) (fun j _ => k - (intOf j).toNat)
                case atStart => exact ⟨0, by omega, rfl, HB2.out, fun m' hm' => absurd hm' (by omega)⟩
                case round =>
                  obtain ⟨m, hm, rfl, hBi, hall⟩ := hrel
                  obtain ⟨W1, rfl⟩ : ∃ W, W = wr := ⟨_, rfl⟩
                  have c28 := (HOP.out.1.keep hBi).c28.trans (congrArg some HLV.out)
                  by_cases hlm : m < k
                  · obtain ⟨y, B2, O2, sp2, hy, hyo, hA2, y0, y1, y2, y3⟩ := ((HI.out.keep HOP.out.2).keep hBi).at m (by omega)
                    have HY := hid (And.intro hy (And.intro hBi (And.intro hall (And.intro y0 y1))))
                    clear hy hBi hall y0 y1 y2 y3 hyo
                    go_wp2
                    refine wp_region_later_n (by kernel_rfl) (by kernel_rfl) ?_
                    intro wd hwd
                    have hw1 : Below W1.heap.size W1 wd := by rw [hwd]; first | exact Below.refl _ _ | exact below_dr _
                    clear hwd c28
                    have HW := hid hw1
                    have f28 := fun p : Later wd.heap.size wd => ((HOP.out.1.keep HY.out.2.1).keep (HW.out.trans (p.ok.mono HW.out.size))).c28.trans (congrArg some HLV.out)
                    have d0 := fun p : Later wd.heap.size wd => cell_keep (HY.out.2.1.trans ((HW.out.trans (p.ok.mono HW.out.size)).mono HY.out.2.1.size)) HX.out.2.2.1
                    have d1 := fun p : Later wd.heap.size wd => cell_keep (HY.out.2.1.trans ((HW.out.trans (p.ok.mono HW.out.size)).mono HY.out.2.1.size)) HX.out.2.2.2.1
                    have d2 := fun p : Later wd.heap.size wd => cell_keep (HW.out.trans (p.ok.mono HW.out.size)) HY.out.2.2.2.1
                    have d3 := fun p : Later wd.heap.size wd => cell_keep (HW.out.trans (p.ok.mono HW.out.size)) HY.out.2.2.2.2
                    clear hw1
                    have hq := fun W => run_eql y.1.1 y.1.2 x.1.1 x.1.2 W
                    cases he : eqB (y.1.1, y.1.2) (x.1.1, x.1.2)
                    · rw [he] at hq
                      have HE2 := hid he
                      clear he
                      repeat (go_big_quiet_step (fail))
                      refine wpQuiet_nil ?_
                      rintro _ ⟨p, rfl⟩
                      have HP := hid p.ok
                      generalize p.val = w2 at HP
                      clear f28 d0 d1 d2 d3
                      clear hq
                      have HB3 := hid (HY.out.2.1.trans ((HW.out.trans (HP.out.mono HW.out.size)).mono HY.out.2.1.size))
                      clear HP HW
                      go_wp2
                      go_roundw
                      case rel =>
                        refine ⟨m + 1, by omega, by go_num, HB3.out, fun m' hm' z hz => ?_⟩
                        by_cases hmm : m' = m
                        · subst hmm
                          obtain rfl : z = y := Option.some.inj (hz.symm.trans HY.out.1)
                          intro e
                          have := HE2.out
                          rw [eqB_true (show ((z.1.1, z.1.2) : Dot) = (x.1.1, x.1.2) from e)] at this
                          cases this
                        · exact HY.out.2.2.1 m' (by omega) z hz
                      case measure => simp [intOf]; omega
                    · rw [he] at hq
                      have HE2 := hid he
                      clear he
                      repeat (go_big_quiet_step (fail))
                      refine wpQuiet_nil ?_
                      rintro _ ⟨p, rfl⟩
                      have HP := hid p.ok
                      generalize p.val = w2 at HP
                      clear f28 d0 d1 d2 d3
                      clear hq
                      have HB3 := hid (HY.out.2.1.trans ((HW.out.trans (HP.out.mono HW.out.size)).mono HY.out.2.1.size))
                      clear HP HW
                      go_wp2
                      go_ret
                      refine ⟨?_, below_next HOP.out.2 HB3.out⟩
                      have e : y.1 = x.1 := of_decide_eq_true HE2.out
                      rw [okLB_false (not_okL_dup HX.out.1 (e ▸ mem_take hlm HY.out.1))]; rfl
                  · obtain rfl : m = k := by omega
                    have HY := hid (And.intro hBi hall)
                    clear hBi hall
                    go_wp2
                    go_roundw
                    case rel => exact ⟨m + 1, by omega, by go_num, HX.out.2.1.succ HX.out.1 HC1.out HC2.out (notin_take HY.out.2), HOP.out.1.keep HY.out.1, below_next HOP.out.2 HY.out.1⟩
                    case measure => simp [intOf]; omega
        · obtain rfl : k = len := by omega
          have HT := hid (And.intro hto hBr)
          clear hto hop hBr
          go_wp2
          go_ret
          exact ⟨by rw [okLB_true (okL_of (by rw [HL.out.1]; omega) (by rw [HL.out.1]; exact HL.out.2.1) (by rw [HL.out.1]; exact HL.out.2.2) HT.out.1)]; rfl, HT.out.2⟩
    · rw [okLB_false (fun hk => hl16 (by rw [← hlen]; exact hk.2.1))]
      have t2 : decide (16 < (len : Int)) = true := decide_eq_true (by omega)
      have HI := hid hI
      clear hI hlv hlen hl16 hl1
      go_enter Tryd.func66, Tryd.ntmps66
      go_wp2
      go_ret
      exact ⟨rfl, HE.out⟩
  · rw [okLB_false (fun hk => hl1 (by rw [← hlen]; exact hk.1))]
    have t1 : decide ((len : Int) < 1) = true := decide_eq_true (by omega)
    have HI := hid hI
    clear hI hlv hlen hl1
    go_enter Tryd.func66, Tryd.ntmps66
    go_wp2
    go_ret
    exact ⟨rfl, HE.out⟩

end Go.Proofs.YtagdapmnghnphaaDoor.V
