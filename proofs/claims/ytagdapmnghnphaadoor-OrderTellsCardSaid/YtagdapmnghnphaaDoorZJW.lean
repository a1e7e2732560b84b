/-
  Plain mathematics of package wire: numbers as bytes to the base 256, and how they are read back.
-/
import Derived.Test.YtagdapmnghnphaaDoorZLater
import Derived.Test.YtagdapmnghnphaaDoorProg
import Derived.WalkKit
import Derived.LoopTactic
import Derived.WalkMore
import Derived.ScopeJumps
import Derived.Deep.WholeRow
import Derived.Outline
import Derived.Lib.AppendStr
import Derived.Maps.AppendAt
import Derived.Lib.UnsafeStr
import Derived.RegionTactic
import Derived.StillTailTactics
import Derived.Deep.AppendLies
import Derived.Deep.RegionLaw
import Derived.Lib.BufferWrite
import Derived.Lib.Walk
import Derived.Lib.Hide
import Derived.Laws.MakeOwn
import Derived.Lib.SlBytesRow
import Derived.Lib.Strings
import Derived.Deep.RegionWith
namespace Go.Proofs.YtagdapmnghnphaaDoor
open Go Go.RowKit
set_option maxRecDepth 100000
set_option linter.unusedVariables false
set_option linter.unusedSimpArgs false
set_option maxRecDepth 100000
set_option linter.unusedVariables false
set_option linter.unusedSimpArgs false
namespace Wire

/-- A number's bytes, the highest first, none ahead that is 0. -/
def dig (n : Nat) : List UInt8 := if n = 0 then [] else dig (n / 256) ++ [UInt8.ofNat (n % 256)]
termination_by n
decreasing_by omega

def big (l : List UInt8) : Nat := l.foldl (fun a b => 256 * a + b.toNat) 0

def enc (n : Nat) : List UInt8 := if n < 128 then [UInt8.ofNat n] else UInt8.ofNat (128 + (dig n).length) :: dig n

theorem dig_zero : dig 0 = [] := by rw [dig]; simp
theorem dig_pos {n : Nat} (h : n ≠ 0) : dig n = dig (n / 256) ++ [UInt8.ofNat (n % 256)] := by rw [dig]; simp [h]

theorem u8_ofNat {n : Nat} (h : n < 256) : (UInt8.ofNat n).toNat = n := by rw [UInt8.toNat_ofNat']; omega
theorem u8_lt (b : UInt8) : b.toNat < 256 := b.toNat_lt

theorem rev_ind {P : List UInt8 → Prop} (h0 : P []) (h1 : ∀ l b, P l → P (l ++ [b])) (l : List UInt8) : P l := by
  rw [← List.reverse_reverse l]
  induction l.reverse with
  | nil => exact h0
  | cons b r ih => rw [List.reverse_cons]; exact h1 _ b ih

theorem big_nil : big [] = 0 := rfl
theorem big_snoc (l : List UInt8) (b : UInt8) : big (l ++ [b]) = 256 * big l + b.toNat := by simp [big]

theorem big_dig (n : Nat) : big (dig n) = n := by
  induction n using Nat.strongRecOn with
  | ind n ih =>
    by_cases h : n = 0
    · subst h; rw [dig_zero]; rfl
    · rw [dig_pos h, big_snoc, ih (n / 256) (by omega), u8_ofNat (by omega)]; omega

theorem big_lt (l : List UInt8) : big l < 256 ^ l.length := by
  refine rev_ind (P := fun l => big l < 256 ^ l.length) ?_ ?_ l
  · simp [big]
  · intro l b ih
    rw [big_snoc, List.length_append, List.length_singleton, Nat.pow_succ]
    have := u8_lt b; omega

theorem dig_len_le (k : Nat) : ∀ n, n < 256 ^ k → (dig n).length ≤ k := by
  induction k with
  | zero => intro n h; have : n = 0 := by simpa using h
            subst this; rw [dig_zero]; simp
  | succ k ih =>
    intro n h
    by_cases h0 : n = 0
    · subst h0; rw [dig_zero]; simp
    · rw [dig_pos h0, List.length_append, List.length_singleton]
      have := ih (n / 256) (by rw [Nat.pow_succ] at h; omega)
      omega
theorem lt_of_dig_len (n : Nat) : n < 256 ^ (dig n).length := by
  have := big_lt (dig n); rwa [big_dig] at this
theorem dig_len_mono {n m : Nat} (h : n ≤ m) : (dig n).length ≤ (dig m).length :=
  dig_len_le _ _ (Nat.lt_of_le_of_lt h (lt_of_dig_len m))
theorem dig_len8 {n : Nat} (h : n < 18446744073709551616) : (dig n).length ≤ 8 := dig_len_le 8 n (by simpa using h)
theorem dig_len_pos {n : Nat} (h : n ≠ 0) : 1 ≤ (dig n).length := by rw [dig_pos h]; simp
theorem lt_of_len8 {n : Nat} (h : (dig n).length ≤ 8) : n < 18446744073709551616 :=
  Nat.lt_of_lt_of_le (lt_of_dig_len n) (by
    have := Nat.pow_le_pow_right (show 0 < 256 by omega) h
    simpa using this)

/-- The reading back of exactly as many bytes as are needed. -/
theorem dig_big (l : List UInt8) : (dig (big l)).length = l.length → dig (big l) = l := by
  refine rev_ind (P := fun l => (dig (big l)).length = l.length → dig (big l) = l) ?_ ?_ l
  · intro _; rw [big_nil, dig_zero]
  · intro l b ih h
    rw [big_snoc] at h ⊢
    have hb := u8_lt b
    have hd : (256 * big l + b.toNat) / 256 = big l := by omega
    have hm : (256 * big l + b.toNat) % 256 = b.toNat := by omega
    have hne : 256 * big l + b.toNat ≠ 0 := by
      intro h0
      rw [h0, dig_zero] at h; simp at h
    rw [dig_pos hne, hd, hm] at h ⊢
    have hl : (dig (big l)).length = l.length := by simpa using h
    rw [ih hl]
    congr 2
    exact UInt8.toNat_inj.1 (u8_ofNat hb)

theorem enc_small {n : Nat} (h : n < 128) : enc n = [UInt8.ofNat n] := by simp [enc, h]
theorem enc_great {n : Nat} (h : ¬ n < 128) : enc n = UInt8.ofNat (128 + (dig n).length) :: dig n := by simp [enc, h]
theorem enc_len {n : Nat} (h : n < 18446744073709551616) : (enc n).length ≤ 9 := by
  have := dig_len8 h
  unfold enc; split <;> simp; omega
theorem enc_ne (n : Nat) : 1 ≤ (enc n).length := by unfold enc; split <;> simp

theorem dig_at (n : Nat) : ∀ j, j < (dig n).length → (dig n)[j]? = some (UInt8.ofNat (n / 256 ^ ((dig n).length - 1 - j) % 256)) := by
  induction n using Nat.strongRecOn with
  | ind n ih =>
    intro j hj
    by_cases h : n = 0
    · subst h; rw [dig_zero] at hj; simp at hj
    · rw [dig_pos h] at hj ⊢
      rw [List.length_append, List.length_singleton] at hj ⊢
      by_cases hl : j < (dig (n / 256)).length
      · rw [List.getElem?_append_left hl, ih (n / 256) (by omega) j hl, Nat.div_div_eq_div_mul, ← Nat.pow_succ']
        rw [show ((dig (n / 256)).length - 1 - j).succ = (dig (n / 256)).length + 1 - 1 - j by omega]
      · have : j = (dig (n / 256)).length := by omega
        subst this
        rw [List.getElem?_append_right (Nat.le_refl _)]
        simp

/-- The number that stands first, and what is behind it. -/
def parse : List UInt8 → Option (Nat × List UInt8)
  | [] => none
  | b :: r =>
    if b.toNat < 128 then some (b.toNat, r)
    else if b.toNat - 128 ≤ r.length ∧ 128 ≤ big (r.take (b.toNat - 128)) ∧ (dig (big (r.take (b.toNat - 128)))).length = b.toNat - 128 ∧ b.toNat - 128 ≤ 8 then some (big (r.take (b.toNat - 128)), r.drop (b.toNat - 128))
    else none

theorem parse_cons (b : UInt8) (r : List UInt8) : parse (b :: r) = if b.toNat < 128 then some (b.toNat, r)
    else if b.toNat - 128 ≤ r.length ∧ 128 ≤ big (r.take (b.toNat - 128)) ∧ (dig (big (r.take (b.toNat - 128)))).length = b.toNat - 128 ∧ b.toNat - 128 ≤ 8 then some (big (r.take (b.toNat - 128)), r.drop (b.toNat - 128))
    else none := rfl
theorem parse_enc {n : Nat} (h : n < 18446744073709551616) (r : List UInt8) : parse (enc n ++ r) = some (n, r) := by
  by_cases h1 : n < 128
  · rw [enc_small h1, List.singleton_append]
    rw [parse_cons, u8_ofNat (by omega), if_pos h1]
  · have h8 := dig_len8 h
    have hb : (UInt8.ofNat (128 + (dig n).length)).toNat = 128 + (dig n).length := u8_ofNat (by omega)
    rw [enc_great h1, List.cons_append]
    rw [parse_cons, hb, if_neg (by omega), show 128 + (dig n).length - 128 = (dig n).length by omega, List.take_left, List.drop_left, big_dig, if_pos ⟨by simp, by omega, rfl, h8⟩]

theorem parse_some {l : List UInt8} {n : Nat} {r : List UInt8} (h : parse l = some (n, r)) : l = enc n ++ r ∧ n < 18446744073709551616 := by
  cases l with
  | nil => cases h
  | cons b s =>
    rw [parse_cons] at h
    by_cases h1 : b.toNat < 128
    · rw [if_pos h1] at h
      obtain ⟨e1, e2⟩ := Prod.mk.inj (Option.some.inj h)
      subst e1 e2
      refine ⟨?_, by omega⟩
      rw [enc_small h1, UInt8.ofNat_toNat]; rfl
    · rw [if_neg h1] at h
      split at h
      · rename_i hc
        obtain ⟨c1, c2, c3, c4⟩ := hc
        obtain ⟨e1, e2⟩ := Prod.mk.inj (Option.some.inj h)
        subst e1 e2
        have ht : (s.take (b.toNat - 128)).length = b.toNat - 128 := by simp; omega
        have hd := dig_big _ (c3.trans ht.symm)
        refine ⟨?_, lt_of_len8 (by rw [c3]; exact c4)⟩
        rw [enc_great (by omega), c3, show 128 + (b.toNat - 128) = b.toNat by omega, UInt8.ofNat_toNat, hd, List.cons_append, List.take_append_drop]
      · cases h

theorem parse_iff {l : List UInt8} {n : Nat} {r : List UInt8} (h : n < 18446744073709551616) : parse l = some (n, r) ↔ l = enc n ++ r :=
  ⟨fun e => (parse_some e).1, fun e => by rw [e]; exact parse_enc h r⟩

/-- No number's bytes stand at the beginning of another one's. -/
theorem enc_prefix {n m : Nat} (hn : n < 18446744073709551616) (hm : m < 18446744073709551616) {r : List UInt8} (h : enc m = enc n ++ r) : n = m := by
  have h1 := parse_enc hn r
  have h2 := parse_enc hm []
  rw [List.append_nil, h, h1] at h2
  exact (Prod.mk.inj (Option.some.inj h2)).1
theorem enc_inj {n m : Nat} (hn : n < 18446744073709551616) (hm : m < 18446744073709551616) (h : enc n = enc m) : n = m :=
  enc_prefix (r := []) hn hm (by rw [List.append_nil, h])
theorem enc_mono {n m : Nat} (h : n ≤ m) : (enc n).length ≤ (enc m).length := by
  by_cases h1 : n < 128
  · rw [enc_small h1]; exact enc_ne m
  · rw [enc_great h1, enc_great (by omega)]
    have := dig_len_mono h
    simpa using this

/-! ### What is read -/
abbrev St := Option (List UInt8)
def takeNum (st : St) (most : Nat) : Nat × St :=
  match st.bind parse with
  | some (n, r) => if n ≤ most then (n, some r) else (0, none)
  | none => (0, none)
def takeText (st : St) (most : Int) : List UInt8 × St :=
  match (takeNum st most.toNat).2 with
  | some r => if (takeNum st most.toNat).1 ≤ r.length then (r.take (takeNum st most.toNat).1, some (r.drop (takeNum st most.toNat).1)) else ([], none)
  | none => ([], none)
def m8 : Nat := 255
def m32 : Nat := 4294967295
def takeDot (st : St) : (Nat × Nat) × St :=
  match (takeNum (takeNum st m8).2 m32).2 with
  | some r => (((takeNum st m8).1, (takeNum (takeNum st m8).2 m32).1), some r)
  | none => ((0, 0), none)
def vecGo : Nat → St → List Nat × St
  | 0, st => ([], st)
  | k + 1, st => ((vecGo k st).1 ++ [(takeNum (vecGo k st).2 m32).1], (takeNum (vecGo k st).2 m32).2)
def zeros8 : List Nat := [0, 0, 0, 0, 0, 0, 0, 0]
def takeVec (st : St) : List Nat × St :=
  match (vecGo 8 st).2 with
  | some r => ((vecGo 8 st).1, some r)
  | none => (zeros8, none)

theorem takeNum_none (most : Nat) : takeNum none most = (0, none) := rfl
theorem takeNum_le (st : St) (most : Nat) : (takeNum st most).1 ≤ most := by
  unfold takeNum; split
  · split <;> simp_all
  · simp
theorem takeNum_lt (st : St) (most : Nat) : (takeNum st most).1 < 18446744073709551616 := by
  unfold takeNum; split
  · rename_i n r h
    split
    · cases st with
      | none => cases h
      | some l => exact (parse_some h).2
    · simp
  · simp
theorem takeNum_fail {st : St} {most : Nat} (h : (takeNum st most).2 = none) : (takeNum st most).1 = 0 := by
  unfold takeNum at h ⊢
  split at h
  · split at h
    · cases h
    · rename_i hn; rw [if_neg hn]
  · rfl
theorem takeNum_some {st : St} {most : Nat} {r : List UInt8} (h : (takeNum st most).2 = some r) : st = some (enc (takeNum st most).1 ++ r) := by
  unfold takeNum at h ⊢
  split at h
  · rename_i n q hp
    split at h
    · rename_i hle
      cases h
      cases st with
      | none => cases hp
      | some l =>
        rw [if_pos hle]
        exact congrArg some (parse_some hp).1
    · cases h
  · cases h
theorem takeNum_enc {n most : Nat} (h : n ≤ most) (hn : n < 18446744073709551616) (r : List UInt8) : takeNum (some (enc n ++ r)) most = (n, some r) := by
  unfold takeNum
  rw [Option.bind_some, parse_enc hn r]
  simp [h]
theorem takeText_none (most : Int) : takeText none most = ([], none) := rfl
theorem takeText_fail {st : St} {most : Int} (h : (takeText st most).2 = none) : (takeText st most).1 = [] := by
  unfold takeText at h ⊢
  split at h
  · split at h
    · cases h
    · rename_i hn; rw [if_neg hn]
  · rfl
theorem takeText_enc {s : List UInt8} {most : Int} (h : (s.length : Int) ≤ most) (hs : s.length < 18446744073709551616) (r : List UInt8) : takeText (some (enc s.length ++ (s ++ r))) most = (s, some r) := by
  have := takeNum_enc (most := most.toNat) (show s.length ≤ most.toNat by omega) hs (s ++ r)
  unfold takeText
  rw [this]
  simp
theorem takeDot_none : takeDot none = ((0, 0), none) := rfl
theorem takeDot_fail {st : St} (h : (takeDot st).2 = none) : (takeDot st).1 = (0, 0) := by
  unfold takeDot at h ⊢
  split at h <;> simp_all
theorem takeDot_lt (st : St) : (takeDot st).1.1 < 256 ∧ (takeDot st).1.2 < 4294967296 := by
  have h1 := takeNum_le st m8
  have h2 := takeNum_le (takeNum st m8).2 m32
  have e1 : m8 = 255 := rfl
  have e2 : m32 = 4294967295 := rfl
  unfold takeDot
  split
  · exact ⟨by simp only; omega, by simp only; omega⟩
  · exact ⟨by simp, by simp⟩
theorem takeDot_enc {a b : Nat} (ha : a < 256) (hb : b < 4294967296) (r : List UInt8) : takeDot (some (enc a ++ (enc b ++ r))) = ((a, b), some r) := by
  have h1 := takeNum_enc (n := a) (most := m8) (by unfold m8; omega) (by omega) (enc b ++ r)
  have h2 := takeNum_enc (n := b) (most := m32) (by unfold m32; omega) (by omega) r
  unfold takeDot
  rw [h1, h2]
theorem vecGo_none (k : Nat) : (vecGo k none).2 = none := by
  induction k with
  | zero => rfl
  | succ k ih => rw [vecGo, ih]; rfl
theorem vecGo_len (k : Nat) (st : St) : (vecGo k st).1.length = k := by
  induction k with
  | zero => rfl
  | succ k ih => rw [vecGo]; simp [ih]
theorem vecGo_lt (k : Nat) (st : St) : ∀ n ∈ (vecGo k st).1, n < 4294967296 := by
  induction k with
  | zero => intro n h; simp [vecGo] at h
  | succ k ih =>
    intro n h
    rw [vecGo] at h
    simp only [List.mem_append, List.mem_singleton] at h
    rcases h with h | h
    · exact ih n h
    · have := takeNum_le (vecGo k st).2 m32
      unfold m32 at this; unfold m32 at h; omega
theorem takeVec_none : takeVec none = (zeros8, none) := by
  have := vecGo_none 8
  unfold takeVec; rw [this]
theorem takeVec_fail {st : St} (h : (takeVec st).2 = none) : (takeVec st).1 = zeros8 := by
  unfold takeVec at h ⊢
  split at h <;> simp_all
theorem takeVec_len (st : St) : (takeVec st).1.length = 8 := by
  unfold takeVec; split
  · exact vecGo_len 8 st
  · rfl
theorem takeVec_lt (st : St) : ∀ n ∈ (takeVec st).1, n < 4294967296 := by
  unfold takeVec; split
  · exact vecGo_lt 8 st
  · intro n h; simp [zeros8] at h; omega

/-- A vector's bytes. -/
def encV (v : List Nat) : List UInt8 := v.flatMap enc
theorem encV_snoc (v : List Nat) (n : Nat) : encV (v ++ [n]) = encV v ++ enc n := by simp [encV]
theorem vecGo_enc (v : List Nat) (hv : ∀ n ∈ v, n < 4294967296) (r : List UInt8) : ∀ k, k ≤ v.length → vecGo k (some (encV v ++ r)) = (v.take k, some (encV (v.drop k) ++ r)) := by
  intro k
  induction k with
  | zero => intro _; simp [vecGo]
  | succ k ih =>
    intro hk
    have hi := ih (by omega)
    have hd : v.drop k = v[k] :: v.drop (k + 1) := List.drop_eq_getElem_cons (by omega)
    have hlt := hv v[k] (List.getElem_mem _)
    rw [vecGo, hi, hd]
    have he : encV (v[k] :: v.drop (k + 1)) ++ r = enc v[k] ++ (encV (v.drop (k + 1)) ++ r) := by
      unfold encV; rw [List.flatMap_cons, List.append_assoc]
    rw [he, takeNum_enc (by unfold m32; omega) (by omega)]
    simp only [Prod.mk.injEq, and_true]
    rw [List.take_succ_eq_append_getElem (by omega)]
theorem takeVec_enc {v : List Nat} (h8 : v.length = 8) (hv : ∀ n ∈ v, n < 4294967296) (r : List UInt8) : takeVec (some (encV v ++ r)) = (v, some r) := by
  have := vecGo_enc v hv r 8 (by omega)
  rw [← h8, List.take_length, List.drop_length, h8] at this
  unfold takeVec
  rw [this]
  simp [encV]
theorem encV_len {v : List Nat} (hv : ∀ n ∈ v, n < 4294967296) : (encV v).length ≤ 9 * v.length := by
  induction v with
  | nil => simp [encV]
  | cons n v ih =>
    have h1 := enc_len (n := n) (by have := hv n (by simp); omega)
    have h2 := ih (fun m hm => hv m (by simp [hm]))
    simp only [encV, List.flatMap_cons, List.length_append, List.length_cons] at h2 ⊢
    omega

/-! ### What is left gets less -/
theorem takeNum_left {l r : List UInt8} {most : Nat} (h : (takeNum (some l) most).2 = some r) : r.length < l.length := by
  have h1 := takeNum_some h
  have h2 := enc_ne (takeNum (some l) most).1
  have := congrArg (fun o => (o.getD []).length) h1
  simp at this; omega
theorem takeText_left {l r : List UInt8} {most : Int} (h : (takeText (some l) most).2 = some r) : r.length < l.length := by
  unfold takeText at h
  split at h
  · rename_i q hq
    have := takeNum_left hq
    split at h
    · cases h; simp; omega
    · cases h
  · cases h
theorem takeNum_st {st : St} {most : Nat} {r : List UInt8} (h : (takeNum st most).2 = some r) : ∃ l, st = some l ∧ r.length < l.length := by
  cases st with
  | none => cases h
  | some l => exact ⟨l, rfl, takeNum_left h⟩
theorem takeDot_left {l r : List UInt8} (h : (takeDot (some l)).2 = some r) : r.length < l.length := by
  unfold takeDot at h
  split at h
  · rename_i q hq
    cases h
    obtain ⟨s, hs, h1⟩ := takeNum_st hq
    have := takeNum_left hs
    omega
  · cases h
theorem vecGo_left (k : Nat) {l r : List UInt8} (h : (vecGo (k + 1) (some l)).2 = some r) : r.length < l.length := by
  induction k generalizing r with
  | zero => exact takeNum_left h
  | succ k ih =>
    rw [vecGo] at h
    obtain ⟨s, hs, h1⟩ := takeNum_st h
    have := ih hs
    omega
theorem takeVec_left {l r : List UInt8} (h : (takeVec (some l)).2 = some r) : r.length < l.length := by
  unfold takeVec at h
  split at h
  · rename_i q hq
    cases h
    exact vecGo_left 7 hq
  · cases h

end Wire
end Go.Proofs.YtagdapmnghnphaaDoor

/-
  Package wire: the count of a number's bytes, bytes as a number; where writers and readers lie in memory.
-/
namespace Go.Proofs.YtagdapmnghnphaaDoor
open Go Go.RowKit Wire

set_option maxRecDepth 100000
set_option linter.unusedVariables false
set_option linter.unusedSimpArgs false
theorem len_step (m : Nat) (h : 0 < m) : (dig m).length = (dig (m / 256)).length + 1 := by
  rw [dig_pos (by omega)]; simp

theorem wrap_u64 (n : Int) : IntKind.u64.wrap n = n % 18446744073709551616 := by simp [IntKind.wrap, IntKind.bits, IntKind.signed]
theorem or_u64 (a b : Nat) (ha : a < 18446744073709551616) (hb : b < 18446744073709551616) : bits .or .u64 (a : Int) (b : Int) = ((a ||| b : Nat) : Int) := by
  have hx : a ||| b < 2 ^ 64 := Nat.or_lt_two_pow (by omega) (by omega)
  show IntKind.u64.wrap ((BitVec.ofInt 64 (a : Int) ||| BitVec.ofInt 64 (b : Int)).toNat : Int) = _
  rw [BitVec.toNat_or, ofNat_toNat 64 a (by omega), ofNat_toNat 64 b (by omega), wrap_u64]; omega
theorem or_low (a c : Nat) (hc : c < 256) : a * 256 ||| c = a * 256 + c := by
  have := Nat.shiftLeft_add_eq_or_of_lt (show c < 2 ^ 8 by omega) a
  rw [Nat.shiftLeft_eq] at this
  exact this.symm
theorem big_u64 (m c : Nat) (hc : c < 256) : bits .or .u64 (IntKind.u64.wrap ((m : Int) % 18446744073709551616 * 256)) (IntKind.u64.wrap (c : Int)) = (((256 * m + c) % 18446744073709551616 : Nat) : Int) := by
  have h1 : IntKind.u64.wrap ((m : Int) % 18446744073709551616 * 256) = ((m % 72057594037927936 * 256 : Nat) : Int) := by rw [wrap_u64]; omega
  have h2 : IntKind.u64.wrap (c : Int) = (c : Int) := by rw [wrap_u64]; omega
  rw [h1, h2, or_u64 _ _ (by omega) (by omega), or_low _ _ hc]
  omega
theorem take_snoc (s : ByteArray) (k : Nat) (h : k < s.size) : s.data.toList.take (k + 1) = s.data.toList.take k ++ [s[k]] := by
  rw [List.take_succ_eq_append_getElem (by simpa using h)]; rfl
theorem take_all (s : ByteArray) : s.data.toList.take s.size = s.data.toList := List.take_of_length_le (by simp)

/-- Bytes as a string's. -/
def ba (l : List UInt8) : ByteArray := ⟨l.toArray⟩
theorem ba_list (l : List UInt8) : (ba l).data.toList = l := by simp [ba]
theorem ba_size (l : List UInt8) : (ba l).size = l.length := by simp [ba, ByteArray.size]
theorem ba_inj {a b : List UInt8} (h : ba a = ba b) : a = b := by rw [← ba_list a, h, ba_list]
theorem ba_of (s : ByteArray) : ba s.data.toList = s := by simp [ba]
theorem toList_inj {a b : ByteArray} (h : a.data.toList = b.data.toList) : a = b :=
  ByteArray.ext (Array.toList_inj.1 h)
theorem ba_append (a b : List UInt8) : ba a ++ ba b = ba (a ++ b) := toList_inj (by rw [ByteArray.data_append, Array.toList_append, ba_list, ba_list, ba_list])
theorem ba_get (l : List UInt8) (i : Nat) (h : i < (ba l).size) : l[i]? = some (ba l)[i] := by
  have h' : i < l.length := by rw [ba_size] at h; exact h
  rw [List.getElem?_eq_getElem h']; rfl

/-! ### Memory -/
/-- Below block B all blocks but g are as they were, and wherever they are all but g that hold no row of bytes; the streams too. -/
structure Keeps (B : Nat) (g : Option Nat) (w w' : World) : Prop where
  os : w'.os = w.os
  tape : w'.tape = w.tape
  output : w'.output = w.output
  size : w.heap.size ≤ w'.heap.size
  block : ∀ k, k < B → some k ≠ g → w'.heap[k]? = w.heap[k]?
  other : ∀ k cs t fr, w.heap[k]? = some (.cells cs t fr) → t ≠ 5 → some k ≠ g → w'.heap[k]? = some (.cells cs t fr)

theorem lt_of_some {w : World} {g : Nat} {o : Obj} (h : w.heap[g]? = some o) : g < w.heap.size := (Array.getElem?_eq_some_iff.1 h).1
theorem Keeps.refl (B : Nat) (g : Option Nat) (w : World) : Keeps B g w w := ⟨rfl, rfl, rfl, Nat.le_refl _, fun _ _ _ => rfl, fun _ _ _ _ h _ _ => h⟩
theorem Keeps.trans {B : Nat} {g : Option Nat} {a b c : World} (h : Keeps B g a b) (k : Keeps B g b c) : Keeps B g a c :=
  ⟨k.os.trans h.os, k.tape.trans h.tape, k.output.trans h.output, Nat.le_trans h.size k.size, fun i hi hg => (k.block i hi hg).trans (h.block i hi hg),
    fun i cs t fr hi ht hg => k.other i cs t fr (h.other i cs t fr hi ht hg) ht hg⟩
theorem Keeps.mono {B B' : Nat} {g : Option Nat} {a b : World} (h : Keeps B g a b) (hB : B' ≤ B) : Keeps B' g a b :=
  ⟨h.os, h.tape, h.output, h.size, fun k hk hg => h.block k (by omega) hg, h.other⟩
theorem _root_.Go.RowKit.Below.keeps {a b : World} (h : Below a.heap.size a b) (g : Option Nat) (B : Nat) (hB : B ≤ a.heap.size) : Keeps B g a b :=
  ⟨h.os, h.tape, h.output, h.size, fun k hk _ => h.block k (by omega), fun k _ _ _ hk _ _ => (h.block k (lt_of_some hk)).trans hk⟩
/-- Where the one block is none of the old ones. -/
theorem Keeps.below {B : Nat} {g : Option Nat} {a b : World} (h : Keeps B g a b) (hg : ∀ k, g = some k → B ≤ k) : Below B a b :=
  ⟨h.os, h.tape, h.output, h.size, fun k hk => h.block k hk (fun e => by have := hg k e.symm; omega)⟩
theorem Keeps.setCell (B : Nat) (a : World) (p : Addr) (u : Value) : Keeps B (some p.block) a (a.setCell p u) :=
  ⟨rfl, rfl, rfl, by simp [World.setCell], fun k _ hg => Below.heap_setCell _ _ _ _ (fun e => hg (by rw [e])), fun k _ _ _ hk _ hg => (Below.heap_setCell _ _ _ _ (fun e => hg (by rw [e]))).trans hk⟩
theorem Keeps.drew {B : Nat} {g : Option Nat} {a b : World} (h : Keeps B g a b) : Keeps B g a b.drew := ⟨h.os, h.tape, h.output, h.size, h.block, h.other⟩

theorem owner_other {w : World} {B : Nat} {v : Value} {n : Nat} {xs : List Value} (h : w.ownsRow B 5 1 v n xs) {g : Nat} {cs : Array Value} {t : TypeId} {fr : Nat × Nat} (hg : w.heap[g]? = some (.cells cs t fr)) (ht : t ≠ 5) : v.ownBlock ≠ some g := by
  intro he
  rcases h.2 with ⟨rfl, _⟩ | ⟨g', cap, cur, rfl, _, hgg, _⟩
  · simp [Value.ownBlock] at he
  · simp [Value.ownBlock] at he
    subst he
    rw [hg] at hgg
    cases hgg
    exact ht rfl
theorem byteCells_append (a b : List UInt8) : Lib.byteCells a ++ Lib.byteCells b = Lib.byteCells (a ++ b) := by simp [Lib.byteCells]

end Go.Proofs.YtagdapmnghnphaaDoor

/-
  Contracts of package wire: the writers.
-/
namespace Go.Proofs.YtagdapmnghnphaaDoor
open Go Go.RowKit Wire

set_option maxRecDepth 100000
set_option linter.unusedVariables false
set_option linter.unusedSimpArgs false
theorem cell_of_heap {w : World} {g j : Nat} {cs : Array Value} {t : TypeId} {fr : Nat × Nat} (h : w.heap[g]? = some (.cells cs t fr)) : w.cell? ⟨g, j, none⟩ = cs[j]? := cell_of_row _ _ _ _ _ _ h

theorem u8w_info : (Tryd.prog.info? 5).map (fun i => (i.zero, i.size, i.bytes)) = some (some (.int .u8 0), 1, 1) := by kernel_rfl

theorem one_byte (n : Nat) (h : n < 256) : Lib.byteCells [UInt8.ofNat n] = [.int .u8 (n : Int)] := by
  simp [Lib.byteCells, Wire.u8_ofNat h]

theorem owner_form {w : World} {B : Nat} {v : Value} {n : Nat} {xs : List Value} (h : w.ownsRow B 5 1 v n xs) : ∃ p c, v = .slice p n c := by
  rcases h.2 with ⟨rfl, rfl⟩ | ⟨g', cap, cur, rfl, _⟩
  · exact ⟨_, _, rfl⟩
  · exact ⟨_, _, rfl⟩
theorem grown_heap {W w1 w2 : World} {B g n : Nat} {v : Value} {xs : List Value} {cs : Array Value} {t : TypeId} {fr : Nat × Nat} (ho : W.ownsRow B 5 1 v n xs) (hg : W.heap[g]? = some (.cells cs t fr)) (ht : t ≠ 5) (h1 : Below W.heap.size W w1) (hgr : w1.grownBy w2 v.ownBlock) :
    w2.heap[g]? = some (.cells cs t fr) :=
  (hgr.block g (Nat.lt_of_lt_of_le (lt_of_some hg) h1.size) (Ne.symm (owner_other ho hg ht))).trans ((h1.block g (lt_of_some hg)).trans hg)
theorem free_of_heap {w : World} {g j : Nat} {cs : Array Value} {t : TypeId} (h : w.heap[g]? = some (.cells cs t (0, 0))) : w.frozen? ⟨g, j, none⟩ = false := frozen_of_row _ _ _ _ _ h

theorem dig_take (n k j c : Nat) (hc : c = (dig n).length) (hk : k ≤ c) (hj : k = j + 1) : (dig n).take (c - j) = (dig n).take (c - k) ++ [UInt8.ofNat (n / 256 ^ j % 256)] := by
  have h := dig_at n (c - k) (by omega)
  rw [show (dig n).length - 1 - (c - k) = j by omega] at h
  rw [show c - j = (c - k) + 1 by omega, List.take_add_one, h]
  rfl

end Go.Proofs.YtagdapmnghnphaaDoor

/-
  strings.Clone, and rows of bytes: of no package in particular.
-/
namespace Go.Proofs.YtagdapmnghnphaaDoor
open Go Go.RowKit

set_option maxRecDepth 100000
set_option linter.unusedVariables false
set_option linter.unusedSimpArgs false
theorem len_toList (s : ByteArray) : s.data.toList.length = s.size := by simp

theorem u8_info : (Tryd.prog.info? 5).map (fun i => (i.zero, i.size, i.bytes)) = some (some (.int .u8 0), 1, 1) := by kernel_rfl

/-- n bytes as cells, the first k filled. -/
def rowCells (n : Nat) (f : Nat → Nat) (k : Nat) : Array Value := (Array.range n).map fun j => .int .u8 ((if j < k then f j else 0 : Nat) : Int)
theorem row_size (n : Nat) (f : Nat → Nat) (k : Nat) : (rowCells n f k).size = n := by simp [rowCells]
theorem row_at (n : Nat) (f : Nat → Nat) (k j : Nat) (h : j < n) : (rowCells n f k)[j]? = some (.int .u8 ((if j < k then f j else 0 : Nat) : Int)) := by
  simp [rowCells, h]
theorem row_set (n : Nat) (f : Nat → Nat) (k : Nat) (v : Int) (h : v = (f k : Nat)) : (rowCells n f k).setIfInBounds k (.int .u8 v) = rowCells n f (k + 1) := by
  subst h
  apply Array.ext_getElem?; intro i
  by_cases hi : i < n
  · rw [row_at _ _ _ _ hi, Array.getElem?_setIfInBounds, row_at _ _ _ _ hi, row_size]
    by_cases he : k = i
    · subst he; simp [hi]
    · simp only [he, if_false]
      by_cases hl : i < k
      · simp [hl, show i < k + 1 by omega]
      · simp [hl, show ¬ i < k + 1 by omega]
  · rw [Array.getElem?_eq_none (by simp [row_size]; omega), Array.getElem?_eq_none (by simp [row_size]; omega)]
theorem row_made (n : Nat) (f : Nat → Nat) : madeCells (Value.int .u8 0).cells n = rowCells n f 0 := by
  apply Array.toList_inj.1
  rw [show (Value.int .u8 0).cells = #[.int .u8 0] by rfl, toList_madeCells_one]
  simp [rowCells]
  apply List.ext_getElem?; intro i
  by_cases hi : i < n <;> simp [hi]

/-- The string's bytes as a full row. -/
theorem row_string (s : ByteArray) : (rowCells s.size (fun j => (s.data.toList.getD j 0).toNat) s.size).toList = Lib.byteCells s.data.toList := by
  apply List.ext_getElem?; intro i
  rw [Array.getElem?_toList]
  by_cases hi : i < s.size
  · rw [row_at _ _ _ _ hi, if_pos hi]
    have hi' : i < s.data.size := hi
    have he : s.data[i]? = some s.data[i] := Array.getElem?_eq_getElem hi'
    simp [Lib.byteCells, he]
  · rw [Array.getElem?_eq_none (by rw [row_size]; omega), List.getElem?_eq_none (by rw [Lib.byteCells_length, len_toList]; omega)]

end Go.Proofs.YtagdapmnghnphaaDoor

/-
  Contracts of package wire: the writers, their other methods.
-/
namespace Go.Proofs.YtagdapmnghnphaaDoor
open Go Go.RowKit Wire

set_option maxRecDepth 100000
set_option linter.unusedVariables false
set_option linter.unusedSimpArgs false
/-- A text's bytes. -/
def encT (s : List UInt8) : List UInt8 := enc s.length ++ s

/-- A dot's bytes. -/
def encD (r n : Nat) : List UInt8 := enc r ++ enc n

/-- Eight numbers as an array's cells. -/
def vcells (v : List Nat) : Array Value := (v.map fun n : Nat => Value.int .u32 (n : Int)).toArray
theorem vcells_size (v : List Nat) : (vcells v).size = v.length := by simp [vcells]
theorem vcells_at (v : List Nat) (k : Nat) (h : k < v.length) : (vcells v)[k]? = some (.int .u32 (v[k] : Int)) := by simp [vcells, h]
theorem encV_take (v : List Nat) (k : Nat) (h : k < v.length) : encV (v.take (k + 1)) = encV (v.take k) ++ enc v[k] := by
  rw [List.take_succ_eq_append_getElem h, encV_snoc]
theorem encV_take_len (v : List Nat) (hv : ∀ n ∈ v, n < 4294967296) (k : Nat) : (encV (v.take k)).length ≤ 9 * v.length := by
  have := encV_len (v := v.take k) (fun n hn => hv n (List.mem_of_mem_take hn))
  have h2 : (v.take k).length ≤ v.length := by rw [List.length_take]; omega
  omega

theorem index_vec (v : List Nat) (h8 : v.length = 8) (k : Nat) (hk : k < 8) (w : World) :
    (Instr.index 25 (.agg (vcells v)) (.int .i64 (k : Int))).run Tryd.prog w = .ok (.int .u32 ((v[k]'(by omega) : Nat) : Int)) w := by
  have hn : (0 : Int) ≤ (k : Int) ∧ (k : Int) < 8 := by omega
  have hat := vcells_at v k (by omega)
  simp [Instr.index, run_underlying Tryd.underlying25, asIntOf, hn, hk, hat, go_sem]

/-! ### Writers that are none -/
theorem zero_vcells : vcells zeros8 = #[.int .u32 0, .int .u32 0, .int .u32 0, .int .u32 0, .int .u32 0, .int .u32 0, .int .u32 0, .int .u32 0] := rfl
end Go.Proofs.YtagdapmnghnphaaDoor

/-
  Contracts of the document's answer for package wire: numbers, texts, dots, vectors as bytes.
-/
namespace Go.Proofs.YtagdapmnghnphaaDoor
open Go Go.RowKit Wire

set_option maxRecDepth 100000
set_option linter.unusedVariables false
set_option linter.unusedSimpArgs false
theorem below_next {A B C : World} (h : Below A.heap.size A B) (k : Below B.heap.size B C) : Below A.heap.size A C := h.trans (k.mono h.size)

end Go.Proofs.YtagdapmnghnphaaDoor
