/-
  Plain mathematics of package record: records, rows of them, how bytes are scanned, and what a rest can still become.
-/
import Derived.Test.YtcioomlhdaihkaaGreatDoorJU
import Derived.Test.YtcioomlhdaihkaaGreatDoorJS
import Derived.Lib.Builder
import Derived.Laws.Externs
namespace Go.Proofs.YtcioomlhdaihkaaGreatDoor.Q
set_option linter.unusedVariables false
set_option linter.unusedSimpArgs false
set_option maxRecDepth 100000
open Go Go.RowKit Wire

set_option maxRecDepth 100000
set_option linter.unusedVariables false
set_option linter.unusedSimpArgs false
abbrev Bs := List UInt8
def record (t : Bs) : Bs := Crc.sealed (enc t.length ++ t)
def rowB (l : List Bs) : Bs := (l.map record).flatten
def numOf (s : Bs) : Option (Nat × Bs) := match takeNum (some s) 65536 with
  | (n, some r) => some (n, r)
  | (_, none) => none
def first (s : Bs) : Option (Bs × Nat) := match numOf s with
  | none => none
  | some (n, r) => if r.length < n + 4 then none else if Crc.isSealed (s.take (s.length - r.length + n + 4)) then some (r.take n, s.length - r.length + n + 4) else none

theorem rowB_nil : rowB [] = [] := rfl
theorem rowB_cons (t : Bs) (l : List Bs) : rowB (t :: l) = record t ++ rowB l := by simp [rowB]
theorem rowB_append (l m : List Bs) : rowB (l ++ m) = rowB l ++ rowB m := by simp [rowB]
theorem record_length (t : Bs) : (record t).length = (enc t.length).length + t.length + 4 := by
  unfold record; rw [Crc.sealed_length, List.length_append]
theorem record_pos (t : Bs) : 5 ≤ (record t).length := by rw [record_length]; have := enc_ne t.length; omega
theorem numOf_some {s : Bs} {n : Nat} {r : Bs} (h : numOf s = some (n, r)) : s = enc n ++ r ∧ n ≤ 65536 := by
  unfold numOf at h
  have hle := takeNum_le (some s) 65536
  split at h
  · rename_i m q he
    cases h
    have h2 : (takeNum (some s) 65536).2 = some r := by rw [he]
    have h3 := takeNum_some h2
    rw [he] at h3 hle
    exact ⟨Option.some.inj h3, hle⟩
  · cases h
theorem numOf_enc {n : Nat} (h : n ≤ 65536) (r : Bs) : numOf (enc n ++ r) = some (n, r) := by
  unfold numOf; rw [takeNum_enc h (by omega)]
theorem numOf_eq {s : Bs} {n : Nat} {r : Bs} (h : numOf s = some (n, r)) : takeNum (some s) 65536 = (n, some r) := by
  obtain ⟨e, hn⟩ := numOf_some h
  rw [e]; exact takeNum_enc hn (by omega) r
theorem numOf_fail {s : Bs} (h : numOf s = none) : takeNum (some s) 65536 = (0, none) := by
  have h2 : (takeNum (some s) 65536).2 = none := by
    unfold numOf at h
    split at h
    · cases h
    · rename_i e; rw [e]
  exact Prod.ext (takeNum_fail h2) h2

theorem record_split (t q : Bs) : record t ++ q = enc t.length ++ (t ++ (Crc.low (Crc.sum (enc t.length ++ t)) ++ q)) := by
  unfold record Crc.sealed; simp [List.append_assoc]
theorem first_record {t : Bs} (h : t.length ≤ 65536) (q : Bs) : first (record t ++ q) = some (t, (record t).length) := by
  have hn := numOf_enc h (t ++ (Crc.low (Crc.sum (enc t.length ++ t)) ++ q))
  rw [← record_split] at hn
  have hr : (t ++ (Crc.low (Crc.sum (enc t.length ++ t)) ++ q)).length = t.length + 4 + q.length := by
    simp only [List.length_append, Crc.low_length]; omega
  have hs : (record t ++ q).length - (t ++ (Crc.low (Crc.sum (enc t.length ++ t)) ++ q)).length + t.length + 4 = (record t).length := by
    rw [hr, List.length_append, record_length]; omega
  unfold first
  rw [hn]
  simp only
  rw [hs, if_neg (by rw [hr]; omega), List.take_left, if_pos (show Crc.isSealed (record t) = true from Crc.isSealed_sealed _), List.take_left]
theorem first_some {s t : Bs} {k : Nat} (h : first s = some (t, k)) : t.length ≤ 65536 ∧ k = (record t).length ∧ ∃ q, s = record t ++ q := by
  unfold first at h
  cases hn : numOf s with
  | none => rw [hn] at h; cases h
  | some p =>
    obtain ⟨n, r⟩ := p
    rw [hn] at h
    obtain ⟨e, hle⟩ := numOf_some hn
    simp only at h
    split at h
    · cases h
    · rename_i hlen
      split at h
      · rename_i hseal
        have h0 := Option.some.inj h
        obtain ⟨rfl, rfl⟩ := Prod.mk.inj h0
        have hsl : s.length - r.length = (enc n).length := by rw [e, List.length_append]; omega
        rw [hsl] at hseal ⊢
        have htl : (r.take n).length = n := by rw [List.length_take]; omega
        have hk : s.take ((enc n).length + n + 4) = enc n ++ r.take (n + 4) := by
          rw [e, show (enc n).length + n + 4 = (enc n).length + (n + 4) by omega, List.take_length_add_append]
        have hkl : (s.take ((enc n).length + n + 4)).length = (enc n).length + n + 4 := by rw [hk, List.length_append, List.length_take]; omega
        unfold Crc.isSealed at hseal
        simp only [Bool.and_eq_true, decide_eq_true_eq] at hseal
        have h2 := hseal.2
        rw [hkl, List.take_take, show min ((enc n).length + n + 4 - 4) ((enc n).length + n + 4) = (enc n).length + n by omega] at h2
        have h3 : s.take ((enc n).length + n) = enc n ++ r.take n := by rw [e, List.take_length_add_append]
        have hrec : record (r.take n) = s.take ((enc n).length + n + 4) := by unfold record; rw [htl, ← h3]; exact h2
        refine ⟨by omega, by rw [record_length, htl], s.drop ((enc n).length + n + 4), ?_⟩
        rw [hrec, List.take_append_drop]
      · cases h
theorem first_nil : first [] = none := by
  unfold first numOf takeNum; rfl

/-- Bytes are scanned as these texts, with this rest. -/
structure IsScan (s : Bs) (l : List Bs) (rest : Bs) : Prop where
  eq : s = rowB l ++ rest
  small : ∀ t ∈ l, t.length ≤ 65536
  stop : first rest = none

theorem scan_ex (s : Bs) : ∃ l rest, IsScan s l rest := by
  generalize hn : s.length = n
  induction n using Nat.strongRecOn generalizing s with
  | ind n ih =>
    subst hn
    cases h : first s with
    | none => exact ⟨[], s, ⟨rfl, fun t ht => (by cases ht), h⟩⟩
    | some p =>
      obtain ⟨t, k⟩ := p
      obtain ⟨ht, _, q, rfl⟩ := first_some h
      have := record_pos t
      obtain ⟨l, r, hs⟩ := ih q.length (by rw [List.length_append]; omega) q rfl
      refine ⟨t :: l, r, ⟨by rw [rowB_cons, List.append_assoc, ← hs.eq], ?_, hs.stop⟩⟩
      intro x hx
      rcases List.mem_cons.1 hx with rfl | hx
      · exact ht
      · exact hs.small x hx
theorem scan_head {s : Bs} {t : Bs} {l : List Bs} {rest : Bs} (h : IsScan s (t :: l) rest) : first s = some (t, (record t).length) := by
  rw [h.eq, rowB_cons, List.append_assoc]; exact first_record (h.small t (List.mem_cons_self ..)) _
theorem scan_at {s : Bs} {l : List Bs} {rest : Bs} (h : IsScan s l rest) (j : Nat) (hj : j ≤ l.length) :
    IsScan (s.drop (rowB (l.take j)).length) (l.drop j) rest := by
  refine ⟨?_, fun t ht => h.small t (List.mem_of_mem_drop ht), h.stop⟩
  have e : rowB l = rowB (l.take j) ++ rowB (l.drop j) := by rw [← rowB_append, List.take_append_drop]
  rw [h.eq, e, List.append_assoc, List.drop_left]
theorem rowB_take_succ {l : List Bs} {j : Nat} {t : Bs} (h : l[j]? = some t) : rowB (l.take (j + 1)) = rowB (l.take j) ++ record t := by
  rw [List.take_add_one, h, rowB_append]; simp [rowB]
theorem drop_cons_of {l : List Bs} {j : Nat} {t : Bs} (h : l[j]? = some t) : l.drop j = t :: l.drop (j + 1) := by
  obtain ⟨hj, rfl⟩ := List.getElem?_eq_some_iff.1 h
  exact List.drop_eq_getElem_cons hj
theorem scan_first {s : Bs} {l : List Bs} {rest : Bs} (h : IsScan s l rest) {j : Nat} {t : Bs} (hj : l[j]? = some t) : first (s.drop (rowB (l.take j)).length) = some (t, (record t).length) := by
  have h1 := scan_at h j (by have := (List.getElem?_eq_some_iff.1 hj).1; omega)
  rw [drop_cons_of hj] at h1
  exact scan_head h1
theorem scan_rest {s : Bs} {l : List Bs} {rest : Bs} (h : IsScan s l rest) : s.drop (rowB l).length = rest := by rw [h.eq, List.drop_left]
theorem scan_len {s : Bs} {l : List Bs} {rest : Bs} (h : IsScan s l rest) : s.length = (rowB l).length + rest.length := by rw [h.eq, List.length_append]
theorem scan_taken {s : Bs} {l : List Bs} {rest : Bs} (h : IsScan s l rest) : s.take (rowB l).length = rowB l := by rw [h.eq, List.take_left]
theorem scan_uniq {s : Bs} {l m : List Bs} {p q : Bs} (h : IsScan s l p) (k : IsScan s m q) : l = m ∧ p = q := by
  induction l generalizing s m with
  | nil =>
    cases m with
    | nil => have := h.eq.symm.trans k.eq; exact ⟨rfl, by simpa [rowB] using this⟩
    | cons t m =>
      have h1 := scan_head k
      have h2 : s = p := by have := h.eq; simpa [rowB] using this
      rw [h2, h.stop] at h1; cases h1
  | cons x l ih =>
    have h1 := scan_head h
    cases m with
    | nil =>
      have h2 : s = q := by have := k.eq; simpa [rowB] using this
      rw [h2, k.stop] at h1; cases h1
    | cons y m =>
      have h2 := scan_head k
      rw [h1] at h2
      obtain ⟨rfl, _⟩ := Prod.mk.inj (Option.some.inj h2)
      have e1 : IsScan (s.drop (record x).length) l p := ⟨by rw [h.eq, rowB_cons, List.append_assoc, List.drop_left], fun t ht => h.small t (List.mem_cons_of_mem _ ht), h.stop⟩
      have e2 : IsScan (s.drop (record x).length) m q := ⟨by rw [k.eq, rowB_cons, List.append_assoc, List.drop_left], fun t ht => k.small t (List.mem_cons_of_mem _ ht), k.stop⟩
      obtain ⟨rfl, rfl⟩ := ih e1 e2
      exact ⟨rfl, rfl⟩
theorem scan_row {l : List Bs} (h : ∀ t ∈ l, t.length ≤ 65536) : IsScan (rowB l) l [] := ⟨by simp, h, first_nil⟩
theorem scan_behind {pre l : List Bs} {b rest : Bs} (h : ∀ t ∈ pre, t.length ≤ 65536) (k : IsScan b l rest) : IsScan (rowB pre ++ b) (pre ++ l) rest :=
  ⟨by rw [rowB_append, List.append_assoc, ← k.eq], fun t ht => (List.mem_append.1 ht).elim (h t) (k.small t), k.stop⟩
theorem row_len_le {l : List Bs} (j : Nat) : (rowB (l.take j)).length ≤ (rowB l).length := by
  conv => rhs; rw [← List.take_append_drop j l, rowB_append, List.length_append]
  omega

/-! ### What a rest can become -/
theorem enc1 {n : Nat} (h : 128 ≤ n) (h2 : n < 256) : enc n = [129, UInt8.ofNat n] := by
  rw [enc_great (by omega), dig_pos (by omega), show n / 256 = 0 by omega, dig_zero, Nat.mod_eq_of_lt h2]; rfl
theorem enc2 {n : Nat} (h : 256 ≤ n) (h2 : n < 65536) : enc n = [130, UInt8.ofNat (n / 256), UInt8.ofNat (n % 256)] := by
  rw [enc_great (by omega), dig_pos (by omega), dig_pos (n := n / 256) (by omega), show n / 256 / 256 = 0 by omega, dig_zero, Nat.mod_eq_of_lt (show n / 256 < 256 by omega)]; rfl
theorem enc3 : enc 65536 = [131, 1, 0, 0] := by
  rw [enc_great (by omega), dig_pos (by omega), dig_pos (n := 65536 / 256) (by omega), dig_pos (n := 65536 / 256 / 256) (by omega), show 65536 / 256 / 256 / 256 = 0 by omega, dig_zero]; rfl
theorem enc_cases {n : Nat} (h : n ≤ 65536) : (n < 128 ∧ enc n = [UInt8.ofNat n]) ∨ (128 ≤ n ∧ n < 256 ∧ enc n = [129, UInt8.ofNat n]) ∨ (256 ≤ n ∧ n < 65536 ∧ enc n = [130, UInt8.ofNat (n / 256), UInt8.ofNat (n % 256)]) ∨ (n = 65536 ∧ enc n = [131, 1, 0, 0]) := by
  by_cases h1 : n < 128
  · exact .inl ⟨h1, enc_small h1⟩
  by_cases h2 : n < 256
  · exact .inr (.inl ⟨by omega, h2, enc1 (by omega) h2⟩)
  by_cases h3 : n < 65536
  · exact .inr (.inr (.inl ⟨by omega, h3, enc2 (by omega) h3⟩))
  · obtain rfl : n = 65536 := by omega
    exact .inr (.inr (.inr ⟨rfl, enc3⟩))
theorem enc_le4 {n : Nat} (h : n ≤ 65536) : (enc n).length ≤ 4 := by
  rcases enc_cases h with ⟨_, e⟩ | ⟨_, _, e⟩ | ⟨_, _, e⟩ | ⟨_, e⟩ <;> rw [e] <;> simp

/-- May these bytes be the beginning of a length's, or have them in front? -/
def lenB : Bs → Bool
  | [] => true
  | a :: q =>
    if a.toNat < 128 then true
    else if a.toNat = 129 then (match q with | [] => true | b :: _ => decide (128 ≤ b.toNat))
    else if a.toNat = 130 then (match q with | [] => true | b :: _ => decide (1 ≤ b.toNat))
    else ((a :: q).take 4).isPrefixOf [131, 1, 0, 0]
def part (s : Bs) : Bool := lenB s && (match numOf s with
  | none => true
  | some (n, r) => if n + 4 ≤ r.length then false else if r.length ≤ n then true else s.isPrefixOf (record (r.take n)))
/-- What is left: whole, torn, bad. -/
def stB (s : Bs) : Nat := if s = [] then 0 else if part s then 1 else 2
theorem stB_nil : stB [] = 0 := rfl

theorem lenB_num {s : Bs} {n : Nat} {r : Bs} (h : numOf s = some (n, r)) : lenB s = true := by
  obtain ⟨rfl, hle⟩ := numOf_some h
  rcases enc_cases hle with ⟨h1, e⟩ | ⟨h1, h2, e⟩ | ⟨h1, h2, e⟩ | ⟨_, e⟩
  · rw [e, List.singleton_append]; simp only [lenB]; rw [u8_ofNat (n := n) (by omega), if_pos h1]
  · rw [e]; simp only [List.cons_append, List.nil_append, lenB]
    rw [if_neg (by decide), if_pos (by decide), u8_ofNat (by omega)]; simpa using h1
  · rw [e]; simp only [List.cons_append, List.nil_append, lenB]
    rw [if_neg (by decide), if_neg (by decide), if_pos (by decide), u8_ofNat (by omega)]; simp; omega
  · rw [e]; simp [lenB]
/-- As the program decides it: a the first byte, q what is behind it. -/
def blv (a : Nat) (q : Bs) : Bool :=
  if 131 < a ∨ a ≤ 128 + q.length then false
  else decide (max 128 (256 ^ (a - 129)) / 256 ^ (a - 128 - q.length) ≤ big q) && decide (big q ≤ min 65536 (256 ^ (a - 128) - 1) / 256 ^ (a - 128 - q.length))
theorem big_one (b : UInt8) : big [b] = b.toNat := by simp [big]
theorem big_two (b c : UInt8) : big [b, c] = 256 * b.toNat + c.toNat := by simp [big]
theorem ofNat_toNat8 (b : UInt8) : UInt8.ofNat b.toNat = b := UInt8.ofNat_toNat
theorem eq_of_toNat {a b : UInt8} (h : a.toNat = b.toNat) : a = b := by rw [← ofNat_toNat8 a, h, ofNat_toNat8]
theorem blv_len {a : UInt8} {q : Bs} (h : numOf (a :: q) = none) : blv a.toNat q = lenB (a :: q) := by
  have hno : ∀ n r, n ≤ 65536 → a :: q ≠ enc n ++ r := fun n r hn e => by
    rw [e, numOf_enc hn] at h; cases h
  have hlt := u8_lt a
  have h128 : 128 ≤ a.toNat := by
    rcases Nat.lt_or_ge a.toNat 128 with h1 | h1
    · exact absurd (by rw [enc_small h1, ofNat_toNat8]; rfl) (hno a.toNat q (by omega))
    · exact h1
  by_cases h129 : a.toNat = 129
  · obtain rfl : a = 129 := eq_of_toNat h129
    match q with
    | [] => rfl
    | b :: q =>
      have hb := u8_lt b
      have h1 : ¬ 128 ≤ b.toNat := fun hge => hno b.toNat q (by omega) (by rw [enc1 hge hb, ofNat_toNat8]; rfl)
      simp only [blv, lenB, h129]
      rw [if_pos (by simp; omega)]
      simp [h1]
  by_cases h130 : a.toNat = 130
  · obtain rfl : a = 130 := eq_of_toNat h130
    match q with
    | [] => rfl
    | [b] =>
      have hb := u8_lt b
      simp only [blv, lenB, big_one]
      rw [if_neg (by simp), if_neg (by decide), if_neg (by decide), if_pos (by decide)]
      have : (130 : UInt8).toNat = 130 := rfl
      rw [this]
      simp
      omega
    | b :: c :: q =>
      have hb := u8_lt b
      have hc := u8_lt c
      have h1 : ¬ 1 ≤ b.toNat := fun hge => hno (256 * b.toNat + c.toNat) q (by omega) (by
        rw [enc2 (by omega) (by omega), show (256 * b.toNat + c.toNat) / 256 = b.toNat by omega, show (256 * b.toNat + c.toNat) % 256 = c.toNat by omega, ofNat_toNat8, ofNat_toNat8]; rfl)
      simp only [blv, lenB, h130]
      rw [if_pos (by simp; omega)]
      simp [h1]
  by_cases h131 : a.toNat = 131
  · obtain rfl : a = 131 := eq_of_toNat h131
    have e131 : (131 : UInt8).toNat = 131 := rfl
    match q with
    | [] => rfl
    | [b] =>
      have hb := u8_lt b
      simp only [blv, lenB, big_one, e131]
      rw [if_neg (by simp), if_neg (by decide), if_neg (by decide), if_neg (by decide)]
      by_cases h1 : b.toNat = 1
      · obtain rfl : b = 1 := eq_of_toNat h1
        decide
      · have h2 : ¬ b = 1 := fun e => h1 (by rw [e]; rfl)
        have hr : ([131, b] : Bs).isPrefixOf [131, 1, 0, 0] = false := by simp [List.isPrefixOf, h2]
        show _ = ([131, b] : Bs).isPrefixOf [131, 1, 0, 0]
        rw [hr]
        simp
        omega
    | [b, c] =>
      have hb := u8_lt b
      have hc := u8_lt c
      simp only [blv, lenB, big_two, e131]
      rw [if_neg (by simp), if_neg (by decide), if_neg (by decide), if_neg (by decide)]
      by_cases h1 : b.toNat = 1
      · obtain rfl : b = 1 := eq_of_toNat h1
        by_cases h2 : c.toNat = 0
        · obtain rfl : c = 0 := eq_of_toNat h2
          decide
        · have h3 : ¬ c = 0 := fun e => h2 (by rw [e]; rfl)
          have hr : ([131, 1, c] : Bs).isPrefixOf [131, 1, 0, 0] = false := by simp [List.isPrefixOf, h3]
          show _ = ([131, 1, c] : Bs).isPrefixOf [131, 1, 0, 0]
          rw [hr]
          have : (1 : UInt8).toNat = 1 := rfl
          simp [this]
          omega
      · have h2 : ¬ b = 1 := fun e => h1 (by rw [e]; rfl)
        have hr : ([131, b, c] : Bs).isPrefixOf [131, 1, 0, 0] = false := by simp [List.isPrefixOf, h2]
        show _ = ([131, b, c] : Bs).isPrefixOf [131, 1, 0, 0]
        rw [hr]
        simp
        omega
    | b :: c :: d :: q =>
      have h1 : ¬ ([131, b, c, d] : Bs) = [131, 1, 0, 0] := fun e => hno 65536 q (by omega) (by
        rw [enc3]
        simp only [List.cons.injEq, true_and, and_true] at e
        obtain ⟨rfl, rfl, rfl⟩ := e; rfl)
      simp only [blv, lenB, e131]
      rw [if_pos (by simp; omega), if_neg (by decide), if_neg (by decide), if_neg (by decide)]
      simp only [List.take_succ_cons, List.take_zero]
      cases hp : List.isPrefixOf ([131, b, c, d] : Bs) [131, 1, 0, 0] with
      | false => rfl
      | true => exact absurd ((List.isPrefixOf_iff_prefix.1 hp).eq_of_length rfl) h1
  · have h1 : ¬ a = 131 := fun e => h131 (by rw [e]; rfl)
    have hl : lenB (a :: q) = false := by
      simp only [lenB]
      rw [if_neg (by omega), if_neg h129, if_neg h130]
      simp [List.isPrefixOf, h1]
    rw [hl]
    unfold blv
    by_cases h2 : a.toNat = 128
    · rw [if_pos (by omega)]
    · rw [if_pos (by omega)]

/-- What the program asks of a rest in which no record stands first. -/
def begB (s : Bs) : Bool := match numOf s with
  | none => lenB s
  | some (n, r) => if r.length < n then true else s.isPrefixOf (Crc.sealed (s.take (s.length - r.length + n)))
theorem begB_part {s : Bs} (h : first s = none) : begB s = part s := by
  unfold begB part
  cases hn : numOf s with
  | none => simp
  | some p =>
    obtain ⟨n, r⟩ := p
    rw [lenB_num hn]
    simp only [Bool.true_and]
    obtain ⟨e, hle⟩ := numOf_some hn
    have hsl : s.length - r.length = (enc n).length := by rw [e, List.length_append]; omega
    have h3 : s.take ((enc n).length + n) = enc n ++ r.take n := by rw [e, List.take_length_add_append]
    rw [hsl, h3]
    have hse : s.length = (enc n).length + r.length := by rw [e, List.length_append]
    by_cases h1 : r.length < n
    · rw [if_pos h1, if_neg (by omega), if_pos (by omega)]
    rw [if_neg h1]
    have htl : (r.take n).length = n := by rw [List.length_take]; omega
    have hrec : Crc.sealed (enc n ++ r.take n) = record (r.take n) := by unfold record; rw [htl]
    rw [hrec]
    by_cases h2 : n + 4 ≤ r.length
    · rw [if_pos h2]
      cases hp : s.isPrefixOf (record (r.take n)) with
      | false => rfl
      | true =>
        have hpre := List.isPrefixOf_iff_prefix.1 hp
        have hlen := hpre.length_le
        rw [record_length, htl] at hlen
        have hq : s = record (r.take n) := hpre.eq_of_length (by rw [record_length, htl]; omega)
        have := first_record (t := r.take n) (by omega) []
        rw [List.append_nil, ← hq, h] at this
        cases this
    · rw [if_neg h2]
      by_cases h4 : r.length ≤ n
      · rw [if_pos h4]
        have hr : r.take n = r := List.take_of_length_le h4
        rw [hr, List.isPrefixOf_iff_prefix]
        refine ⟨Crc.low (Crc.sum s), ?_⟩
        unfold record Crc.sealed
        rw [show r.length = n by omega, ← e]
      · rw [if_neg h4]

/-- A beginning of a record that is not the record. -/
theorem part_prefix {t : Bs} (ht : t.length ≤ 65536) {p q : Bs} (h : record t = p ++ q) (hq : q ≠ []) : first p = none ∧ (p ≠ [] → part p = true) := by
  have hq1 : 0 < q.length := by cases q with | nil => exact absurd rfl hq | cons => simp
  have hlen : p.length < (record t).length := by rw [h, List.length_append]; omega
  have hsp := record_split t []
  rw [List.append_nil, List.append_nil] at hsp
  have hfirst : first p = none := by
    cases hf : first p with
    | none => rfl
    | some x =>
      obtain ⟨u, k⟩ := x
      obtain ⟨hu, _, w, rfl⟩ := first_some hf
      have h1 := first_record ht []
      rw [List.append_nil, h, List.append_assoc, first_record hu] at h1
      obtain ⟨rfl, _⟩ := Prod.mk.inj (Option.some.inj h1)
      rw [List.length_append] at hlen
      omega
  refine ⟨hfirst, fun hp => ?_⟩
  unfold part
  cases hn : numOf p with
  | some x =>
    obtain ⟨n, r⟩ := x
    rw [lenB_num hn]
    obtain ⟨e, hle⟩ := numOf_some hn
    have h1 : numOf (record t) = some (n, r ++ q) := by rw [h, e, List.append_assoc]; exact numOf_enc hle _
    rw [hsp, numOf_enc ht] at h1
    obtain ⟨rfl, e2⟩ := Prod.mk.inj (Option.some.inj h1)
    have hl : p.length = (enc t.length).length + r.length := by rw [e, List.length_append]
    rw [record_length, hl] at hlen
    simp only [Bool.true_and]
    rw [if_neg (by omega)]
    by_cases h4 : r.length ≤ t.length
    · rw [if_pos h4]
    · rw [if_neg h4]
      have hr : r.take t.length = t := by
        have := congrArg (List.take t.length) e2
        rw [List.take_left, List.take_append_of_le_length (by omega)] at this
        exact this.symm
      rw [hr, List.isPrefixOf_iff_prefix]
      exact ⟨q, h.symm⟩
  | none =>
    simp only [Bool.and_true]
    -- the length itself is cut
    have hshort : p.length < (enc t.length).length := by
      rcases Nat.lt_or_ge p.length (enc t.length).length with h1 | h1
      · exact h1
      · exfalso
        have h2 := congrArg (List.take p.length) (h.symm.trans hsp)
        rw [List.take_left, List.take_append] at h2
        rw [List.take_of_length_le h1] at h2
        rw [h2, numOf_enc ht] at hn
        cases hn
    have hpe : p = (enc t.length).take p.length := by
      have h2 := congrArg (List.take p.length) (h.symm.trans hsp)
      rwa [List.take_left, List.take_append_of_le_length (by omega)] at h2
    have hp1 : 0 < p.length := by cases p with | nil => exact absurd rfl hp | cons => simp
    generalize hm : p.length = m at hpe hshort hp1
    clear hlen hsp hfirst hn h hp
    subst hpe
    rcases enc_cases ht with ⟨h1, e⟩ | ⟨h1, h2, e⟩ | ⟨h1, h2, e⟩ | ⟨_, e⟩
    · rw [e] at hshort; simp at hshort; omega
    · rw [e] at hshort ⊢; simp at hshort
      obtain rfl : m = 1 := by omega
      rfl
    · rw [e] at hshort ⊢; simp at hshort
      rcases (show m = 1 ∨ m = 2 by omega) with rfl | rfl
      · rfl
      · simp only [List.take_succ_cons, List.take_zero, lenB]
        rw [if_neg (by decide), if_neg (by decide), if_pos (by decide), u8_ofNat (by omega)]; simp; omega
    · rw [e] at hshort ⊢; simp at hshort
      rcases (show m = 1 ∨ m = 2 ∨ m = 3 by omega) with rfl | rfl | rfl <;> decide

/-- A row cut anywhere. -/
theorem scan_cut {l : List Bs} (h : ∀ t ∈ l, t.length ≤ 65536) {k n : Nat} (hn : n ≤ l.length) (hk : (rowB (l.take n)).length ≤ k)
    (hend : ∀ t, l[n]? = some t → k < (rowB (l.take n)).length + (record t).length) (hkl : k ≤ (rowB l).length) :
    ∃ rest, IsScan ((rowB l).take k) (l.take n) rest ∧ stB rest = (if (rowB (l.take n)).length = k then 0 else 1) := by
  have e : rowB l = rowB (l.take n) ++ rowB (l.drop n) := by rw [← rowB_append, List.take_append_drop]
  have ek : (rowB l).take k = rowB (l.take n) ++ (rowB (l.drop n)).take (k - (rowB (l.take n)).length) := by
    rw [e, List.take_append, List.take_of_length_le hk]
  have hs : ∀ t ∈ l.take n, t.length ≤ 65536 := fun t ht => h t (List.mem_of_mem_take ht)
  by_cases hkn : (rowB (l.take n)).length = k
  · rw [if_pos hkn]
    refine ⟨[], ⟨by rw [ek, hkn, Nat.sub_self, List.take_zero], hs, first_nil⟩, rfl⟩
  · rw [if_neg hkn]
    have hnl : n < l.length := by
      rcases Nat.lt_or_ge n l.length with h1 | h1
      · exact h1
      · rw [List.take_of_length_le h1] at hkn hk; omega
    obtain ⟨t, ht⟩ : ∃ t, l[n]? = some t := ⟨_, List.getElem?_eq_getElem hnl⟩
    have hlt := hend t ht
    have ht65 := h t (List.mem_of_getElem? ht)
    have e2 : rowB (l.drop n) = record t ++ rowB (l.drop (n + 1)) := by rw [drop_cons_of ht, rowB_cons]
    generalize hm : k - (rowB (l.take n)).length = m at ek
    have em : (rowB (l.drop n)).take m = (record t).take m := by rw [e2, List.take_append_of_le_length (by omega)]
    rw [em] at ek
    have hsplit : record t = (record t).take m ++ (record t).drop m := (List.take_append_drop m _).symm
    have hq : (record t).drop m ≠ [] := by
      intro h0
      have := congrArg List.length h0
      rw [List.length_drop, List.length_nil] at this
      omega
    obtain ⟨h1, h2⟩ := part_prefix ht65 hsplit hq
    have hne : (record t).take m ≠ [] := by
      intro h0
      have := congrArg List.length h0
      rw [List.length_take, List.length_nil] at this
      have := record_pos t
      omega
    refine ⟨(record t).take m, ⟨ek, hs, h1⟩, ?_⟩
    unfold stB
    rw [if_neg hne, if_pos (h2 hne)]

/-- The length as the program takes it: out of the first four bytes. -/
theorem num_window (s : Bs) : takeNum (some (s.take 4)) 65536 = (match numOf s with | some (n, r) => (n, some (r.take (4 - (enc n).length))) | none => (0, none)) := by
  cases hn : numOf s with
  | some p =>
    obtain ⟨n, r⟩ := p
    obtain ⟨rfl, hle⟩ := numOf_some hn
    rw [List.take_append, List.take_of_length_le (enc_le4 hle)]
    exact takeNum_enc hle (by omega) _
  | none =>
    have h2 : (takeNum (some (s.take 4)) 65536).2 = none := by
      cases h3 : (takeNum (some (s.take 4)) 65536).2 with
      | none => rfl
      | some r =>
        have h4 := Option.some.inj (takeNum_some h3)
        have h5 := takeNum_le (some (s.take 4)) 65536
        generalize (takeNum (some (s.take 4)) 65536).1 = n at h4 h5
        have h6 : s = enc n ++ (r ++ s.drop 4) := by rw [← List.append_assoc, ← h4, List.take_append_drop]
        rw [h6, numOf_enc h5] at hn
        cases hn
    exact Prod.ext (takeNum_fail h2) h2
end Go.Proofs.YtcioomlhdaihkaaGreatDoor.Q

namespace Go.Proofs.YtcioomlhdaihkaaGreatDoor.Q
set_option linter.unusedVariables false
set_option linter.unusedSimpArgs false
set_option maxRecDepth 100000
open Go Go.RowKit Wire

set_option maxRecDepth 100000
set_option linter.unusedVariables false
set_option linter.unusedSimpArgs false
theorem bu_info : (Tryz.prog.info? 102).map (fun i => i.size) = some 2 := by kernel_rfl
theorem bu_lies : liesAt Tryz.prog Tryz.prog.depth 102 (2 / Tryz.prog.cellsOf 102) 0 102 1 = true := by kernel_rfl
theorem bu_u8 : Tryz.prog.cellsOf 5 = 1 := by kernel_rfl

/-- The builder in block b has these bytes. -/
def BuAt (w : World) (B b : Nat) (l : Bs) : Prop := Lib.IsBuilder 102 5 B b (Lib.byteCells l) w
theorem BuAt.at {w : World} {B b : Nat} {l : Bs} (h : BuAt w B b l) : ∃ p, Lib.BuilderAt 102 5 B b p (Lib.byteCells l) w := h.elim (fun h => ⟨_, h⟩) (fun h => ⟨_, h⟩)
theorem BuAt.lt {w : World} {B b : Nat} {l : Bs} (h : BuAt w B b l) : b < w.heap.size := by obtain ⟨p, h⟩ := h.at; exact h.lt
theorem bu_below {w w' : World} {B b : Nat} {p : Value} {bs : List Value} (h : Lib.BuilderAt 102 5 B b p bs w) (hb : Below w.heap.size w w') : Lib.BuilderAt 102 5 B b p bs w' := by
  obtain ⟨hB, v, hg, ho, hne⟩ := h
  refine ⟨hB, v, (hb.block b (lt_of_some hg)).trans hg, ⟨ho.1, ?_⟩, hne⟩
  rcases ho.2 with hn | ⟨g', cap, cur, rfl, hB', hgg, rest⟩
  · exact .inl hn
  · exact .inr ⟨g', cap, cur, rfl, hB', (hb.block g' (lt_of_some hgg)).trans hgg, rest⟩
theorem BuAt.below {w w' : World} {B b : Nat} {l : Bs} (h : BuAt w B b l) (hb : Below w.heap.size w w') : BuAt w' B b l := h.elim (fun h => .inl (bu_below h hb)) (fun h => .inr (bu_below h hb))
theorem BuAt.new (w : World) : BuAt (w.alloc (.cells #[.pointer none, .slice none 0 0] 102)) w.heap.size w.heap.size [] :=
  .inl ⟨Nat.le_refl _, .slice none 0 0, heap_alloc_last _ _, World.ownsRow_nil _ _ _ _, by simp [Value.ownBlock]⟩
theorem BuAt.mono {w : World} {B B' b : Nat} {l : Bs} (h : BuAt w B b l) (hB : B' ≤ B) : BuAt w B' b l := by
  have key : ∀ p, Lib.BuilderAt 102 5 B b p (Lib.byteCells l) w → Lib.BuilderAt 102 5 B' b p (Lib.byteCells l) w := by
    rintro p ⟨h0, v, hg, ho, hne⟩
    refine ⟨by omega, v, hg, ⟨ho.1, ?_⟩, hne⟩
    rcases ho.2 with hn | ⟨g', cap, cur, rfl, hB', rest⟩
    · exact .inl hn
    · exact .inr ⟨g', cap, cur, rfl, by omega, rest⟩
  exact h.elim (fun h => .inl (key _ h)) (fun h => .inr (key _ h))

set_option maxHeartbeats 1000000 in
theorem bu_check_used (b : Nat) (w : World) (h0 : w.cell? ⟨b, 0, none⟩ = some (.pointer (some ⟨b, 0, none⟩))) :
    Calls Tryz.prog 98 #[.pointer (some ⟨b, 0, none⟩)] w fun e w' => e = .returned (.tuple #[]) ∧ w' = w := by
  obtain ⟨j, hj, _⟩ := Option.map_eq_some_iff.1 bu_info
  go_enter Tryz.func98, Tryz.ntmps98
  go_wp2
  rw [Lib.run_neq_ptr_same w _ Tryz.underlying100 hj]
  go_wp2
  go_end0
  exact ⟨rfl, rfl⟩

set_option maxHeartbeats 1000000 in
theorem bu_check_fresh (b : Nat) (w : World) (h0 : w.cell? ⟨b, 0, none⟩ = some (.pointer none)) (hsh : w.shape? b = some (102, 2)) (hfz : w.frozen? ⟨b, 0, none⟩ = false) :
    Calls Tryz.prog 98 #[.pointer (some ⟨b, 0, none⟩)] w fun e w' => e = .returned (.tuple #[]) ∧ w' = w.setCell ⟨b, 0, none⟩ (.pointer (some ⟨b, 0, none⟩)) := by
  obtain ⟨j, hj, hjs⟩ := Option.map_eq_some_iff.1 bu_info
  have e1 : (convert 100 157 (.pointer (some ⟨b, 0, none⟩))).run Tryz.prog w = .ok (.pointer (some ⟨b, 0, none⟩)) w :=
    Lib.run_to_unsafe w ⟨b, 0, none⟩ Tryz.underlying100 Tryz.underlying157 hj (by rw [hjs]; decide) hsh (Nat.zero_lt_succ 1)
  have e2 : (convert 157 100 (.pointer (some ⟨b, 0, none⟩))).run Tryz.prog w = .ok (.pointer (some ⟨b, 0, none⟩)) w :=
    Lib.run_from_unsafe w ⟨b, 0, none⟩ Tryz.underlying157 Tryz.underlying100 hj hsh bu_lies
  have e3 : (callFunc 126 #[.pointer (some ⟨b, 0, none⟩)]).run Tryz.prog w = .ok (.value (.pointer (some ⟨b, 0, none⟩))) w := by
    rw [run_callFunc_extern Tryz.func126 (by kernel_rfl) (by kernel_rfl) (by kernel_rfl) (e := Extern.AbiNoEscape.same) (by kernel_rfl), Lib.run_noEscape]
    rfl
  go_enter Tryz.func98, Tryz.ntmps98
  go_wp2
  go_end0
  exact ⟨rfl, rfl⟩

theorem bu_check (B b : Nat) (l : Bs) (w : World) (h : BuAt w B b l) :
    Calls Tryz.prog 98 #[.pointer (some ⟨b, 0, none⟩)] w fun e w' => e = .returned (.tuple #[]) ∧ Lib.BuilderAt 102 5 B b (.pointer (some ⟨b, 0, none⟩)) (Lib.byteCells l) w' ∧ Below B w w' := by
  rcases h with h | h
  · refine (bu_check_fresh b w h.cell0 h.shape h.frozen0).mono ?_
    rintro e w' ⟨rfl, rfl⟩
    exact ⟨rfl, h.used _, (Below.refl B w).setCell (p := ⟨b, 0, none⟩) h.1 _⟩
  · refine (bu_check_used b w h.cell0).mono ?_
    rintro e w' ⟨rfl, rfl⟩
    exact ⟨rfl, h, Below.refl B _⟩

set_option maxHeartbeats 1000000 in
theorem bu_WriteString (B b : Nat) (l m : Bs) (w : World) (h : BuAt w B b l) (hB : B ≤ w.heap.size) (hl : l.length ≤ 1000000) (hm : m.length ≤ 1000000) :
    Calls Tryz.prog 74 #[.pointer (some ⟨b, 0, none⟩), .string (ba m)] w fun e w' => e = .returned (.tuple #[.int .i64 (m.length : Nat), .nilIface]) ∧ BuAt w' B b (l ++ m) ∧ Below B w w' := by
  have hcheck := bu_check B b l w h
  obtain ⟨i0, hi, hz0, hz1, hz2⟩ := info_parts u8w_info
  have hms : (ba m).size = m.length := ba_size m
  go_enter Tryz.func74, Tryz.ntmps74
  go_wp2_with (first
    | (go_at_call 98; refine hcheck.mono ?_; rintro e w1 ⟨rfl, h1, hb1⟩; obtain ⟨hBb, v, hbk, hown, hne⟩ := h1; have c1 : w1.cell? ⟨b, 1, none⟩ = some v := (cell_of_heap hbk).trans rfl; rw [show (Lib.byteCells l).length = l.length from Lib.byteCells_length l] at hown; have HBK := hid hbk; clear hbk)
    | (at_builtin; refine Lib.wpList_append_own_string _ rfl _ _ 83 9 rfl B 5 i0 Tryz.underlying83 Tryz.underlying9 hi hz0 hz1 hz2 v l.length (Lib.byteCells l) rfl hown (ba m) rfl (by rw [hms]; unfold maxLen; omega) (by rw [hms]; omega) (Nat.le_trans hB hb1.size) ?_; intro v' w2 hown' hgr hnil; obtain ⟨q, c', rfl⟩ := owner_form hown'; have hg2 := grown_heap hown HBK.out (by decide) (Below.refl _ _) hgr; have hc2 : w2.cell? ⟨b, 1, none⟩ = some v := (cell_of_heap hg2).trans rfl; have hf2 : w2.frozen? ⟨b, 1, none⟩ = false := free_of_heap hg2; have HG2 := hid hg2; clear hg2 hnil))
  go_ret2
  refine ⟨rfl, .inr ?_, ?_⟩
  · refine Lib.BuilderAt.put hBb HG2.out ?_ (by decide)
    rw [← byteCells_append, List.length_append, Lib.byteCells_length, Lib.byteCells_length, ← hms]
    rw [show Lib.byteCells m = Lib.strCells (ba m) by rw [Lib.strCells_eq, ba_list]]
    exact hown'
  · exact (hb1.grown hgr (Nat.le_trans hB hb1.size) (fun k hk => (hown.lt k hk).1)).setCell (p := ⟨b, 1, none⟩) hBb _

set_option maxHeartbeats 1000000 in
theorem bu_String_some (B b : Nat) (l : Bs) (w : World) (h : BuAt w B b l) (h0 : l ≠ []) :
    Calls Tryz.prog 77 #[.pointer (some ⟨b, 0, none⟩)] w fun e w' => e = .returned (.string (ba l)) ∧ Below B w w' := by
  obtain ⟨p, hB, v, hbk, hown, hne⟩ := h.at
  clear h
  have hl0 : l.length ≠ 0 := by simpa using h0
  rw [Lib.byteCells_length] at hown
  obtain ⟨g, cap, cur, rfl, hbg, hg, hnc, hcm, hcs, htake⟩ : ∃ g cap cur, v = .slice (some ⟨g, 0, none⟩) l.length cap ∧ B ≤ g ∧ w.heap[g]? = some (.cells cur 5 (0, 0)) ∧ l.length ≤ cap ∧ cap ≤ maxLen ∧ cur.size = cap * 1 ∧ cur.toList.take (l.length * 1) = Lib.byteCells l := by
    rcases hown.2 with ⟨_, hz⟩ | ⟨g, cap, cur, hv, r⟩
    · exact absurd hz hl0
    · exact ⟨g, cap, cur, hv, r⟩
  have c1 : w.drew.cell? ⟨b, 1, none⟩ = some (.slice (some ⟨g, 0, none⟩) l.length cap) := by
    have : w.drew.heap[b]? = some (.cells #[p, .slice (some ⟨g, 0, none⟩) l.length cap] 102 (0, 0)) := hbk
    exact (cell_of_heap this).trans rfl
  have hSD : (Builtin.unsafeSliceData_ #[83] 114 #[.slice (some ⟨g, 0, none⟩) l.length cap]).run Tryz.prog w.drew = .ok (.pointer (some ⟨g, 0, none⟩)) w.drew :=
    Lib.run_unsafeSliceData_row _ _ _ _ _ _ (by omega)
  have hUS : (Builtin.unsafeString_ #[114, 3] 9 #[.pointer (some ⟨g, 0, none⟩), .int .i64 l.length]).run Tryz.prog w.drew = .ok (.string (ba l)) (w.drew.freeze ⟨g, 0, none⟩ l.length) := by
    refine Lib.run_unsafeString_row w.drew 114 3 9 5 Tryz.underlying114 bu_u8 g cur.size (by have hg' : w.drew.heap[g]? = some (.cells cur 5 (0, 0)) := hg; simp [World.shape?, hg']) l h0 (by omega) (by unfold maxLen at hcm; omega) ?_
    intro j x hx
    exact hown.cells (g := g) rfl j (.int .u8 x.toNat) (by simp [Lib.byteCells, hx])
  have HH := hid hbk
  have HO := hid hown
  clear hbk hown htake hcs hg
  go_enter Tryz.func77, Tryz.ntmps77
  go_wp2
  go_region
  all_goals (go_wp2; go_ret; exact ⟨rfl, Lib.below_freeze (Below.drew (Below.refl B w)) (p := ⟨g, 0, none⟩) hbg _⟩)

end Go.Proofs.YtcioomlhdaihkaaGreatDoor.Q
