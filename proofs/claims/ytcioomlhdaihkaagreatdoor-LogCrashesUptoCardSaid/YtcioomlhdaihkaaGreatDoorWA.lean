/-
  Logs: plain mathematics of numerals, heads and segments' names.
-/
import Derived.Test.YtcioomlhdaihkaaGreatDoorRL
import Derived.Test.YtcioomlhdaihkaaGreatDoorWK4
import Derived.Test.YtcioomlhdaihkaaGreatDoorLS
import Derived.Lib.AppendIntMem
import Derived.Lib.SmallJoins
namespace Go.Proofs.YtcioomlhdaihkaaGreatDoor.L
set_option linter.unusedVariables false
set_option linter.unusedSimpArgs false
set_option maxRecDepth 100000
open Go Go.RowKit Wire

abbrev Bs := List UInt8
/-- A decimal number. -/
abbrev dec (n : Nat) : Bs := Lib.decDigits n
/-- A segment's head: is it a snapshot's? how many? -/
def hdB (snap : Bool) (n : Nat) : Bs := (if snap then 83 else 70) :: 58 :: dec n
def kindB (snap : Bool) : Bs := [if snap then 83 else 70, 58]
theorem hdB_eq (snap : Bool) (n : Nat) : hdB snap n = kindB snap ++ dec n := rfl
/-- The name of a segment whose number is below 100. -/
def nm (k : Nat) : Bs := [108, 111, 103, 46, 48, 48, 48, 48, 48, 48, UInt8.ofNat (48 + k / 10), UInt8.ofNat (48 + k % 10)]
def draft : Bs := [108, 111, 103, 46, 110, 101, 119]

/-! ### numerals are read as they are written -/
theorem parse_append (M : Nat) : ∀ (a b : Bs) (acc u : Nat), Lib.parseUintM M acc a = .ok u → Lib.parseUintM M acc (a ++ b) = Lib.parseUintM M u b
  | [], b, acc, u, h => by simp [Lib.parseUintM] at h; subst h; rfl
  | c :: r, b, acc, u, h => by
    rw [List.cons_append, Lib.parseUintM]
    rw [Lib.parseUintM] at h
    split at h
    · rename_i h1
      rw [if_pos h1]
      split at h
      · cases h
      · rename_i h2
        rw [if_neg h2]
        split at h
        · cases h
        · rename_i h3
          rw [if_neg h3]
          exact parse_append M r b _ u h
    · cases h
theorem dig_toNat {d : Nat} (h : d < 10) : (UInt8.ofNat (48 + d)).toNat = 48 + d := u8_ofNat (by omega)
theorem parse_dig {M acc d : Nat} (hd : d < 10) (h1 : acc < 1844674407370955162) (h2 : acc * 10 + d ≤ M) : Lib.parseUintM M acc [UInt8.ofNat (48 + d)] = .ok (acc * 10 + d) := by
  rw [Lib.parseUintM, dig_toNat hd, if_pos (by omega), if_neg (by omega), if_neg (by omega)]
  simp [Lib.parseUintM]
theorem parse_dec (M : Nat) : ∀ (n : Nat), n ≤ M → n < 18446744073709551616 → Lib.parseUintM M 0 (dec n) = .ok n := by
  intro n
  induction n using Nat.strongRecOn with
  | ind n ih =>
    intro h1 h2
    unfold dec
    rw [Lib.decDigits]
    split
    · rename_i h
      rw [parse_dig h (by omega) (by omega)]
      simp
    · rw [parse_append M _ _ _ (n / 10) (ih (n / 10) (by omega) (by omega) (by omega)), parse_dig (by omega) (by omega) (by omega)]
      congr 1
      omega
theorem dec_ne (n : Nat) : dec n ≠ [] := by
  unfold dec
  rw [Lib.decDigits]
  split <;> simp
theorem parse_num {n : Nat} (h : n < 18446744073709551616) : Lib.parseUintB 64 (dec n) = .ok n := by
  unfold Lib.parseUintB
  rw [if_neg (dec_ne n)]
  exact parse_dec _ n (by omega) h
theorem dec_inj {a b : Nat} (ha : a < 18446744073709551616) (hb : b < 18446744073709551616) (h : dec a = dec b) : a = b := by
  have h1 := parse_num ha
  rw [h, parse_num hb] at h1
  injection h1 with h1
  exact h1.symm
theorem hdB_inj {a b : Nat} {s t : Bool} (ha : a < 18446744073709551616) (hb : b < 18446744073709551616) (h : hdB s a = hdB t b) : s = t ∧ a = b := by
  unfold hdB at h
  injection h with h1 h2
  injection h2 with _ h3
  refine ⟨?_, dec_inj ha hb h3⟩
  cases s <;> cases t <;> first | rfl | (exact absurd h1 (by decide))
theorem dec_len (n : Nat) (h : n < 10000000000) : 1 ≤ (dec n).length ∧ (dec n).length ≤ 10 := by
  have h0 : 1 ≤ (dec n).length := by have := dec_ne n; cases hd : dec n with | nil => exact absurd hd this | cons => simp
  refine ⟨h0, ?_⟩
  have hk : ∀ k m : Nat, m < 10 ^ (k + 1) → (Lib.decDigits m).length ≤ k + 1 := by
    intro k
    induction k with
    | zero => intro m hm; rw [Lib.decDigits, dif_pos (by omega)]; simp
    | succ k ih =>
      intro m hm
      rw [Lib.decDigits]
      split
      · simp
      · rw [List.length_append]
        have := ih (m / 10) (by rw [Nat.pow_succ] at hm; omega)
        simp
        omega
  exact hk 9 n (by omega)
theorem hdB_len (s : Bool) (n : Nat) (h : n < 10000000000) : 3 ≤ (hdB s n).length ∧ (hdB s n).length ≤ 12 := by
  have := dec_len n h
  simp only [hdB, List.length_cons]
  omega

/-! ### names -/
theorem nm_fin : ∀ k : Fin 100, (nm k.val).length = 12 ∧ Lib.trimPrefix (nm k.val) [108, 111, 103, 46] = [48, 48, 48, 48, 48, 48, UInt8.ofNat (48 + k.val / 10), UInt8.ofNat (48 + k.val % 10)] ∧ Lib.hasPrefix (nm k.val) [108, 111, 103, 46] = true ∧
    Lib.trimS [48, 48, 48, 48, 48, 48, UInt8.ofNat (48 + k.val / 10), UInt8.ofNat (48 + k.val % 10)] [48, 49, 50, 51, 52, 53, 54, 55, 56, 57] = [] := by decide +kernel
theorem p10_step {c : UInt8} {acc : Nat} {r : Bs} (h1 : 48 ≤ c.toNat) (h2 : c.toNat ≤ 57) (h3 : acc < 1000000) : Lib.parseUint10 acc (c :: r) = Lib.parseUint10 (acc * 10 + (c.toNat - 48)) r := by
  rw [Lib.parseUint10, if_pos ⟨h1, h2⟩, if_neg (by omega), if_neg (by omega)]
theorem p10_zero {r : Bs} : Lib.parseUint10 0 (48 :: r) = Lib.parseUint10 0 r := by
  rw [p10_step (by decide) (by decide) (by decide)]; rfl
theorem nm_mag (a b : Nat) (ha : a < 10) (hb : b < 10) : Lib.parseMag [48, 48, 48, 48, 48, 48, UInt8.ofNat (48 + a), UInt8.ofNat (48 + b)] = .ok (a * 10 + b) := by
  unfold Lib.parseMag
  rw [if_neg (by simp), p10_zero, p10_zero, p10_zero, p10_zero, p10_zero, p10_zero, p10_step (by rw [dig_toNat ha]; omega) (by rw [dig_toNat ha]; omega) (by omega), p10_step (by rw [dig_toNat hb]; omega) (by rw [dig_toNat hb]; omega) (by rw [dig_toNat ha]; omega), dig_toNat ha, dig_toNat hb, Lib.parseUint10]
  congr 1
  omega
theorem nm_atoi (k : Nat) (h : k < 100) : Lib.atoiAll [48, 48, 48, 48, 48, 48, UInt8.ofNat (48 + k / 10), UInt8.ofNat (48 + k % 10)] = .ok (k : Int) := by
  have hp := nm_mag (k / 10) (k % 10) (by omega) (by omega)
  unfold Lib.atoiAll
  simp only
  rw [if_neg (by decide), hp, show k / 10 * 10 + k % 10 = k by omega]
  simp only
  rw [if_neg (by omega), if_neg (fun h => absurd h.1 (by decide)), if_neg (by decide)]
theorem nm_lt : ∀ j k : Fin 100, j.val < k.val → nm j.val < nm k.val := by decide +kernel
theorem nm_draft : ∀ k : Fin 100, nm k.val < draft := by decide +kernel
theorem nm_inj {j k : Nat} (hj : j < 100) (hk : k < 100) (h : nm j = nm k) : j = k := by
  rcases Nat.lt_trichotomy j k with h1 | h1 | h1
  · have := nm_lt ⟨j, hj⟩ ⟨k, hk⟩ h1; simp only at this; rw [h] at this; exact absurd this (K.lt_irrefl _)
  · exact h1
  · have := nm_lt ⟨k, hk⟩ ⟨j, hj⟩ h1; simp only at this; rw [h] at this; exact absurd this (K.lt_irrefl _)
theorem nm_pad {k : Nat} (h1 : 1 ≤ k) (h : k < 100) : [108, 111, 103, 46] ++ Lib.repeatL [48] (8 - (dec k).length) ++ dec k = nm k := by
  by_cases h9 : k < 10
  · have e : dec k = [UInt8.ofNat (48 + k)] := Lib.decDigits_one h9
    rw [e]
    simp [Lib.repeatL, nm, Nat.div_eq_of_lt h9, Nat.mod_eq_of_lt h9]
  · have e : dec k = [UInt8.ofNat (48 + k / 10), UInt8.ofNat (48 + k % 10)] := Lib.decDigits_two h9 h
    rw [e]
    simp [Lib.repeatL, nm]
theorem nm_dec_len {k : Nat} (h : k < 100) : 1 ≤ (dec k).length ∧ (dec k).length ≤ 2 := by
  by_cases h9 : k < 10
  · rw [show dec k = [UInt8.ofNat (48 + k)] from Lib.decDigits_one h9]; simp
  · rw [show dec k = [UInt8.ofNat (48 + k / 10), UInt8.ofNat (48 + k % 10)] from Lib.decDigits_two h9 h]; simp
end Go.Proofs.YtcioomlhdaihkaaGreatDoor.L

namespace Go.Proofs.YtcioomlhdaihkaaGreatDoor.L
set_option linter.unusedVariables false
set_option linter.unusedSimpArgs false
set_option maxRecDepth 100000
open Go Go.RowKit Wire

/-- The table of powers of ten lies as the library's text lays it. -/
def Tab (w : World) : Prop := Lib.TabIs Tryz.prog w "internal/strconv.uint64pow10" .u64 Lib.pow10Tab
theorem tab_named : ∃ g, Tryz.prog.globalNamed "internal/strconv.uint64pow10" = some g := ⟨2, by kernel_rfl⟩
theorem Tab.keep {w w' : World} {B : Nat} (h : Tab w) (hb : Below B w w') (hB : w.heap.size ≤ B) : Tab w' := by
  obtain ⟨g, hg⟩ := tab_named
  exact Joins.tab_stays hg h hb hB
theorem Tab.below {w w' : World} (h : Tab w) (hb : Below w.heap.size w w') : Tab w' := h.keep hb (Nat.le_refl _)

theorem go_Itoa (n : Nat) (h : n ≤ 1000000000) (w : World) (ht : Tab w) :
    Calls Tryz.prog 78 #[.int .i64 (n : Nat)] w fun e w' => e = .returned (.string (ba (dec n))) ∧ Below w.heap.size w w' := by
  have hc := Go.Proofs.Any.strconv_Itoa itoaS (n : Int) (by omega) (by omega) w ht
  rw [Lib.itoa_nonneg] at hc
  change Calls Tryz.prog 78 _ _ _ at hc
  refine hc.mono ?_
  rintro e w' ⟨rfl, k, os, rfl⟩
  exact ⟨rfl, Lib.below_grow _ _ (Nat.le_refl _) _ _⟩
theorem go_Itoa_small (n : Nat) (h : n < 100) (w : World) :
    Calls Tryz.prog 78 #[.int .i64 (n : Nat)] w fun e w' => e = .returned (.string (ba (dec n))) ∧ w = w' := by
  have hc := Go.Proofs.Any.strconv_Itoa_small itoaSmallS n h w
  change Calls Tryz.prog 78 _ _ _ at hc
  exact hc.mono (fun e w' ⟨h1, h2⟩ => ⟨h1, h2.symm⟩)
theorem go_small (n : Nat) (h : n < 100) (w : World) :
    Calls Tryz.prog 152 #[.int .i64 (n : Nat)] w fun e w' => e = .returned (.string (ba (dec n))) ∧ w = w' := by
  have hc := Go.Proofs.Any.internal_strconv_small smallS n h w
  change Calls Tryz.prog 152 _ _ _ at hc
  exact hc.mono (fun e w' ⟨h1, h2⟩ => ⟨h1, h2.symm⟩)
theorem go_numDigits (u : Nat) (h1 : 1 ≤ u) (h2 : u < 18446744073709551616) (w : World) (ht : Tab w) :
    Calls Tryz.prog 153 #[.int .u64 (u : Nat)] w fun e w' => e = .returned (.int .i64 (Lib.nDigits u : Nat)) ∧ w' = w := by
  have hc := Go.Proofs.Any.internal_strconv_numDigits numDigitsS u h1 h2 w ht
  change Calls Tryz.prog 153 _ _ _ at hc
  exact hc
theorem go_CutPrefix (s p : Bs) (w : World) :
    Calls Tryz.prog 84 #[.string (ba s), .string (ba p)] w fun e w' => e = .returned (.tuple #[.string (ba (Lib.trimPrefix s p)), .bool (Lib.hasPrefix s p)]) ∧ w = w' := by
  have hc := Go.Proofs.Any.strings_CutPrefix cutPrefixS (ba s) (ba p) w
  rw [ba_list, ba_list] at hc
  change Calls Tryz.prog 84 _ _ _ at hc
  exact hc.mono (fun e w' ⟨h1, h2⟩ => ⟨h1, h2.symm⟩)
theorem go_Trim (s cs : Bs) (hs : s.length ≤ 1000000) (hc0 : cs.length ≤ 1000000) (ha : cs.all (fun b => decide (b.toNat < 128)) = true) (w : World) :
    Calls Tryz.prog 85 #[.string (ba s), .string (ba cs)] w fun e w' => e = .returned (.string (ba (Lib.trimS s cs))) ∧ Below w.heap.size w w' := by
  have hc := Go.Proofs.Any.strings_Trim_laid trimS (by kernel_rfl) (ba s) (ba cs) w (by rw [ba_size]; omega) (by rw [ba_size]; omega) (by rw [ba_list]; exact Go.Proofs.ascii_of_all ha)
  rw [ba_list, ba_list] at hc
  change Calls Tryz.prog 85 _ _ _ at hc
  exact hc
theorem go_Atoi (s : Bs) (hs : s.length ≤ 1000000) (v : Int) (h : Lib.atoiAll s = .ok v) (w : World) :
    Calls Tryz.prog 86 #[.string (ba s)] w fun e w' => e = .returned (.tuple #[.int .i64 v, .nilIface]) ∧ Below w.heap.size w w' := by
  have hc := Go.Proofs.Any.strconv_Atoi_ok atoiS (ba s) (by rw [ba_size]; omega) v (by rw [ba_list]; exact h) w
  change Calls Tryz.prog 86 _ _ _ at hc
  refine hc.mono ?_
  rintro e w' ⟨rfl, rfl | ⟨t, rfl⟩⟩
  · exact ⟨rfl, Below.refl _ _⟩
  · exact ⟨rfl, Joins.below_bytesWorld _ _ _ _ (Nat.le_refl _)⟩
theorem go_ParseUint (n : Nat) (h : n < 18446744073709551616) (hl : (dec n).length ≤ 1000) (w : World) :
    Calls Tryz.prog 123 #[.string (ba (dec n)), .int .i64 10, .int .i64 64] w fun e w' => e = .returned (.tuple #[.int .u64 (n : Nat), .nilIface]) ∧ Below w.heap.size w w' := by
  have hc := Go.Proofs.Any.strconv_ParseUint_10_at64_ok parseUintS (ba (dec n)) (by rw [ba_size]; omega) n (by rw [ba_list]; exact parse_num h) w
  change Calls Tryz.prog 123 _ _ _ at hc
  refine hc.mono ?_
  rintro e w' ⟨rfl, rfl | rfl⟩
  · exact ⟨rfl, Below.refl _ _⟩
  · exact ⟨rfl, Joins.below_bytesWorld _ _ _ _ (Nat.le_refl _)⟩
theorem go_Repeat (s : Bs) (c : Nat) (h2 : 2 ≤ c) (hc0 : c ≤ 1000) (h0 : 0 < s.length) (hs : s.length ≤ 1000) (w : World) :
    Calls Tryz.prog 87 #[.string (ba s), .int .i64 (c : Nat)] w fun e w' => e = .returned (.string (ba (Lib.repeatL s c))) ∧ Below w.heap.size w w' := by
  have hm : s.length * c ≤ 1000 * 1000 := Nat.mul_le_mul hs hc0
  have hc := Go.Proofs.Any.strings_Repeat_main repeatS repeatX (ba s) c w h2 (by omega) (by rw [ba_size]; omega) (by rw [ba_size]; exact h0)
  rw [ba_list] at hc
  change Calls Tryz.prog 87 _ _ _ at hc
  exact hc

/-! ### FormatUint -/
set_option maxHeartbeats 1000000 in
theorem go_FormatUint_in (u : Nat) (hu : u < 10000000000) (w : World) (ht : Tab w) :
    Calls Tryz.prog 149 #[.int .u64 (u : Nat), .int .i64 10] w fun e w' => e = .returned (.string (ba (dec u))) ∧ Below w.heap.size w w' := by
  by_cases hs : u < 100
  · go_enter Tryz.func149, Tryz.ntmps149
    go_wp2_with (go_at_call 152; refine (go_small u hs _).mono ?_; rintro e w' ⟨rfl, rfl⟩)
    go_ret
    exact ⟨rfl, Below.refl _ _⟩
  · have hu1 : 1 ≤ u := by omega
    have hu64 : u < 18446744073709551616 := by omega
    have hnd20 : Lib.nDigits u ≤ 20 := by have := Lib.numDigits_eq u hu1 hu64; split at this <;> omega
    have hb3 : Lib.nDigits u ≤ 24 := by omega
    have hal : Tryz.prog.arrayLen 185 = 24 := by simp [Program.arrayLen, Tryz.underlying185]
    have hsl1 : ∀ W, (Instr.sliceAt 185 (.pointer (some ⟨w.heap.size, 0, none⟩)) none (some (.int .i64 (Lib.nDigits u : Int))) none).run Tryz.prog W = .ok (.slice (some ⟨w.heap.size, 0, none⟩) (Lib.nDigits u) 24) W := fun W => by
      rw [run_sliceAt_array_h W 185 ⟨w.heap.size, 0, none⟩ (by simp [Program.arrayLen, Program.elem, Tryz.underlying185]) .i64 (Lib.nDigits u : Int) (by omega) (by rw [hal]; omega)]
      go_simp
    have hH0 : Sort.Holds (fun (b : UInt8) => Value.int .u8 (b.toNat : Int)) (w.alloc (.cells Lib.zeros24 185)) w.heap.size 0 (Array.replicate (Lib.nDigits u) 0) := fun j hj => by
      have hj' : j < Lib.nDigits u := by simpa using hj
      refine ⟨?_, World.frozen?_alloc_new _ _ _ _⟩
      rw [World.cell?_alloc_new, Lib.zeros24_at _ (by omega), getElem!_pos _ j hj]
      simp
    have hfmt := Go.Proofs.Any.internal_strconv_formatBase10 formatS w.heap.size 0 24 u (Array.replicate (Lib.nDigits u) 0) (w.alloc (.cells Lib.zeros24 185)) hH0 (by rw [Array.size_replicate]; exact Lib.lt_pow_nDigits u) hu64 (by rw [Array.size_replicate]; omega)
    rw [Array.size_replicate] at hfmt
    change Calls Tryz.prog 154 _ _ _ at hfmt
    have HH0 := hid hH0
    clear hH0 hal
    go_enter Tryz.func149, Tryz.ntmps149
    go_wp2_with (first
      | (go_at_call 153; refine (go_numDigits u hu1 hu64 _ (Lib.tabIs_alloc ht _)).mono ?_; rintro e w' ⟨rfl, rfl⟩))
    go_at_call 154
    refine hfmt.mono ?_
    rintro e w' ⟨rfl, k, v', dk, rfl, hF⟩
    have hcv : (convert 83 9 (.slice (some ⟨w.heap.size, 0, none⟩) (Lib.nDigits u) 24)).run Tryz.prog ((Sort.putRow (fun (b : UInt8) => Value.int .u8 (b.toNat : Int)) (w.alloc (.cells Lib.zeros24 185)) w.heap.size 0 dk).drewN k) = .ok (.string (ba (dec u))) ((Sort.putRow (fun (b : UInt8) => Value.int .u8 (b.toNat : Int)) (w.alloc (.cells Lib.zeros24 185)) w.heap.size 0 dk).drewN k) := by
      have h := run_convert_bytes_back (P := Tryz.prog) ((Sort.putRow (fun (b : UInt8) => Value.int .u8 (b.toNat : Int)) (w.alloc (.cells Lib.zeros24 185)) w.heap.size 0 dk).drewN k) 83 9 5 ⟨w.heap.size, 0, none⟩ 24 (Lib.decDigits u) Tryz.underlying83 Tryz.underlying5 Tryz.underlying9 (fun j hj => by
        rw [Lib.row_is_numeral hF j hj, Lib.add_plain, World.cell?_drewN]
        exact Sort.cell?_putRow (fun (b : UInt8) => Value.int .u8 (b.toNat : Int)) _ w.heap.size 0 _ dk HH0.out (by rw [hF.size, Array.size_replicate]) j (by rw [hF.size]; rw [Lib.decDigits_length] at hj; exact hj))
      rw [Lib.decDigits_length] at h
      exact h
    go_wp2
    go_ret
    refine ⟨rfl, ?_⟩
    rw [Sort.alloc_eq_grow]
    obtain ⟨os', _, e⟩ := Sort.putRow_grow_new (fun (b : UInt8) => Value.int .u8 (b.toNat : Int)) w #[.cells Lib.zeros24 185] w.heap.size 0 dk (Nat.le_refl _)
    rw [e]
    exact Lib.below_grow _ w (Nat.le_refl _) k os'
theorem go_FormatUint (u : Nat) (hu : u < 10000000000) (w : World) (ht : Tab w) :
    Calls Tryz.prog 124 #[.int .u64 (u : Nat), .int .i64 10] w fun e w' => e = .returned (.string (ba (dec u))) ∧ Below w.heap.size w w' := by
  have h := go_FormatUint_in u hu w ht
  go_enter Tryz.func124, Tryz.ntmps124
  go_wp2_with (go_at_call 149; refine h.mono ?_; rintro e w' ⟨rfl, hb⟩)
  go_ret
  exact ⟨rfl, hb⟩

/-! ### heads -/
theorem log_headOf (s : Bool) (n : Nat) (h : n ≤ 1000000000) (w : World) (ht : Tab w) :
    Calls Tryz.prog 50 #[.string (ba (kindB s)), .int .i64 (n : Nat)] w fun e w' => e = .returned (.string (ba (hdB s n))) ∧ Below w.heap.size w w' := by
  have hi := go_Itoa n h w ht
  have ha := ba_append (kindB s) (dec n)
  rw [← hdB_eq] at ha
  have hys : (ba (kindB s)).size = 2 := by rw [ba_size]; rfl
  have hzs : (ba (dec n)).size = (dec n).length := ba_size _
  have hzl := (dec_len n (by omega)).2
  generalize ba (hdB s n) = x at *
  generalize ba (kindB s) = y at *
  generalize ba (dec n) = z at *
  go_enter Tryz.func50, Tryz.ntmps50
  go_wp2_with (go_at_call 78; refine hi.mono ?_; rintro e w' ⟨rfl, hb⟩)
  go_ret
  exact ⟨by first | rfl | (rw [ha]), hb⟩
end Go.Proofs.YtcioomlhdaihkaaGreatDoor.L

namespace Go.Proofs.YtcioomlhdaihkaaGreatDoor.L
set_option linter.unusedVariables false
set_option linter.unusedSimpArgs false
set_option maxRecDepth 100000
open Go Go.RowKit Wire

theorem log_nameOf (k : Nat) (h1 : 1 ≤ k) (h : k < 100) (w : World) :
    Calls Tryz.prog 59 #[.int .i64 (k : Nat)] w fun e w' => e = .returned (.string (ba (nm k))) ∧ Below w.heap.size w w' := by
  have hi := go_Itoa_small k h w
  have hl := nm_dec_len h
  have hr := go_Repeat [48] (8 - (dec k).length) (by omega) (by omega) (by decide) (by decide) w
  have ha : ba [108, 111, 103, 46] ++ ba (Lib.repeatL [48] (8 - (dec k).length)) ++ ba (dec k) = ba (nm k) := by rw [ba_append, ba_append, nm_pad h1 h]
  have hzs : (ba (dec k)).size = (dec k).length := ba_size _
  have hzr : (ba (Lib.repeatL [48] (8 - (dec k).length))).size = 8 - (dec k).length := by rw [ba_size, Lib.repeatL_length]; simp
  generalize hN : (dec k).length = N at *
  have h8 : (8 : Int) - (N : Int) = ((8 - N : Nat) : Int) := by omega
  generalize ba (nm k) = x at *
  generalize ba (Lib.repeatL [48] (8 - N)) = y at *
  generalize ba (dec k) = z at *
  clear hN
  have hlog : ByteArray.size (ba [108, 111, 103, 46]) = 4 := rfl
  go_enter Tryz.func59, Tryz.ntmps59
  go_wp2_with (first
    | (go_at_call 78; refine hi.mono ?_; rintro e w' ⟨rfl, rfl⟩)
    | (go_at_call 87; refine hr.mono ?_; rintro e w' ⟨rfl, hb⟩))
  go_ret
  exact ⟨by first | rfl | (rw [← ha]; rfl), hb⟩

theorem log_numberOf_nm (k : Nat) (h : k < 100) (w : World) :
    Calls Tryz.prog 58 #[.string (ba (nm k))] w fun e w' => e = .returned (.int .i64 (k : Nat)) ∧ Below w.heap.size w w' := by
  obtain ⟨n1, n2, n3, n4⟩ := nm_fin ⟨k, h⟩
  simp only at n1 n2 n3 n4
  have hc := fun W => go_CutPrefix (nm k) [108, 111, 103, 46] W
  rw [n2, n3] at hc
  have ht := fun W => go_Trim [48, 48, 48, 48, 48, 48, UInt8.ofNat (48 + k / 10), UInt8.ofNat (48 + k % 10)] [48, 49, 50, 51, 52, 53, 54, 55, 56, 57] (by simp) (by simp) (by decide) W
  rw [n4] at ht
  have ha := fun W => go_Atoi [48, 48, 48, 48, 48, 48, UInt8.ofNat (48 + k / 10), UInt8.ofNat (48 + k % 10)] (by simp) k (nm_atoi k h) W
  have hxs : (ba [48, 48, 48, 48, 48, 48, UInt8.ofNat (48 + k / 10), UInt8.ofNat (48 + k % 10)]).size = 8 := by rw [ba_size]; rfl
  generalize ba [48, 48, 48, 48, 48, 48, UInt8.ofNat (48 + k / 10), UInt8.ofNat (48 + k % 10)] = x at *
  generalize ba (nm k) = y at *
  have hls : (ba []).toList.isEmpty = true := by rw [Lib.toList_data, ba_list]; rfl
  clear n1 n2 n3 n4
  go_enter Tryz.func58, Tryz.ntmps58
  go_wp2_with (first
    | (go_at_call 84; refine (hc _).mono ?_; rintro e w' ⟨rfl, rfl⟩)
    | (go_at_call 85; refine (ht _).mono ?_; rintro e w1 ⟨rfl, hb1⟩)
    | (go_at_call 86; refine (ha _).mono ?_; rintro e w2 ⟨rfl, hb2⟩))
  go_ret
  exact ⟨rfl, below_next hb1 hb2⟩
theorem log_numberOf_draft (w : World) :
    Calls Tryz.prog 58 #[.string (ba draft)] w fun e w' => e = .returned (.int .i64 0) ∧ w = w' := by
  have hc := fun W => go_CutPrefix draft [108, 111, 103, 46] W
  rw [show Lib.trimPrefix draft [108, 111, 103, 46] = [110, 101, 119] by decide, show Lib.hasPrefix draft [108, 111, 103, 46] = true by decide] at hc
  have hxs : (ba [110, 101, 119]).size = 3 := rfl
  generalize ba [110, 101, 119] = x at *
  generalize ba draft = y at *
  go_enter Tryz.func58, Tryz.ntmps58
  go_wp2_with (go_at_call 84; refine (hc _).mono ?_; rintro e w' ⟨rfl, rfl⟩)
  go_ret
  exact ⟨rfl, rfl⟩

theorem Tab.drew {w : World} (h : Tab w) : Tab w.drew := h.below ((Below.refl _ w).drew)
theorem log_readHead (s : Bool) (n : Nat) (h : n ≤ 1000000000) (w : World) (htab : Tab w) :
    Calls Tryz.prog 95 #[.string (ba (hdB s n))] w fun e w' => e = .returned (.tuple #[.string (ba (kindB s)), .int .u64 (n : Nat), .bool true]) ∧ Below w.heap.size w w' := by
  have hl := dec_len n (by omega)
  have hl2 := hdB_len s n (by omega)
  have p1 := fun W => Q.strings_HasPrefix (hdB s n) [70, 58] (by simp) (by omega) W
  have p2 := fun W => Q.strings_HasPrefix (hdB s n) [83, 58] (by simp) (by omega) W
  have hp1 : ([70, 58] : Bs).isPrefixOf (hdB s n) = !s := by cases s <;> simp [hdB, List.isPrefixOf]
  have hp2 : ([83, 58] : Bs).isPrefixOf (hdB s n) = s := by cases s <;> simp [hdB, List.isPrefixOf]
  rw [hp1] at p1
  rw [hp2] at p2
  have hu := fun W => go_ParseUint n (by omega) (by omega) W
  have hf := fun W hW => go_FormatUint n (by omega) W hW
  have hxs : (ba (hdB s n)).size = (hdB s n).length := ba_size _
  have e1 : (ba (hdB s n)).extract 0 2 = ba (kindB s) := by rw [ba_extract_to]; rfl
  have e2 : (ba (hdB s n)).extract 2 (hdB s n).length = ba (dec n) := by rw [ba_extract_from]; rfl
  have hls : ((ba (dec n)).toList == (ba (dec n)).toList) = true := by simp
  have hcmp : decide ((9999999999 : Int) < (n : Int)) = false := by simp; omega
  generalize (hdB s n).length = N at *
  generalize ba (hdB s n) = x at *
  generalize ba (kindB s) = y at *
  generalize ba (dec n) = z at *
  clear hl hp1 hp2
  have htab1 := hid htab
  clear htab
  cases s
  · go_enter Tryz.func95, Tryz.ntmps95
    go_wp2_with (first
      | (go_at_call 113; refine (p1 _).mono ?_; rintro e w' ⟨rfl, rfl⟩))
    go_region
    go_wp2_with (first
      | (go_at_call 123; refine (hu _).mono ?_; rintro e w1 ⟨rfl, hb1⟩; have htab2 := hid (htab1.out.drew.below hb1))
      | (go_at_call 124; refine (hf _ htab2.out).mono ?_; rintro e w2 ⟨rfl, hb2⟩))
    exact bodyPost_ret (results_tmp3 rfl _ _ _) rfl ⟨rfl, ((Below.refl w.heap.size w).drew).trans (below_next hb1 hb2)⟩
  · go_enter Tryz.func95, Tryz.ntmps95
    go_wp2_with (first
      | (go_at_call 113; refine (p1 _).mono ?_; rintro e w' ⟨rfl, rfl⟩)
      | (go_at_call 113; refine (p2 _).mono ?_; rintro e w' ⟨rfl, rfl⟩))
    go_region
    go_wp2_with (first
      | (go_at_call 123; refine (hu _).mono ?_; rintro e w1 ⟨rfl, hb1⟩; have htab2 := hid (htab1.out.drew.below hb1))
      | (go_at_call 124; refine (hf _ htab2.out).mono ?_; rintro e w2 ⟨rfl, hb2⟩))
    exact bodyPost_ret (results_tmp3 rfl _ _ _) rfl ⟨rfl, ((Below.refl w.heap.size w).drew).trans (below_next hb1 hb2)⟩
end Go.Proofs.YtcioomlhdaihkaaGreatDoor.L
