/-
  Disks that are alike.
-/
import Derived.Test.YtfmigkmkdhciiaaKSy
import Derived.BigQuiet
namespace Go.Proofs.Ytfmigkmkdhciiaa.K
set_option linter.unusedVariables false
set_option linter.unusedSimpArgs false
set_option maxRecDepth 100000
open Go Go.RowKit Go.Maps Go.MapKept Go.ChangeMaps

theorem read_seen {s t : St} (h : s.seen = t.seen) (n : Str) : t.read n = s.read n := by
  unfold St.read
  rw [h]
theorem names_le {w0 w : World} {p : Nat} {s : St} {l : List (Nat × St)} {bs : List (Nat × Obj)} (h : Sys w0 w ((p, s) :: l) bs) : ∀ n ∈ names s.seen, n.length ≤ 1099511627776 := by
  obtain ⟨A, hS, k, hd⟩ := h.head
  intro n hn
  obtain ⟨x, hx, rfl⟩ := List.mem_map.1 hn
  exact hd.parts.seen.same.1 x hx
set_option maxHeartbeats 1000000 in
theorem law_alike {w0 w : World} {p q : Nat} {s t : St} {l l' : List (Nat × St)} {bs bs' : List (Nat × Obj)} (ha : Sys w0 w ((p, s) :: l) bs) (hb : Sys w0 w ((q, t) :: l') bs') (he : s.seen = t.seen) (hls : s.lim ≤ 549755813888) (hlt : t.lim ≤ 549755813888) :
    Calls Try.prog 12 #[.pointer (some ⟨p, 0, none⟩), .pointer (some ⟨q, 0, none⟩)] w fun e w' => e = .returned (.bool true) ∧ Below w.heap.size w w' := by
  have hnl := names_le ha
  obtain ⟨N, hN⟩ : ∃ N, names s.seen = N := ⟨_, rfl⟩
  have hN2 : names t.seen = N := by rw [← he]; exact hN
  have hra : ∀ {w : World}, Sys w0 w ((p, s) :: l) bs → ∀ n, n.length ≤ 1099511627776 → Calls Try.prog 13 #[.pointer (some ⟨p, 0, none⟩), strV n] w fun e w' => e = .returned (.tuple #[strV (s.read n).1, .int .i64 ((s.read n).2 : Int)]) ∧ w = w' := fun h n hn => sys_Read h n hn hls
  have hrb : ∀ {w : World}, Sys w0 w ((q, t) :: l') bs' → ∀ n, n.length ≤ 1099511627776 → Calls Try.prog 13 #[.pointer (some ⟨q, 0, none⟩), strV n] w fun e w' => e = .returned (.tuple #[strV (s.read n).1, .int .i64 ((s.read n).2 : Int)]) ∧ w = w' := fun h n hn => by
    have := sys_Read h n hn hlt
    rw [read_seen he] at this
    exact this
  have hla : Calls Try.prog 20 #[.pointer (some ⟨p, 0, none⟩)] w fun e w' => (∃ v, e = .returned v ∧ StrsAt w' v N) ∧ Below w.heap.size w w' := (sys_List ha hls).mono fun e w' ⟨⟨v, h1, h2, _⟩, h3⟩ => ⟨⟨v, h1, hN ▸ h2⟩, h3⟩
  have hlb : ∀ {w : World}, Sys w0 w ((q, t) :: l') bs' → Calls Try.prog 20 #[.pointer (some ⟨q, 0, none⟩)] w fun e w' => (∃ v, e = .returned v ∧ StrsAt w' v N) ∧ Below w.heap.size w w' := fun h => (sys_List h hlt).mono fun e w' ⟨⟨v, h1, h2, _⟩, h3⟩ => ⟨⟨v, h1, hN2 ▸ h2⟩, h3⟩
  have hNle : N.length ≤ 1099511627776 := by
    obtain ⟨A, hS, k, hd⟩ := ha.head
    have h1 : wt s.seen ≤ s.lim := hd.ok.wtSeen
    have h2 := len_le_wt s.seen
    rw [← hN, names, List.length_map]
    omega
  rw [hN] at hnl
  have HNL := Lib.hid hnl
  have HA := Lib.hid ha
  have HB := Lib.hid hb
  clear hnl hN hN2 he hls hlt ha hb
  go_enter Try.func12, Try.ntmps12
  go_wp2_with (first
    | (go_at_call 20; refine hla.mono ?_; clear hla; rintro e W1 ⟨⟨v1, rfl, hv1⟩, hB1⟩; obtain ⟨ad1, cap1, rfl, hc1⟩ := hv1.any; have HC1 := Lib.hid hc1; have HA1 := Lib.hid (HA.out.below hB1); have HB1 := Lib.hid (HB.out.below hB1); have HW1 := Lib.hid hB1; clear HA HB hB1 hc1 hv1)
    | (go_at_call 20; refine (hlb HB1.out).mono ?_; clear hlb; rintro e W2 ⟨⟨v2, rfl, hv2⟩, hB2⟩; obtain ⟨ad2, cap2, rfl, hc2⟩ := hv2.any; have HC2 := Lib.hid hc2; have HA2 := Lib.hid (HA1.out.below hB2); have HB2 := Lib.hid (HB1.out.below hB2); have HW2 := Lib.hid hB2; clear HA1 HB1 hB2 hc2 hv2))
  go_loopw [7] (fun i wr => ∃ j : Nat, j ≤ N.length ∧ i = .int .i64 j ∧ Hid (Below W2.heap.size W2 wr)) (fun i _ => N.length - (intOf i).toNat)
  case atStart => exact ⟨0, Nat.zero_le _, rfl, Lib.hid (Below.refl _ W2)⟩
  case round =>
    obtain ⟨j, hj, rfl, HR⟩ := hrel
    by_cases hlt : j < N.length
    · obtain ⟨n, hn⟩ : ∃ n, N[j]? = some n := ⟨_, List.getElem?_eq_getElem hlt⟩
      obtain ⟨g1, rfl, c1⟩ := HC1.out j n hn
      obtain ⟨g2, rfl, c2⟩ := HC2.out j n hn
      have c1' : W2.cell? ⟨g1, j, none⟩ = some (strV n) := (World.cell?_of_block (a := ⟨g1, j, none⟩) (HW2.out.block g1 (World.block_lt_of_cell? W1 ⟨g1, j, none⟩ c1))).trans c1
      have c1w : wr.cell? ⟨g1, j, none⟩ = some (strV n) := (World.cell?_of_block (a := ⟨g1, j, none⟩) (HR.out.block g1 (World.block_lt_of_cell? W2 ⟨g1, j, none⟩ c1'))).trans c1'
      have c2w : wr.cell? ⟨g2, j, none⟩ = some (strV n) := (World.cell?_of_block (a := ⟨g2, j, none⟩) (HR.out.block g2 (World.block_lt_of_cell? W2 ⟨g2, j, none⟩ c2))).trans c2
      have hnl := HNL.out n (List.mem_of_getElem? hn)
      have r1 := hra (HA2.out.below HR.out) n hnl
      have r2 := hrb (HB2.out.below HR.out) n hnl
      obtain ⟨b, hb⟩ : ∃ b : ByteArray, b = ⟨n.toArray⟩ := ⟨_, rfl⟩
      have hsn : strV n = .string b := by rw [hb]; first | done | rfl
      obtain ⟨d, hd⟩ : ∃ d : ByteArray, strV (s.read n).1 = .string d := ⟨_, rfl⟩
      obtain ⟨k, hk⟩ : ∃ k : Nat, (s.read n).2 = k := ⟨_, rfl⟩
      rw [hsn] at c1w c2w r1 r2
      rw [hd, hk] at r1 r2
      clear hnl hn c1 c1' c2 hb hsn hd hk hra hrb
      go_wp2_with (first
        | (go_at_call 13; refine r1.mono ?_; clear r1; rintro e w' ⟨rfl, rfl⟩)
        | (go_at_call 13; refine r2.mono ?_; clear r2; rintro e w' ⟨rfl, rfl⟩))
      go_quiet (fail)
      go_wp2
      go_roundw
      case rel => exact ⟨j + 1, hlt, by go_num, Lib.hid (by have h9 := HR.out; exact h9.trans ⟨rfl, rfl, rfl, Nat.le_refl _, fun _ _ => rfl⟩)⟩
      case measure => simp [intOf]; omega
    · obtain rfl : j = N.length := by omega
      go_wp2
      go_ret
      exact ⟨rfl, HW1.out.trans ((HW2.out.trans (HR.out.mono HW2.out.size)).mono HW1.out.size)⟩
end Go.Proofs.Ytfmigkmkdhciiaa.K
