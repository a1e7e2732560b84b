/-
  Contracts of package wire: the writers.
-/
import Derived.Test.YtdhdfngaldfdjaaDoorWireA
import Derived.RegionTactic
import Derived.StillTailTactics
import Derived.Deep.AppendLies
import Derived.Deep.RegionLaw
namespace Go.Proofs.YtdhdfngaldfdjaaDoor
open Go Go.RowKit Wire

set_option maxRecDepth 100000
set_option linter.unusedVariables false
set_option linter.unusedSimpArgs false
theorem wire_New (W : World) :
    Calls Tryd.prog 30 #[] W fun e w' => e = .returned (.pointer (some ⟨W.heap.size, 0, none⟩)) ∧ w' = W.alloc (.cells #[.slice none 0 0, .bool true] 97) := by
  go_enter Tryd.func30, Tryd.ntmps30
  go_wp2
  go_ret
  exact ⟨rfl, rfl⟩

theorem cell_of_heap {w : World} {g j : Nat} {cs : Array Value} {t : TypeId} {fr : Nat × Nat} (h : w.heap[g]? = some (.cells cs t fr)) : w.cell? ⟨g, j, none⟩ = cs[j]? := cell_of_row _ _ _ _ _ _ h

theorem none_made (W : World) (g : Nat) (v : Value) (b : Bool) (hg : W.heap[g]? = some (.cells #[v, .bool b] 97 (0, 0))) :
    Calls Tryd.prog 52 #[.pointer (some ⟨g, 0, none⟩)] W fun e w' => e = .returned (.bool (!b)) ∧ W = w' := by
  have hc : W.cell? ⟨g, 1, none⟩ = some (.bool b) := by rw [cell_of_heap hg]; rfl
  clear hg
  go_enter Tryd.func52, Tryd.ntmps52
  go_wp2
  go_ret
  exact ⟨rfl, rfl⟩
theorem none_nil (W : World) :
    Calls Tryd.prog 52 #[.pointer none] W fun e w' => e = .returned (.bool true) ∧ W = w' := by
  go_enter Tryd.func52, Tryd.ntmps52
  go_wp2
  go_ret
  exact ⟨rfl, rfl⟩

theorem u8w_info : (Tryd.prog.info? 5).map (fun i => (i.zero, i.size, i.bytes)) = some (some (.int .u8 0), 1, 1) := by kernel_rfl

theorem one_byte (n : Nat) (h : n < 256) : Lib.byteCells [UInt8.ofNat n] = [.int .u8 (n : Int)] := by
  simp [Lib.byteCells, Wire.u8_ofNat h]

theorem owner_form {w : World} {B : Nat} {v : Value} {n : Nat} {xs : List Value} (h : w.ownsRow B 5 1 v n xs) : ∃ p c, v = .slice p n c := by
  rcases h.2 with ⟨rfl, rfl⟩ | ⟨g', cap, cur, rfl, _⟩
  · exact ⟨_, _, rfl⟩
  · exact ⟨_, _, rfl⟩
theorem grown_heap {W w1 w2 : World} {B g n : Nat} {v : Value} {xs : List Value} {cs : Array Value} {t : TypeId} {fr : Nat × Nat} (ho : W.ownsRow B 5 1 v n xs) (hg : W.heap[g]? = some (.cells cs t fr)) (ht : t ≠ 5) (h1 : Below W.heap.size W w1) (hgr : w1.grownBy w2 v.ownBlock) :
    w2.heap[g]? = some (.cells cs t fr) :=
  (hgr.block g (Nat.lt_of_lt_of_le (lt_of_some hg) h1.size) (Ne.symm (owner_other ho hg ht))).trans ((h1.block g (lt_of_some hg)).trans hg)
theorem free_of_heap {w : World} {g j : Nat} {cs : Array Value} {t : TypeId} (h : w.heap[g]? = some (.cells cs t (0, 0))) : w.frozen? ⟨g, j, none⟩ = false := frozen_of_row _ _ _ _ _ h

set_option maxRecDepth 100000 in
theorem num_small (W : World) (B g n : Nat) (l : List UInt8) (hw : WAt W B g l) (hB : B ≤ W.heap.size) (hl : l.length ≤ 1000000) (hn : n < 128) :
    Calls Tryd.prog 33 #[.pointer (some ⟨g, 0, none⟩), .int .u64 n] W fun e w' => e = .returned (.tuple #[]) ∧ WAt w' B g (l ++ enc n) ∧ Keeps B (some g) W w' := by
  obtain ⟨v, hg, ho⟩ := hw
  have hc : W.cell? ⟨g, 0, none⟩ = some v := by rw [cell_of_heap hg]; rfl
  have hf : W.frozen? ⟨g, 0, none⟩ = false := frozen_of_row _ _ _ _ _ hg
  go_enter Tryd.func33, Tryd.ntmps33
  obtain ⟨i0, hi, hz0, hz1, hz2⟩ := info_parts u8w_info
  have hcv : IntKind.u8.wrap (n : Int) = n := by rw [wrap_u8]; omega
  have hm : l.length + 1 ≤ maxLen := by unfold maxLen; omega
  have hoa := ho.alloc (.cells #[.int .u8 (n : Int)] 5)
  have HG : Hid (W.heap[g]? = some (.cells #[v, .bool true] 97 (0, 0))) := hg
  clear hg
  go_wp2_with (first
    | (go_at_call 52; refine (none_made _ g v true HG.out).mono ?_; rintro e w1 ⟨rfl, rfl⟩)
    | (at_builtin; refine wpList_append_own _ rfl _ _ 48 rfl B 5 i0 (.int .u8 0) 1 1 Tryd.underlying48 hi hz0 hz1 hz2 rfl (by decide) v l.length (Lib.byteCells l) rfl hoa ⟨W.heap.size, 0, none⟩ 1 1 [.int .u8 (n : Int)] rfl rfl (cell_one_new _ _ _) (by intro u hu; simp at hu; subst hu; rfl) hm (by omega) (by simp; omega) ?_; intro v' w2 hown hgr hnil; obtain ⟨q, c', rfl⟩ := owner_form hown; have hg2 := grown_heap ho HG.out (by decide) ((Below.refl _ W).alloc (Nat.le_refl _) _) hgr; have hc2 : w2.cell? ⟨g, 0, none⟩ = some v := (cell_of_heap hg2).trans rfl; have hf2 : w2.frozen? ⟨g, 0, none⟩ = false := free_of_heap hg2; clear hg2 hnil))
  refine bodyPost_ret (results_none rfl _ _ _) rfl ?_
  rw [enc_small hn]
  rw [← one_byte n (by omega)] at hown
  exact ⟨rfl, WAt.put HG.out ho ((Below.refl _ W).alloc (Nat.le_refl _) _) hB hgr hown⟩

theorem dig_take (n k j c : Nat) (hc : c = (dig n).length) (hk : k ≤ c) (hj : k = j + 1) : (dig n).take (c - j) = (dig n).take (c - k) ++ [UInt8.ofNat (n / 256 ^ j % 256)] := by
  have h := dig_at n (c - k) (by omega)
  rw [show (dig n).length - 1 - (c - k) = j by omega] at h
  rw [show c - j = (c - k) + 1 by omega, List.take_add_one, h]
  rfl

set_option maxRecDepth 100000 in
theorem num_great (W : World) (B g n : Nat) (l : List UInt8) (hw : WAt W B g l) (hB : B ≤ W.heap.size) (hl : l.length ≤ 1000000) (hn : ¬ n < 128) (h64 : n < 18446744073709551616) :
    Calls Tryd.prog 33 #[.pointer (some ⟨g, 0, none⟩), .int .u64 n] W fun e w' => e = .returned (.tuple #[]) ∧ WAt w' B g (l ++ enc n) ∧ Keeps B (some g) W w' := by
  obtain ⟨v, hg, ho⟩ := hw
  have hc : W.cell? ⟨g, 0, none⟩ = some v := by rw [cell_of_heap hg]; rfl
  have hf : W.frozen? ⟨g, 0, none⟩ = false := frozen_of_row _ _ _ _ _ hg
  have h8 := dig_len8 h64
  have h1 := dig_len_pos (n := n) (by omega)
  obtain ⟨c, hcl⟩ : ∃ c : Nat, c = (dig n).length := ⟨_, rfl⟩
  rw [← hcl] at h8 h1
  have hbc := wire_byteCount n h64
  rw [← hcl] at hbc
  go_enter Tryd.func33, Tryd.ntmps33
  obtain ⟨i0, hi, hz0, hz1, hz2⟩ := info_parts u8w_info
  have hm : l.length + 1 ≤ maxLen := by unfold maxLen; omega
  have hcv : IntKind.u8.wrap (IntKind.i64.wrap (128 + (c : Int))) = ((128 + c : Nat) : Int) := by rw [wrap_u8]; simp [IntKind.wrap, IntKind.bits, IntKind.signed]; omega
  have hoa := ho.alloc (.cells #[.int .u8 ((128 + c : Nat) : Int)] 5)
  have HG : Hid (W.heap[g]? = some (.cells #[v, .bool true] 97 (0, 0))) := hg
  have HC : Hid (c = (dig n).length) := hcl
  clear hg hcl
  go_wp2_with (first
    | (go_at_call 52; refine (none_made _ g v true HG.out).mono ?_; rintro e w1 ⟨rfl, rfl⟩)
    | (go_at_call 53; refine (hbc _).mono ?_; rintro e w1 ⟨rfl, rfl⟩)
    | (at_builtin; refine wpList_append_own _ rfl _ _ 48 rfl B 5 i0 (.int .u8 0) 1 1 Tryd.underlying48 hi hz0 hz1 hz2 rfl (by decide) v l.length (Lib.byteCells l) rfl hoa ⟨W.heap.size, 0, none⟩ 1 1 [.int .u8 ((128 + c : Nat) : Int)] rfl rfl (cell_one_new _ _ _) (by intro u hu; simp at hu; subst hu; rfl) hm (by omega) (by simp; omega) ?_; intro v' w2 hown hgr hnil; obtain ⟨q, c', rfl⟩ := owner_form hown; have hg2 := grown_heap ho HG.out (by decide) ((Below.refl _ W).alloc (Nat.le_refl _) _) hgr; have hc2 : w2.cell? ⟨g, 0, none⟩ = some v := (cell_of_heap hg2).trans rfl; have hf2 : w2.frozen? ⟨g, 0, none⟩ = false := free_of_heap hg2; clear hg2 hnil))
  have hcw : ((128 + c : Nat) : Int) = ((128 + c : Nat) : Int) := rfl
  rw [← one_byte (128 + c) (by omega)] at hown
  have hput := WAt.put HG.out ho ((Below.refl _ W).alloc (Nat.le_refl _) _) hB hgr hown
  clear hown hgr hc2 hf2 hoa hc hf hcv hcw hbc
  generalize w2.setCell ⟨g, 0, none⟩ (.slice q (l.length + 1) c') = w3 at hput ⊢
  go_loopw [5] (fun i wr => ∃ k : Nat, k ≤ c ∧ i = .int .i64 k ∧ WAt wr B g ((l ++ [UInt8.ofNat (128 + c)]) ++ (dig n).take (c - k)) ∧ Keeps B (some g) W wr) (fun i _ => (intOf i).toNat)
  case atStart => exact ⟨c, Nat.le_refl _, rfl, by rw [Nat.sub_self, List.take_zero, List.append_nil]; exact hput.1, hput.2⟩
  case round =>
    obtain ⟨k, hk, rfl, hwr, hkr⟩ := hrel
    by_cases h0 : 0 < k
    · obtain ⟨v, hg, ho⟩ := hwr
      have hc : wr.cell? ⟨g, 0, none⟩ = some v := by rw [cell_of_heap hg]; rfl
      have hf : wr.frozen? ⟨g, 0, none⟩ = false := frozen_of_row _ _ _ _ _ hg
      have HG' : Hid (wr.heap[g]? = some (.cells #[v, .bool true] 97 (0, 0))) := hg
      clear hg
      obtain ⟨j, hj⟩ : ∃ j : Nat, k = j + 1 := ⟨k - 1, by omega⟩
      obtain ⟨e, he⟩ : ∃ e : Nat, e = 8 * j := ⟨_, rfl⟩
      have hj1 : IntKind.i64.wrap ((k : Int) - 1) = (j : Int) := by simp [IntKind.wrap, IntKind.bits, IntKind.signed]; omega
      have he1 : IntKind.i64.wrap (8 * (j : Int)) = (e : Int) := by simp [IntKind.wrap, IntKind.bits, IntKind.signed]; omega
      have he2 : (e : Int) ≤ 64 := by omega
      obtain ⟨y, hy⟩ : ∃ y : Nat, y = n / 256 ^ j % 256 := ⟨_, rfl⟩
      have hy1 : IntKind.u8.wrap ((n : Int) / 2 ^ e) = (y : Int) := by
        rw [wrap_u8, hy, he, show 256 ^ j = 2 ^ (8 * j) by rw [Nat.pow_mul]]
        simp only [Int.natCast_emod, Int.natCast_ediv, Int.natCast_pow]
        rfl
      have hy2 : y < 256 := by rw [hy]; omega
      have HE : Hid (k = j + 1 ∧ e = 8 * j ∧ y = n / 256 ^ j % 256) := ⟨hj, he, hy⟩
      clear hj he hy
      obtain ⟨L, hL⟩ : ∃ L, L = (l ++ [UInt8.ofNat (128 + c)]) ++ (dig n).take (c - k) := ⟨_, rfl⟩
      have hLl : L.length + 1 ≤ 1000010 := by rw [hL]; simp; omega
      rw [← hL] at ho
      have HL : Hid (L = (l ++ [UInt8.ofNat (128 + c)]) ++ (dig n).take (c - k)) := hL
      clear hL
      have hmL : L.length + 1 ≤ maxLen := by unfold maxLen; omega
      have hoa : (wr.alloc (.cells #[.int .u8 (y : Int)] 5)).drew.ownsRow B 5 1 v L.length (Lib.byteCells L) := (ho.alloc (.cells #[.int .u8 (y : Int)] 5)).kept (row := none) ⟨rfl, rfl, rfl, Nat.le_refl _, fun _ _ _ => rfl⟩ (by cases hv : v.ownBlock <;> simp)
      have hbw : Below wr.heap.size wr (wr.alloc (.cells #[.int .u8 (y : Int)] 5)).drew := ((Below.refl _ wr).alloc (Nat.le_refl _) _).drew
      have hBr : B ≤ (wr.alloc (.cells #[.int .u8 (y : Int)] 5)).drew.heap.size := Nat.le_trans (Nat.le_trans hB hkr.size) hbw.size
      have hca : (wr.alloc (.cells #[.int .u8 (y : Int)] 5)).cell? ⟨g, 0, none⟩ = some v := by
        rw [cell_of_heap (((Below.refl _ wr).alloc (Nat.le_refl _) (.cells #[.int .u8 (y : Int)] 5)).block g (lt_of_some HG'.out) |>.trans HG'.out)]; rfl
      go_wp2
      go_region_law ((refine step_append_lies _ rfl (.tmp 44) (.tmp 51) 48 rfl B 5 i0 (.int .u8 0) 1 1 Tryd.underlying48 hi hz0 hz1 hz2 rfl (by decide) v L.length (Lib.byteCells L) rfl hoa ⟨wr.heap.size, 0, none⟩ 1 1 [.int .u8 (y : Int)] rfl rfl (cell_one_new _ _ _) (by intro u hu; simp at hu; subst hu; rfl) (by decide) hmL (by omega) hBr _ rfl ?_; intro g' cap w4 hown hgr hat hlt; have hg4 := grown_heap ho HG'.out (by decide) hbw hgr; have hc4 : w4.cell? ⟨g, 0, none⟩ = some v := (cell_of_heap hg4).trans rfl; have hf4 : w4.frozen? ⟨g, 0, none⟩ = false := free_of_heap hg4; clear hg4 hat))
      all_goals
        have h := WAt.put (m := [UInt8.ofNat y]) HG'.out ho hbw (Nat.le_trans hB hkr.size) hgr (by rw [one_byte y hy2]; exact hown)
        clear hown hgr hc4 hf4 hca hbw hoa hc hf
        go_wp2
        go_roundw
        case rel => exact ⟨j, by have := HE.out; omega, rfl, by rw [dig_take n k j c HC.out hk HE.out.1, ← List.append_assoc, ← HL.out, ← HE.out.2.2]; exact h.1, hkr.trans h.2⟩
        case measure => have := HE.out; simp [intOf]; omega
    · have : k = 0 := by omega
      subst this
      go_wp2
      go_end0
      rw [Nat.sub_zero, HC.out, List.take_length, List.append_assoc, List.singleton_append, ← enc_great hn] at hwr
      exact ⟨rfl, hwr, hkr⟩

end Go.Proofs.YtdhdfngaldfdjaaDoor
