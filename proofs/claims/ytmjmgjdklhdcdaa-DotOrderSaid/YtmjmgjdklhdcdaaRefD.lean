/-
  The document's answer: Sort, Union.
-/
import Derived.Test.YtmjmgjdklhdcdaaRefC
namespace Go.Proofs.Ytmjmgjdklhdcdaa
set_option linter.unusedVariables false
set_option linter.unusedSimpArgs false
open Go Go.RowKit Go.Maps

theorem ref_with_owned (B : Nat) (v : Value) (c : List Dot) (d : Dot) (w : World) (h : w.ownsRow B 24 2 v c.length (flat c)) (hok : ∀ x ∈ c, x.ok) (hd : d.ok) (hl : c.length ≤ 1000000) (hB : B ≤ w.heap.size) :
    Calls Try.prog 35 #[v, .agg #[.int .u8 (d.1 : Int), .int .u32 (d.2 : Int)]] w (DelPost w B (ins c d)) := by
  obtain ⟨a, cap, rfl, hI⟩ := owns_isDots h hok
  refine Calls.mono (ref_with a c.length cap c d hd w hI hl) ?_
  rintro e w' ⟨hb, ⟨hm, rfl⟩ | ⟨hm, u, rfl, ho⟩⟩
  · have e1 : ins c d = c := by unfold ins; rw [if_pos hm]
    rw [e1]
    exact ⟨_, rfl, owns_below h hb, hb.mono hB⟩
  · exact ⟨u, rfl, ownsRow_base ho hB, hb.mono hB⟩

theorem take_ok {l : List Dot} (h : ∀ d ∈ l, d.ok) (k : Nat) : ∀ d ∈ l.take k, d.ok := fun d hd => h d (List.mem_of_mem_take hd)
theorem can_take_succ {l : List Dot} {k : Nat} {x : Dot} (hx : l[k]? = some x) : can (l.take (k + 1)) = ins (can (l.take k)) x := by
  have hk : k < l.length := (List.getElem?_eq_some_iff.1 hx).1
  rw [List.take_succ_eq_append_getElem hk, (List.getElem?_eq_some_iff.1 hx).2, can_snoc]

set_option maxHeartbeats 2000000 in
theorem ref_Sort (a : Option Addr) (len cap : Nat) (l : List Dot) (w : World) (hI : IsDots w a len cap l) (hl : len ≤ 1000000) :
    Calls Try.prog 21 #[.slice a len cap] w (RowPost w (can l)) := by
  have hcap : len ≤ 9223372036854775807 := by omega
  have hlen := hI.1
  have hok := hI.2.2.2.1
  have HI := hid hI
  have HL := hid (And.intro hlen hok)
  clear hI hlen hok
  go_enter Try.func21, Try.ntmps21
  go_wp2
  go_loopw [3, 4] (fun out i wr => ∃ k : Nat, k ≤ len ∧ i = .int .i64 k ∧ wr.ownsRow w.heap.size 24 2 out (can (l.take k)).length (flat (can (l.take k))) ∧ Below w.heap.size w wr) (fun _ i _ => len - (intOf i).toNat)
  case atStart => exact ⟨0, by omega, rfl, World.ownsRow_nil _ _ _ _, Below.refl _ _⟩
  case round =>
    obtain ⟨k, hk, rfl, hown, hB⟩ := hrel
    by_cases hlt : k < len
    · cases a with
      | none => have := HI.out.none_len; omega
      | some ad =>
        obtain ⟨r, m, B, O, sp, hx, hr, hm, hA, hc0, hc1⟩ := (HI.out.keep hB).at k hlt
        have hlk : (can (l.take k)).length ≤ 1000000 := by
          have h1 := length_can (l.take k)
          rw [List.length_take] at h1
          omega
        have hcon := ref_with_owned w.heap.size u3 (can (l.take k)) (r, m) wr hown (can_ok (take_ok HL.out.2 k)) ⟨hr, hm⟩ hlk hB.size
        have HX := hid hx
        clear hx hown
        go_wp2_with (go_at_call 35; refine hcon.mono ?_; rintro e w1 ⟨u, rfl, ho, hB1⟩; have HO := hid ho; have HB := hid hB1; clear ho hB1)
        go_roundw
        case rel => exact ⟨k + 1, by omega, by go_num, by rw [can_take_succ HX.out]; exact HO.out, hB.trans HB.out⟩
        case measure => simp [intOf]; omega
    · obtain rfl : k = len := by omega
      have ht : l.take k = l := List.take_of_length_le (by rw [HL.out.1]; exact Nat.le_refl _)
      rw [ht] at hown
      have HO := hid hown
      clear hown ht
      go_wp2
      go_ret
      exact ⟨_, rfl, HO.out, hB⟩

theorem owns_dotsV {W : World} {base : Nat} {v : Value} {l : List Dot} (h : W.ownsRow base 24 2 v l.length (flat l)) (hok : ∀ d ∈ l, d.ok) : DotsV W v l := by
  obtain ⟨a, cap, hv, hI⟩ := owns_isDots h hok
  exact ⟨a, l.length, cap, hv, hI⟩
theorem ref_SortV (v : Value) (l : List Dot) (w : World) (hv : DotsV w v l) (hl : l.length ≤ 1000000) : Calls Try.prog 21 #[v] w (RowPost w (can l)) := by
  obtain ⟨a, len, cap, rfl, hI⟩ := hv
  exact ref_Sort a len cap l w hI (by rw [← hI.1]; exact hl)

/-- append(s, x...), both dots. -/
theorem wpList_append_dots {w : World} {ops : Array Oper} {rest : List Oper} {o : Oper} {a : Act} {Q : Exit → Act → World → Prop} (hgd : o.guard = none) (s x : Operand)
    (ho : o.op = .call { callee := .builtin .append, args := #[s, x], argTypes := #[39, 39] })
    (base : Nat) (v : Value) (c : List Dot) (hs : a.eval s = v) (hown : w.ownsRow base 24 2 v c.length (flat c))
    (ad : Option Addr) (len cap : Nat) (xs : List Dot) (hx : a.eval x = .slice ad len cap) (hI : IsDots w ad len cap xs) (hb : c.length + len ≤ 10000000) (hbase : base ≤ w.heap.size)
    (h : ∀ v' w', w'.ownsRow base 24 2 v' (c ++ xs).length (flat (c ++ xs)) → Below base w w' → wpList Try.prog ops Q rest (a.put o.dst v') w') : wpList Try.prog ops Q (o :: rest) a w := by
  obtain ⟨i0, hi, hz0, hz1, hz2⟩ := info_parts infoDot
  cases ad with
  | none =>
    obtain rfl : len = 0 := hI.none_len
    obtain rfl : cap = 0 := hI.none_cap
    obtain rfl : xs = [] := List.length_eq_zero_iff.1 hI.1
    exact wpList_append_own_none hgd s x 39 ho base 24 i0 2 Try.underlying39 hi v c.length (flat c) hs hown hx (h v w (by simpa using hown) (Below.refl _ _))
  | some ad =>
    have hlx : xs.length = len := hI.1
    have hr := rest_cells hI 0
    rw [List.drop_zero] at hr
    have e0 : ad.add (0 * 2) = ad := by simp [Addr.add]
    rw [e0] at hr
    refine wpList_append_own w hgd s x 39 ho base 24 i0 (.agg #[.int .u8 0, .int .u32 0]) 2 8 Try.underlying39 hi hz0 hz1 hz2 rfl Nat.zero_lt_two v c.length (flat c) hs hown ad len cap (flat xs) hx (by rw [flat_length, hlx]) hr (flat_one xs)
      (by unfold maxLen; omega) (by omega) hbase (fun v' w' h1 h2 _ => h v' w' ?_ ?_)
    · rw [flat_append, List.length_append, hlx]; exact h1
    · exact (Below.refl base w).grown h2 hbase (fun j e => (hown.lt j e).1)

theorem empty_owns (w : World) : (w.alloc (.cells #[] 24)).ownsRow w.heap.size 24 2 (.slice (some ⟨w.heap.size, 0, none⟩) 0 0) ([] : List Dot).length (flat []) :=
  ⟨rfl, .inr ⟨w.heap.size, 0, #[], rfl, Nat.le_refl _, heap_alloc_last' _ _, Nat.le_refl _, Nat.zero_le _, rfl, rfl⟩⟩

set_option maxHeartbeats 2000000 in
theorem ref_Union (a a' : Option Addr) (len cap len' cap' : Nat) (l l' : List Dot) (w : World) (hI : IsDots w a len cap l) (hI' : IsDots w a' len' cap' l') (hl : len + len' ≤ 1000000) :
    Calls Try.prog 23 #[.slice a len cap, .slice a' len' cap'] w (RowPost w (can (l ++ l'))) := by
  have hb1 : Below w.heap.size w (w.alloc (.cells #[] 24)) := (Below.refl _ _).alloc (Nat.le_refl _) _
  have HI := hid (And.intro hI hI')
  have hok : ∀ d ∈ l ++ l', d.ok := fun d hd => by
    rcases List.mem_append.1 hd with hd | hd
    · exact hI.2.2.2.1 d hd
    · exact hI'.2.2.2.1 d hd
  have HL := hid (And.intro hI.1 (And.intro hI'.1 hok))
  have HB1 := hid hb1
  have HE := hid (empty_owns w)
  have hs1 := hb1.size
  clear hI hI' hok hb1
  go_enter Try.func23, Try.ntmps23
  go_wp2_with (first
    | (at_builtin; refine wpList_append_dots rfl (.tmp 5) (.tmp 6) rfl w.heap.size _ [] rfl HE.out a len cap l rfl (HI.out.1.keep HB1.out) (by simp; omega) hs1 ?_; intro v1 w1 ho1 hB2; have HO1 := hid ho1; have HB2 := hid (HB1.out.trans hB2); have hs2 := (HB1.out.trans hB2).size; clear ho1 hB2)
    | (at_builtin; refine wpList_append_dots rfl (.tmp 7) (.tmp 8) rfl w.heap.size _ ([] ++ l) rfl HO1.out a' len' cap' l' rfl (HI.out.2.keep HB2.out) (by simp [HL.out.1]; omega) hs2 ?_; intro v2 w2 ho2 hB3; have HI2 := hid (owns_dotsV (l := l ++ l') ho2 HL.out.2.2); have HB3 := hid (HB2.out.trans hB3); clear ho2 hB3)
    | (go_at_call 21; refine (ref_SortV _ (l ++ l') _ HI2.out (by simp [HL.out.1, HL.out.2.1]; omega)).mono ?_; intro e w3 hP; obtain ⟨v3, rfl, hr3, hB4⟩ := hP.after HB3.out; have HR := hid hr3; clear hr3 hP))
  go_ret
  exact ⟨v3, rfl, HR.out, hB4⟩

end Go.Proofs.Ytmjmgjdklhdcdaa
