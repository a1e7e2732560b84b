/-
  The law BufferWhole.
-/
import Derived.Test.YtfnmekmgjcjglaaDoorYZRD
import Derived.Test.YtfnmekmgjcjglaaDoorYHQB
namespace Go.Proofs.YtfnmekmgjcjglaaDoor.V
set_option linter.unusedVariables false
set_option linter.unusedSimpArgs false
set_option maxRecDepth 100000
open Go Go.RowKit Go.Maps Wire
/-- A put beside another buffer. -/
theorem put_two {W0 : World} {p mb n : Nat} {h : Vec} {k : List OC} {w : World} (s : HS W0 p mb n h k w) {p2 mb2 n2 : Nat} {h2 : Vec} {k2 : List OC} (s2 : HS W0 p2 mb2 n2 h2 k2 w) (hp : p2 ≠ p) (hm : mb2 ≠ mb) (hT : Tab W0) (u : Value) (xs : List OC) (hu : OpsV w u xs) (hok : okAll n xs) (hl : k.length + xs.length ≤ 90000) :
    Calls Tryd.prog 13 #[.pointer (some ⟨p, 0, none⟩), u] w fun e w' => ∃ v, e = .returned v ∧ PutR W0 p mb n h k (xs.map core) w v w' ∧ HS W0 p2 mb2 n2 h2 k2 w' := by
  obtain ⟨c, h1, h2⟩ := s.buf
  obtain ⟨c2, g1, g2⟩ := s2.buf
  refine (buffer_Put h1 u xs hu (hT.keep s.below) (by have := congrArg List.length h2; rw [List.length_map] at this; omega)).mono ?_
  rintro e w' ⟨_, hput⟩
  obtain ⟨x, out, c', h', rfl, ho, hcl, hb, he, hmv⟩ := hput hok
  rw [h2] at he
  have hbl := Mov.below s.below hmv s.below.size s.hp s.hm
  refine ⟨_, rfl, ⟨⟨⟨c', ?_, ?_⟩, hbl, s.hp, s.hm⟩, fun u l hu => Mov.opsV h1 hmv hu, ⟨x, out, rfl, ho.opsV, ?_⟩⟩, ⟨⟨c2, BufAt.mov h1 g1 hp hm hmv, g2⟩, hbl, s2.hp, s2.hm⟩⟩
  · rw [← he]; exact hb
  · rw [← he]
  · rw [← he]
theorem HS.lt {W0 : World} {p mb n : Nat} {h : Vec} {k : List OC} {w : World} (s : HS W0 p mb n h k w) : p < w.heap.size ∧ mb < w.heap.size := by
  obtain ⟨c, h1, _⟩ := s.buf
  exact ⟨h1.ltp, h1.ltm⟩
theorem HS.ok {W0 : World} {p mb n : Nat} {h : Vec} {k : List OC} {w : World} (s : HS W0 p mb n h k w) : BufP n h k := by
  obtain ⟨c, h1, h2⟩ := s.buf
  rw [← h2]
  exact h1.ok.core
theorem add_is (a b s : Nat) (h : a + b = s) (hs : s < 1000000) (x y : Operand) (w : World) : (do eqGuard .add 3 x y (.int .i64 (a : Int)) (.int .i64 (b : Int)); binOp .add 3 (.int .i64 (a : Int)) (.int .i64 (b : Int)) : Sem Value).run Tryd.prog w = .ok (.int .i64 (s : Int)) w := by
  have h3 : IntKind.i64.wrap ((a : Int) + (b : Int)) = (s : Int) := by
    rw [i64w (by omega) (by omega)]; omega
  go_simp
theorem sub_is (a b s : Nat) (h : a = s + b) (hs : a < 1000000) (x y : Operand) (w : World) : (do eqGuard .sub 3 x y (.int .i64 (a : Int)) (.int .i64 (b : Int)); binOp .sub 3 (.int .i64 (a : Int)) (.int .i64 (b : Int)) : Sem Value).run Tryd.prog w = .ok (.int .i64 (s : Int)) w := by
  have h3 : IntKind.i64.wrap ((a : Int) - (b : Int)) = (s : Int) := by
    rw [i64w (by omega) (by omega)]; omega
  have h4 : IntKind.i64.wrap (s : Int) = (s : Int) := i64w (by omega) (by omega)
  go_simp
theorem conv_b (b : Nat) (hb : b < 256) (w : World) : (convert 5 3 (.int .u8 (b : Int))).run Tryd.prog w = .ok (.int .i64 (b : Int)) w := by
  have h1 := i64w (z := (b : Int)) (by omega) (by omega)
  go_simp
theorem rem_is (b n : Nat) (hn : 0 < n) (hb : b < 1000000) (x y : Operand) (w : World) : (do eqGuard .rem 3 x y (.int .i64 (b : Int)) (.int .i64 (n : Int)); binOp .rem 3 (.int .i64 (b : Int)) (.int .i64 (n : Int)) : Sem Value).run Tryd.prog w = .ok (.int .i64 ((b % n : Nat) : Int)) w := by
  have h0 : ¬ ((n : Int) = 0) := by omega
  have hlt : b % n ≤ b := Nat.mod_le _ _
  have h1 : IntKind.i64.wrap (Int.tmod (b : Int) (n : Int)) = ((b % n : Nat) : Int) := by
    rw [show Int.tmod (b : Int) (n : Int) = ((b % n : Nat) : Int) from by rw [Int.tmod_eq_emod_of_nonneg (by omega)]; rfl, i64w (by omega) (by omega)]
  go_simp
  rw [if_neg (by omega), Int.tmod_eq_emod_of_nonneg (by omega)]
section
variable {ops : Array Oper} {rest : List Oper} {c : Oper} {a : Act} {w : World} {Q : Exit → Act → World → Prop}
theorem wp_convW (hw : Region.wanted c (yielded ops a.tmps) = true) (x : Operand) (s t : Nat) (ho : c.op = .convert s t x) {u v : Value} (hx : a.eval x = u) (hr : (convert s t u).run Tryd.prog w = .ok v w) (h : wpList Tryd.prog ops Q rest (a.put c.dst v) w) : wpList Tryd.prog ops Q (c :: rest) a w :=
  BigFrame.wpList_want hw fun K hK => by
    unfold Oper.wp
    rw [x_conv ho hx hr]
    exact hK _ _ h
end
theorem formN {w : World} {u : Value} {l : List OC} (h : OpsV w u l) : ∃ a c, u = .slice a l.length c := by
  obtain ⟨a, n, c, rfl, hI⟩ := h
  exact ⟨a, c, by rw [hI.1]⟩
/-- What the statement asks, in one. -/
theorem whole_math {N : Nat} {l L z : List OC} (hP : HistP N l) (hs : ∀ x ∈ L, x ∈ l) (hn : (L.map dt).Nodup) (h32 : ∀ x ∈ l, x.1.n < 4294967296) (hz : z.map core = (putM z8 [] (L.map core)).1) :
    histM N z = 0 ∧ (putM z8 [] (L.map core)).2.1 = knownM z ∧ z.length + (putM z8 [] (L.map core)).2.2.length = L.length ∧ ((∀ x, x ∈ l → x ∈ L) → (putM z8 [] (L.map core)).2.2 = [] ∧ z.length = l.length ∧ (putM z8 [] (L.map core)).2.1 = knownM l) := by
  have hPc : HistP N (l.map core) := histM_zero.1 (by rw [hist_map]; exact histM_zero.2 hP)
  have hsc : ∀ x ∈ L.map core, x ∈ l.map core := fun x hx => by
    obtain ⟨y, hy, rfl⟩ := List.mem_map.1 hx
    exact List.mem_map_of_mem (hs y hy)
  have hnc : ((L.map core).map dt).Nodup := by rwa [dts_core (map_core_core L)]
  have n1 := hP.n1
  have n8 := hP.n8
  have hok : okAll N (L.map core) := fun x hx => by
    obtain ⟨y, hy, rfl⟩ := List.mem_map.1 hx
    exact hP.ok y (hs y hy)
  obtain ⟨r, b, hnx⟩ := run_put (n := N) (by omega) (by omega) hok hnc (fun x hx => by
    obtain ⟨y, hy, rfl⟩ := List.mem_map.1 hx
    exact h32 y (hs y hy))
  have hh := r.hist hPc hsc hnc
  rw [← hz] at r hh
  refine ⟨by rw [← hist_map]; exact histM_zero.2 hh, by rw [r.known, known_map], ?_, fun hall => ?_⟩
  · have := r.perm.length_eq
    rw [List.length_append, List.length_map, List.length_map] at this
    exact this
  · have hLl : ∀ x, x ∈ L.map core ↔ x ∈ l.map core := fun x => ⟨hsc x, fun hx => by
      obtain ⟨y, hy, rfl⟩ := List.mem_map.1 hx
      exact List.mem_map_of_mem (hall y hy)⟩
    have hPL : HistP N (L.map core) := hPc.perm hnc hLl
    have hw := r.whole hPL b hnx
    have hlen := r.perm.length_eq
    have hk : knownM z = knownM l := by
      rw [← known_map z, ← known_map l]
      refine known_of_mem fun x => ?_
      rw [← hLl x, ← r.perm.mem_iff, hw, List.append_nil]
    refine ⟨hw, ?_, by rw [r.known, known_map, hk]⟩
    rw [hw, List.append_nil, List.length_map, List.length_map] at hlen
    rw [hlen]
    have hp : (L.map core).Perm (l.map core) := perm_nodup (nodup_of_dt hnc) (nodup_of_dt hPc.is.1) hLl
    have := hp.length_eq
    rw [List.length_map, List.length_map] at this
    exact this
end Go.Proofs.YtfnmekmgjcjglaaDoor.V
