/-
  The document's three operations.
-/
import Derived.Test.YtfnmekmgjcjglaaDoorYNG
namespace Go.Proofs.YtfnmekmgjcjglaaDoor.V
set_option linter.unusedVariables false
set_option linter.unusedSimpArgs false
set_option maxRecDepth 100000
open Go Go.RowKit Go.Maps Wire
def one0 : Vec := fun i => if i = 0 then 1 else 0
def v001 : Vec := fun i => if i = 2 then 1 else 0
def tA : OC := (gen 0 1 z8 1, [])
def tB : OC := (gen 1 1 one0 2, [])
def tC : OC := (gen 0 2 oneone 3, [])
def h3 : Vec := upX (upX (upX z8 tA) tB) tC
theorem put1 : putM z8 [] [core tC, core tB] = ([], z8, [core tC, core tB]) := by kernel_rfl
theorem put2 : putM z8 [core tC, core tB] [core tA] = ([core tA, core tB, core tC], h3, []) := by kernel_rfl
theorem put3 : putM h3 [] [core tB, core tC, core tA] = ([], h3, []) := by kernel_rfl
theorem chkA : checkM tA.1 tA.2 2 = 0 := by kernel_rfl
theorem chkB : checkM tB.1 tB.2 2 = 0 := by kernel_rfl
theorem chkC : checkM tC.1 tC.2 2 = 0 := by kernel_rfl
theorem chk0 : checkM zeroO [] 2 = 5 := by kernel_rfl
theorem lt_BC : ltO tB tC := .inl (by decide)
section
variable {ops : Array Oper} {rest : List Oper} {c : Oper} {a : Act} {w : World} {Q : Exit → Act → World → Prop}
theorem build_is (hw : Region.wanted c (yielded ops a.tmps) = true) (t : TypeId) (parts : Array (Nat × Operand)) (ho : c.op = .build t parts) {cs : Array Value} (e : (Tryd.prog.built t (parts.map fun (i, x) => (i, a.eval x)).toList) = some cs) (h : wpList Tryd.prog ops Q rest (a.put c.dst (.agg cs)) w) : wpList Tryd.prog ops Q (c :: rest) a w :=
  BigFrame.wpList_want hw fun K hK => by
    have hr := run_build (P := Tryd.prog) w t (parts.map fun (i, x) => (i, a.eval x)) cs e
    unfold Oper.wp execOp
    simp only [ho, Sem.run_bind, Sem.run_pure, Result.andThen_ok, hr]
    exact hK _ _ h
theorem wp_sliceW (hw : Region.wanted c (yielded ops a.tmps) = true) (x y : Operand) (t : Nat) (ho : c.op = .slice t x (some y) none none) {u z v : Value} (hx : a.eval x = u) (hy : a.eval y = z) (hr : (Instr.sliceAt t u (some z) none none).run Tryd.prog w = .ok v w) (h : wpList Tryd.prog ops Q rest (a.put c.dst v) w) : wpList Tryd.prog ops Q (c :: rest) a w :=
  BigFrame.wpList_want hw fun K hK => by
    unfold Oper.wp
    rw [x_slice (l := some z) (m := none) ho hx (by rw [← hy]; rfl) rfl hr]
    exact hK _ _ h
theorem wp_binW (hw : Region.wanted c (yielded ops a.tmps) = true) (x y : Operand) (k : BinOp) (s t : Nat) (ho : c.op = .binOp k s x y t) {u z v : Value} (hx : a.eval x = u) (hy : a.eval y = z) (hr : (do eqGuard k s x y u z; binOp k s u z : Sem Value).run Tryd.prog w = .ok v w) (h : wpList Tryd.prog ops Q rest (a.put c.dst v) w) : wpList Tryd.prog ops Q (c :: rest) a w :=
  BigFrame.wpList_want hw fun K hK => by
    unfold Oper.wp
    rw [x_bin ho hx hy hr]
    exact hK _ _ h
theorem x_laid2 {y z : Operand} {o p : OpM} (ho : c.op = .buildSlice 22 2 #[(0, y), (1, z)]) (hy : a.eval y = .agg (oc o)) (hz : a.eval z = .agg (oc p)) : (execOp a.eval c).run Tryd.prog w = .ok (.value (.slice (some ⟨w.heap.size, 0, none⟩) 2 2)) (w.alloc (.cells (oc o ++ oc p) 50)) := by
  obtain ⟨i0, hi, hz0, hz1, hz2⟩ := info_parts infoOp
  have hr := run_buildSlice (P := Tryd.prog) w 22 50 2 #[(0, .agg (oc o)), (1, .agg (oc p))] (oc o ++ oc p) i0 _ Tryd.underlying22 hi hz0 (by rw [hz1]; omega) (by rw [hz1]; omega) (by rw [hz1]; exact fill_op2 o p)
  unfold execOp
  simp only [ho, List.map_toArray, List.map_cons, List.map_nil, hy, hz, Sem.run_bind, Sem.run_pure, Result.andThen_ok, hr]
theorem x_laid3 {y z x : Operand} {o p q : OpM} (ho : c.op = .buildSlice 22 3 #[(0, y), (1, z), (2, x)]) (hy : a.eval y = .agg (oc o)) (hz : a.eval z = .agg (oc p)) (hx : a.eval x = .agg (oc q)) : (execOp a.eval c).run Tryd.prog w = .ok (.value (.slice (some ⟨w.heap.size, 0, none⟩) 3 3)) (w.alloc (.cells (oc o ++ oc p ++ oc q) 50)) := by
  obtain ⟨i0, hi, hz0, hz1, hz2⟩ := info_parts infoOp
  have hr := run_buildSlice (P := Tryd.prog) w 22 50 3 #[(0, .agg (oc o)), (1, .agg (oc p)), (2, .agg (oc q))] (oc o ++ oc p ++ oc q) i0 _ Tryd.underlying22 hi hz0 (by rw [hz1]; omega) (by rw [hz1]; omega) (by rw [hz1]; exact fill_op3 o p q)
  unfold execOp
  simp only [ho, List.map_toArray, List.map_cons, List.map_nil, hy, hz, hx, Sem.run_bind, Sem.run_pure, Result.andThen_ok, hr]
def tupA (v : Value) (i : Nat) : Value := match v with | .tuple a => a.getD i undef | _ => undef
theorem ext_tup {x y v : Value} (h : v = .tuple #[x, y]) : (Instr.extract v 0).run Tryd.prog w = .ok (tupA v 0) w ∧ (Instr.extract v 1).run Tryd.prog w = .ok (tupA v 1) w := by
  subst h
  exact ⟨rfl, rfl⟩
end
theorem flat2 (x y : OC) : (oc x.1 ++ oc y.1).toList = flatO [x, y] := by simp [flatO]
theorem flat3 (x y z : OC) : (oc x.1 ++ oc y.1 ++ oc z.1).toList = flatO [x, y, z] := by simp [flatO]
/-- An operation with no lines. -/
def Bare (x : OC) : Prop := okO x.1 ∧ x.1.lv = .slice none 0 0 ∧ x.2 = []
theorem Bare.row {x : OC} (h : Bare x) (w : World) : okO x.1 ∧ ClaimsB 0 w x.1.lv x.2 := ⟨h.1, by rw [h.2.1, h.2.2]; exact ClaimsB.nil _ _⟩
theorem ok_one0 : okV one0 := ⟨fun i => by show one0 i < _; unfold one0; split <;> omega, fun i hi => by show one0 i = 0; unfold one0; rw [if_neg (by omega)]⟩
theorem ok_oneone : okV oneone := ⟨fun i => by show oneone i < _; unfold oneone; split <;> omega, fun i hi => by show oneone i = 0; unfold oneone; rw [if_neg (by omega)]⟩
theorem bA : Bare tA := ⟨by constructor <;> first | decide | exact h_okz, rfl, rfl⟩
theorem bB : Bare tB := ⟨by constructor <;> first | decide | exact ok_one0, rfl, rfl⟩
theorem bC : Bare tC := ⟨by constructor <;> first | decide | exact ok_oneone, rfl, rfl⟩
theorem row_bare {W : World} {l : List OC} {cs : Array Value} (hc : cs.toList = flatO l) (hl : l.length ≤ 100) (hb : ∀ x ∈ l, Bare x) : OpsV (W.alloc (.cells cs 50)) (.slice (some ⟨W.heap.size, 0, none⟩) l.length l.length) l :=
  row_opsV (heap_alloc_last' _ _) hc hl (fun x hx => (hb x hx).row _)
theorem oneTA : tA.1.lv.oneCell' = true := rfl
theorem oneTB : tB.1.lv.oneCell' = true := rfl
theorem oneTC : tC.1.lv.oneCell' = true := rfl
attribute [local irreducible] tA tB tC
set_option maxHeartbeats 1600000 in
theorem law_three (W0 : World) :
    Calls Tryd.prog 24 #[] W0 fun e w' => ∃ g, e = .returned (.slice (some ⟨g, 0, none⟩) 3 3) ∧ OpsV w' (.slice (some ⟨g, 0, none⟩) 3 3) [tA, tB, tC] ∧ Below W0.heap.size W0 w' := by
  go_enter Tryd.func24, Tryd.ntmps24
  go_upto_region 2 with (first
    | (refine build_is rfl 50 _ rfl (cs := oc tA.1) (by kernel_rfl) ?_)
    | (refine build_is rfl 46 _ rfl (cs := #[.int .u8 0, .int .u32 1]) (by kernel_rfl) ?_)
    | (refine wpList_store_row rfl _ _ _ rfl W0.heap.size (oc tA.1) rfl rfl 50 (oc zeroO) ?_ (opSize _) rfl (oneO _ oneTA) ?_; (focus exact heap_alloc_last' _ _); rw [World.setRow_alloc_new]))
  (try go_frame)
  refine gen_code (fun W => OpAt W W0.heap.size tA.1 ∧ Below W0.heap.size W0 W) ⟨opAt_new W0 tA.1, below_al W0 _⟩ ?_
  rintro W1 ⟨g1, g2⟩
  have HA := hid g1
  have HB1 := hid g2
  clear g1 g2
  go_upto_region 3 with (first
    | (refine build_is rfl 50 _ rfl (cs := oc tB.1) (by kernel_rfl) ?_)
    | (refine build_is rfl 46 _ rfl (cs := #[.int .u8 1, .int .u32 1]) (by kernel_rfl) ?_)
    | (refine build_is rfl 30 _ rfl (cs := vc one0) (by kernel_rfl) ?_)
    | (refine wpList_store_row rfl _ _ _ rfl W1.heap.size (oc tB.1) rfl rfl 50 (oc zeroO) ?_ (opSize _) rfl (oneO _ oneTB) ?_; (focus exact heap_alloc_last' _ _); rw [World.setRow_alloc_new]))
  (try go_frame)
  have hal := below_al W1 (.cells (oc tB.1) 50)
  refine gen_code (fun W => OpAt W W0.heap.size tA.1 ∧ OpAt W W1.heap.size tB.1 ∧ Below W0.heap.size W0 W) ⟨HA.out.keep hal, opAt_new W1 tB.1, below_next HB1.out hal⟩ ?_
  clear hal
  rintro W2 ⟨g1, g2, g3⟩
  generalize W1.heap.size = b1 at g2 ⊢
  clear HA HB1
  have HA := hid g1
  have HB := hid g2
  have HB2 := hid g3
  clear g1 g2 g3
  go_upto_region 4 with (first
    | (refine build_is rfl 50 _ rfl (cs := oc tC.1) (by kernel_rfl) ?_)
    | (refine build_is rfl 46 _ rfl (cs := #[.int .u8 0, .int .u32 2]) (by kernel_rfl) ?_)
    | (refine build_is rfl 30 _ rfl (cs := vc oneone) (by kernel_rfl) ?_)
    | (refine wpList_store_row rfl _ _ _ rfl W2.heap.size (oc tC.1) rfl rfl 50 (oc zeroO) ?_ (opSize _) rfl (oneO _ oneTC) ?_; (focus exact heap_alloc_last' _ _); rw [World.setRow_alloc_new]))
  (try go_frame)
  have hal := below_al W2 (.cells (oc tC.1) 50)
  refine gen_code (fun W => OpAt W W0.heap.size tA.1 ∧ OpAt W b1 tB.1 ∧ OpAt W W2.heap.size tC.1 ∧ Below W0.heap.size W0 W) ⟨HA.out.keep hal, HB.out.keep hal, opAt_new W2 tC.1, below_next HB2.out hal⟩ ?_
  clear hal
  rintro W3 ⟨g1, g2, g3, g4⟩
  generalize W2.heap.size = b2 at g3 ⊢
  clear HA HB HB2
  have HA := hid (OpAt.in g1)
  have HB := hid (OpAt.in g2)
  have HC := hid (OpAt.in g3)
  have HB3 := hid g4
  clear g1 g2 g3 g4
  go_wp2_with (first
    | (refine load_opIn _ rfl rfl ⟨W0.heap.size, 0, none⟩ rfl tA.1 HA.out ?_)
    | (refine load_opIn _ rfl rfl ⟨b1, 0, none⟩ rfl tB.1 HB.out ?_)
    | (refine load_opIn _ rfl rfl ⟨b2, 0, none⟩ rfl tC.1 HC.out ?_)
    | (refine build_op3 rfl _ _ _ rfl tA.1 tB.1 tC.1 rfl rfl rfl ?_))
  go_ret
  exact ⟨W3.heap.size, rfl, row_bare (l := [tA, tB, tC]) (flat3 tA tB tC) (by decide) (fun x hx => by
    simp only [List.mem_cons, List.not_mem_nil, or_false] at hx
    rcases hx with rfl | rfl | rfl
    · exact bA
    · exact bB
    · exact bC), below_next HB3.out (below_al _ _)⟩
end Go.Proofs.YtfnmekmgjcjglaaDoor.V
namespace Go.Proofs.YtfnmekmgjcjglaaDoor.V
set_option linter.unusedVariables false
set_option linter.unusedSimpArgs false
set_option maxRecDepth 100000
open Go Go.RowKit Go.Maps Wire
/-- What holds between puts. -/
structure HS (W0 : World) (p mb n : Nat) (h : Vec) (k : List OC) (w : World) : Prop where
  buf : ∃ c, BufAt w p mb n h c ∧ c.map core = k
  below : Below W0.heap.size W0 w
  hp : W0.heap.size ≤ p
  hm : W0.heap.size ≤ mb
theorem HS.keep {W0 : World} {p mb n : Nat} {h : Vec} {k : List OC} {w w' : World} (s : HS W0 p mb n h k w) (hb : Below w.heap.size w w') : HS W0 p mb n h k w' := by
  obtain ⟨c, h1, h2⟩ := s.buf
  exact ⟨⟨c, h1.keep hb, h2⟩, below_next s.below hb, s.hp, s.hm⟩
/-- What a put leaves and gives. -/
structure PutR (W0 : World) (p mb n : Nat) (h : Vec) (k ys : List OC) (w : World) (v : Value) (w' : World) : Prop where
  st : HS W0 p mb n (putM h k ys).2.1 (putM h k ys).2.2 w'
  ops : ∀ u l, OpsV w u l → OpsV w' u l
  val : ∃ x z, v = .tuple #[x, .int .i64 0] ∧ OpsV w' x z ∧ z.map core = (putM h k ys).1
theorem put_ok {W0 : World} {p mb n : Nat} {h : Vec} {k : List OC} {w : World} (s : HS W0 p mb n h k w) (hT : Tab W0) (u : Value) (xs : List OC) (hu : OpsV w u xs) (hok : okAll n xs) (hl : k.length + xs.length ≤ 90000) :
    Calls Tryd.prog 13 #[.pointer (some ⟨p, 0, none⟩), u] w fun e w' => ∃ v, e = .returned v ∧ PutR W0 p mb n h k (xs.map core) w v w' := by
  obtain ⟨c, h1, h2⟩ := s.buf
  refine (buffer_Put h1 u xs hu (hT.keep s.below) (by have := congrArg List.length h2; rw [List.length_map] at this; omega)).mono ?_
  rintro e w' ⟨_, hp⟩
  obtain ⟨x, out, c', h', rfl, ho, hcl, hb, he, hm⟩ := hp hok
  rw [h2] at he
  refine ⟨_, rfl, ⟨⟨⟨c', ?_, ?_⟩, Mov.below s.below hm s.below.size s.hp s.hm, s.hp, s.hm⟩, fun u l hu => Mov.opsV h1 hm hu, ⟨x, out, rfl, ho.opsV, ?_⟩⟩⟩
  · rw [← he]; exact hb
  · rw [← he]
  · rw [← he]
theorem put_err {W0 : World} {p mb n : Nat} {h : Vec} {k : List OC} {w : World} (s : HS W0 p mb n h k w) (hT : Tab W0) (u : Value) (xs : List OC) (hu : OpsV w u xs) (hok : ¬ okAll n xs) (hl : k.length + xs.length ≤ 90000) :
    Calls Tryd.prog 13 #[.pointer (some ⟨p, 0, none⟩), u] w fun e w' => e = .returned (.tuple #[.slice none 0 0, .int .i64 5]) ∧ Below w.heap.size w w' := by
  obtain ⟨c, h1, h2⟩ := s.buf
  refine (buffer_Put h1 u xs hu (hT.keep s.below) (by have := congrArg List.length h2; rw [List.length_map] at this; omega)).mono ?_
  rintro e w' ⟨hp, _⟩
  exact hp hok
theorem waits_ok {W0 : World} {p mb n : Nat} {h : Vec} {k : List OC} {w : World} (s : HS W0 p mb n h k w) (hl : k.length ≤ 50000) :
    Calls Tryd.prog 18 #[.pointer (some ⟨p, 0, none⟩)] w fun e w' => ∃ u t t', e = .returned u ∧ OpsV w' u t' ∧ SortOf k t ∧ t'.map core = t ∧ Below w.heap.size w w' := by
  obtain ⟨c, h1, h2⟩ := s.buf
  refine (buffer_Waits h1 (by have := congrArg List.length h2; rw [List.length_map] at this; omega)).mono ?_
  rintro e w' ⟨u, t, t', rfl, ho, hs, hc, hb⟩
  exact ⟨u, t.map core, t', rfl, ho, h2 ▸ hs.map, hc, hb⟩
theorem has_ok {W0 : World} {p mb n : Nat} {h : Vec} {k : List OC} {w : World} (s : HS W0 p mb n h k w) :
    Calls Tryd.prog 17 #[.pointer (some ⟨p, 0, none⟩)] w fun e w' => e = .returned (.agg (vc h)) ∧ Below w.heap.size w w' := by
  obtain ⟨c, h1, h2⟩ := s.buf
  exact buffer_Has h1
theorem new_ok (n : Int) (hn : ¬ (n < 1 ∨ 8 < n)) (W0 w : World) (hb : Below W0.heap.size W0 w) :
    Calls Tryd.prog 8 #[.int .i64 n, .agg (vc z8)] w fun e w' => ∃ p mb, e = .returned (.tuple #[.pointer (some ⟨p, 0, none⟩), .int .i64 0]) ∧ HS W0 p mb n.toNat z8 [] w' ∧ w.heap.size ≤ p ∧ w.heap.size ≤ mb ∧ Below w.heap.size w w' :=
  (buffer_New n z8 h_okz w).mono fun e w' ⟨_, h2, h3⟩ => by
    obtain ⟨p, mb, h4, h5, h6, h7⟩ := h2 hn (zeroFrom_iff.2 fun r _ _ => rfl)
    exact ⟨p, mb, h4, ⟨⟨[], h7, rfl⟩, below_next hb h3, Nat.le_trans hb.size h5, Nat.le_trans hb.size h6⟩, h5, h6, h3⟩
theorem new_bad (n : Int) (hn : n < 1 ∨ 8 < n) (w : World) :
    Calls Tryd.prog 8 #[.int .i64 n, .agg (vc z8)] w fun e w' => e = .returned (.tuple #[.pointer none, .int .i64 2]) ∧ Below w.heap.size w w' :=
  (buffer_New n z8 h_okz w).mono fun e w' ⟨h1, _, h3⟩ => ⟨h1 (.inl hn), h3⟩
theorem ok_v001 : okV v001 := ⟨fun i => by show v001 i < _; unfold v001; split <;> omega, fun i hi => by show v001 i = 0; unfold v001; rw [if_neg (by omega)]⟩
theorem new_v001 (w : World) :
    Calls Tryd.prog 8 #[.int .i64 2, .agg (vc v001)] w fun e w' => e = .returned (.tuple #[.pointer none, .int .i64 2]) ∧ Below w.heap.size w w' :=
  (buffer_New 2 v001 ok_v001 w).mono fun e w' ⟨h1, _, h3⟩ => ⟨h1 (.inr (by kernel_rfl)), h3⟩
theorem two_of {t t' : List OC} (hs : SortOf [core tC, core tB] t) (hc : t'.map core = t) : t'.map core = [tB, tC].map core := by
  rw [hc]
  refine inc_ext hs.inc (List.pairwise_cons.2 ⟨fun y hy => ?_, List.pairwise_singleton _ _⟩) fun x => (hs.of_nodup (by decide) x).trans ?_
  · rw [List.map_cons, List.map_nil, List.mem_singleton] at hy; subst hy; exact lt_BC
  · simp only [List.map_cons, List.map_nil, List.mem_cons, List.not_mem_nil, or_false]
    exact Or.comm
theorem none_of {t t' : List OC} (hs : SortOf [] t) (hc : t'.map core = t) : t' = [] := by
  have : t = [] := inc_ext hs.inc List.Pairwise.nil fun x => (hs.of_nodup (by simp) x)
  rw [this] at hc
  exact List.map_eq_nil_iff.1 hc
theorem form0 {w : World} {u : Value} (h : OpsV w u []) : ∃ a c, u = .slice a 0 c := by
  obtain ⟨a, n, c, rfl, hI⟩ := h
  have : n = 0 := hI.1.symm
  subst this
  exact ⟨a, c, rfl⟩
theorem ok_CB : okAll 2 [tC, tB] := fun x hx => by
  simp only [List.mem_cons, List.not_mem_nil, or_false] at hx
  rcases hx with rfl | rfl
  · exact chkC
  · exact chkB
theorem ok_A : okAll 2 [tA] := fun x hx => by
  rw [List.mem_singleton] at hx; subst hx; exact chkA
theorem ok_BCA : okAll 2 [tB, tC, tA] := fun x hx => by
  simp only [List.mem_cons, List.not_mem_nil, or_false] at hx
  rcases hx with rfl | rfl | rfl
  · exact chkB
  · exact chkC
  · exact chkA
theorem no_0 : ¬ okAll 2 [(zeroO, [])] := fun h => by
  have := h _ (List.mem_singleton.2 rfl)
  rw [chk0] at this
  cases this
theorem b0 : Bare (zeroO, []) := ⟨ok_zeroO, rfl, rfl⟩
theorem flat1 (x : OC) : (oc x.1).toList = flatO [x] := by simp [flatO]
theorem put2_st {W0 w w' : World} {p mb : Nat} {v : Value} (hr : PutR W0 p mb 2 z8 [core tC, core tB] [core tA] w v w') : HS W0 p mb 2 h3 [] w' ∧ (∀ u l, OpsV w u l → OpsV w' u l) ∧ ∃ x z, v = .tuple #[x, .int .i64 0] ∧ OpsV w' x z ∧ z.map core = [tA, tB, tC].map core := by
  have h1 := hr.st
  have h2 := hr.val
  rw [put2] at h1 h2
  exact ⟨h1, hr.ops, h2⟩
theorem put3_st {W0 w w' : World} {p mb : Nat} {v : Value} (hr : PutR W0 p mb 2 h3 [] [core tB, core tC, core tA] w v w') : HS W0 p mb 2 h3 [] w' ∧ (∀ u l, OpsV w u l → OpsV w' u l) ∧ ∃ a c, v = .tuple #[.slice a 0 c, .int .i64 0] := by
  have h1 := hr.st
  have h2 := hr.val
  rw [put3] at h1 h2
  obtain ⟨x, z, hv, ho, hz⟩ := h2
  obtain rfl : z = [] := List.map_eq_nil_iff.1 hz
  obtain ⟨a, c, rfl⟩ := form0 ho
  exact ⟨h1, hr.ops, a, c, hv⟩
attribute [local irreducible] tA tB tC h3
set_option maxHeartbeats 4000000 in
theorem law_head (W0 : World) (hT : Tab W0) :
    Calls Tryd.prog 11 #[] W0 fun e w' => e = .returned (.bool true) ∧ Below W0.heap.size W0 w' := by
  have h3c := law_three W0
  have HT := hid hT
  clear hT
  go_enter Tryd.func11, Tryd.ntmps11
  go_upto_region 7 with (first
    | (go_at_call 24; refine h3c.mono ?_; clear h3c; rintro e w1 ⟨g, rfl, hl, hb⟩; have HL := hid hl; have HB1 := hid hb; have hN1 := new_ok 2 (by omega) W0 w1 hb; clear hl hb)
    | (refine build_is rfl 30 #[] rfl (cs := vc z8) (by kernel_rfl) ?_)
    | (refine build_is rfl 30 _ rfl (cs := vc v001) (by kernel_rfl) ?_)
    | (go_at_call 8; first
      | (refine hN1.mono ?_; clear hN1; rintro e w2 ⟨p, mb, rfl, hs, _, _, hb⟩; have HL2 := hid (HL.out.keep hb); have HS2 := hid hs; have hN2 := new_bad 9 (by omega) w2; clear hs hb HL)
      | (refine hN2.mono ?_; clear hN2; rintro e w3 ⟨rfl, hb⟩; have HB3 := hid hb; have hN3 := new_v001 w3; clear hb)
      | (refine hN3.mono ?_; clear hN3; rintro e w4 ⟨rfl, hb⟩; have HB4 := hid (below_next HB3.out hb); clear hb)))
  have HST := hid (show HS W0 p mb 2 z8 [] w4 from HS2.out.keep HB4.out)
  obtain ⟨a', l', cp', e, hI⟩ := HL2.out.keep HB4.out
  cases e
  have HLI := hid hI
  clear hI HL2 HS2 HB3 HB4 HB1
  generalize w4 = W7 at HST HLI ⊢
  refine R.wp_chain [7, 8, 9] (fun q u V => (match q with | 0 => V = W7.drew | 1 => V = W7.drew.alloc (.cells (oc tC.1 ++ oc tB.1) 50) | _ => PutR W0 p mb 2 z8 [] [core tC, core tB] (W7.drew.alloc (.cells (oc tC.1 ++ oc tB.1) 50)) (u 1) V)) (fun i u => [.pointer (some ⟨p, 0, none⟩), .slice (some ⟨g, 0, none⟩) 3 3, .pointer (some ((⟨g, 0, none⟩ : Addr).add (2 * 29))), .agg (oc tC.1), .slice (some ⟨g, 0, none⟩) 3 3, .pointer (some ((⟨g, 0, none⟩ : Addr).add (1 * 29))), .agg (oc tB.1), .slice (some ⟨W7.heap.size, 0, none⟩) 2 2, u 1, u 1, tupA (u 1) 0, tupA (u 1) 1, tupA (u 1) 0, tupA (u 1) 1].getD i undef) (fun _ => undef) 131 (by kernel_rfl) (by kernel_rfl) rfl (by kernel_rfl) (by kernel_rfl) ?_ ?_ rfl ?_
  · simp only [R.HVs, R.HV]
    repeat' (first | trivial | refine And.intro ?_ ?_ | exact fun _ _ _ => rfl | (refine fun h => absurd (h.symm.trans (b := _) (c := false) ?_) (by decide); kernel_rfl))
  · refine ⟨?_, ?_, ?_, ?_, ?_, ?_, ?_, ?_, ?_, ?_, ?_, ?_, ?_, ?_, trivial⟩
    · exact R.l_move _ (.inl rfl) (by kernel_rfl) rfl rfl (R.ev_base (by kernel_rfl) rfl)
    · exact R.l_move _ (.inl rfl) (by kernel_rfl) rfl rfl (R.ev_base (by kernel_rfl) rfl)
    · exact R.l_read (by kernel_rfl) rfl rfl (fun q u a V hlo hhi hb hv hP => x_iaddr rfl ((R.eval_at (i := 1) rfl).trans (hv 1 (by kernel_rfl))) rfl (idx_op ⟨g, 0, none⟩ 3 3 2 (by decide) _))
    · exact R.l_read (by kernel_rfl) rfl rfl (fun q u a V hlo hhi hb hv hP => (by have hh : q ≤ 0 := hhi; match q, hh, hP with | 0, _, hP => obtain rfl : V = W7.drew := hP; exact x_load rfl ((R.eval_at (i := 2) rfl).trans (hv 2 (by kernel_rfl))) (ldp_op (OpIn.keep (show OpIn W7 ((⟨g, 0, none⟩ : Addr).add (2 * 29)) tC.1 from HLI.out.2.2.2.2 2 tC rfl) (below_dr W7)))))
    · exact R.l_move _ (.inl rfl) (by kernel_rfl) rfl rfl (R.ev_base (by kernel_rfl) rfl)
    · exact R.l_read (by kernel_rfl) rfl rfl (fun q u a V hlo hhi hb hv hP => x_iaddr rfl ((R.eval_at (i := 4) rfl).trans (hv 4 (by kernel_rfl))) rfl (idx_op ⟨g, 0, none⟩ 3 3 1 (by decide) _))
    · exact R.l_read (by kernel_rfl) rfl rfl (fun q u a V hlo hhi hb hv hP => (by have hh : q ≤ 0 := hhi; match q, hh, hP with | 0, _, hP => obtain rfl : V = W7.drew := hP; exact x_load rfl ((R.eval_at (i := 5) rfl).trans (hv 5 (by kernel_rfl))) (ldp_op (OpIn.keep (show OpIn W7 ((⟨g, 0, none⟩ : Addr).add (1 * 29)) tB.1 from HLI.out.2.2.2.2 1 tB rfl) (below_dr W7)))))
    · exact R.l_turn (p := 0) (by kernel_rfl) rfl _ (fun u a V hb hv hP => (by obtain rfl : V = W7.drew := hP; exact ⟨_, x_laid2 rfl ((R.eval_at (i := 3) rfl).trans (hv 3 (by kernel_rfl))) ((R.eval_at (i := 6) rfl).trans (hv 6 (by kernel_rfl))), rfl, rfl⟩))
    · exact R.l_call (p := 1) (by kernel_rfl) rfl (fun u a V hb hv hP => (by obtain rfl : V = W7.drew.alloc (.cells (oc tC.1 ++ oc tB.1) 50) := hP; have hbl := (below_dr W7).trans (below_al W7.drew (.cells (oc tC.1 ++ oc tB.1) 50)); refine ⟨_, _, call_run rfl (fun args w => rfl) a _, ?_⟩; simp only [List.map_toArray, List.map_cons, List.map_nil, ((R.eval_at (i := 0) rfl).trans (hv 0 (by kernel_rfl))), ((R.eval_at (i := 7) rfl).trans (hv 7 (by kernel_rfl)))]; refine (put_ok (HS.keep HST.out hbl) HT.out _ [tC, tB] (row_bare (l := [tC, tB]) (flat2 _ _) (by decide) (fun x hx => (by simp only [List.mem_cons, List.not_mem_nil, or_false] at hx; rcases hx with rfl | rfl; exact bC; exact bB))) ok_CB (by decide)).mono ?_; rintro e w' ⟨v, rfl, hr⟩; exact ⟨v, rfl, hr, rfl⟩))
    · exact R.turns_of (p := 2) (by kernel_rfl) (fun u a V hb hP hv => ⟨R.wanted_none rfl, fun K hK => (by have e9 : a.eval (.tmp 48) = u 1 := ((R.eval_at (i := 8) rfl).trans (hv 8 (by kernel_rfl))); unfold Oper.wp; rw [run_move (.tmp 48) (.inl rfl) a V, e9]; exact hK _ V hP rfl)⟩)
    · exact R.l_read (by kernel_rfl) rfl rfl (fun q u a V hlo hhi hb hv hP => x_ext rfl ((R.eval_at (i := 9) rfl).trans (hv 9 (by kernel_rfl))) (match q, (show 3 ≤ q from hlo), hP with | 0, h9, _ => absurd h9 (by decide) | 1, h9, _ => absurd h9 (by decide) | 2, h9, _ => absurd h9 (by decide) | q + 3, _, hP => (by have hr : PutR W0 p mb 2 z8 [] [core tC, core tB] (W7.drew.alloc (.cells (oc tC.1 ++ oc tB.1) 50)) (u 1) V := hP; obtain ⟨x, z, hx, _⟩ := hr.val; exact (ext_tup hx).1)))
    · exact R.l_read (by kernel_rfl) rfl rfl (fun q u a V hlo hhi hb hv hP => x_ext rfl ((R.eval_at (i := 9) rfl).trans (hv 9 (by kernel_rfl))) (match q, (show 3 ≤ q from hlo), hP with | 0, h9, _ => absurd h9 (by decide) | 1, h9, _ => absurd h9 (by decide) | 2, h9, _ => absurd h9 (by decide) | q + 3, _, hP => (by have hr : PutR W0 p mb 2 z8 [] [core tC, core tB] (W7.drew.alloc (.cells (oc tC.1 ++ oc tB.1) 50)) (u 1) V := hP; obtain ⟨x, z, hx, _⟩ := hr.val; exact (ext_tup hx).2)))
    · exact R.l_move _ (.inr rfl) (by kernel_rfl) rfl rfl (R.ev_at (i := 10) rfl (by kernel_rfl))
    · exact R.l_move _ (.inr rfl) (by kernel_rfl) rfl rfl (R.ev_at (i := 11) rfl (by kernel_rfl))
  rintro uu W5 hW5
  simp only [R.fill, List.getD_cons_zero, List.getD_cons_succ, List.setIfInBounds_toArray, List.set_cons_zero, List.set_cons_succ]
  have hR : PutR W0 p mb 2 z8 [] [core tC, core tB] (W7.drew.alloc (.cells (oc tC.1 ++ oc tB.1) 50)) (uu 1) W5 := hW5
  clear hW5
  obtain ⟨x8, z8', hx8, ho8, hz8⟩ := hR.val
  have hs5 := hR.st
  rw [put1] at hs5 hz8
  obtain rfl : z8' = [] := List.map_eq_nil_iff.1 hz8
  obtain ⟨pa, pc, rfl⟩ := form0 ho8
  have t0 : tupA (uu 1) 0 = .slice pa 0 pc := by rw [hx8]; rfl
  have t1 : tupA (uu 1) 1 = .int .i64 0 := by rw [hx8]; rfl
  simp only [t0, t1]
  have HS5 := hid (show HS W0 p mb 2 z8 [core tC, core tB] W5 from hs5)
  have HL5 := hid (hR.ops _ _ (OpsV.keep ⟨_, _, _, rfl, HLI.out⟩ ((below_dr W7).trans (below_al W7.drew (.cells (oc tC.1 ++ oc tB.1) 50)))))
  clear hR hs5 hz8 ho8 hx8 t0 t1 HLI HST
  generalize uu 1 = u8
  generalize W7.heap.size = s7
  (try simp only [Exit.inBlock, Exit.then])
  go_at_K
  have hwt := waits_ok HS5.out (by decide)
  go_upto_region 10 with (first
    | (go_at_call 18; refine hwt.mono ?_; clear hwt; rintro e w6 ⟨uw, t, t', rfl, ho, hs, hc, hb⟩; have HW6 := hid (And.intro ho (two_of hs hc)); have HS6 := hid (HS5.out.keep hb); have HL6 := hid (HL5.out.keep hb); have HXI := hid (show OpIn w6 ⟨g, 0, none⟩ tA.1 from (by obtain ⟨a9, l9, c9, e9, hI9⟩ := HL6.out; cases e9; exact fun k hk => by have := hI9.2.2.2.2 0 tA rfl k hk; exact this)); have hp9 := put_ok (HS6.out.keep (below_al w6 (.cells (oc tA.1) 50))) HT.out _ [tA] (row_bare (l := [tA]) (flat1 tA) (by decide) (fun x hx => (by rw [List.mem_singleton] at hx; subst hx; exact bA))) ok_A (by decide); clear ho hs hc hb HS5 HL5)
    | (refine load_opIn _ rfl rfl ⟨g, 0, none⟩ rfl tA.1 HXI.out ?_)
    | (refine build_op rfl _ rfl tA.1 rfl ?_)
    | (go_at_call 13; refine hp9.mono ?_; clear hp9; rintro e w9 ⟨v9, rfl, hr⟩; obtain ⟨r1, r2, x9, z9, rfl, r3, r4⟩ := put2_st hr; have hal := below_al w6 (.cells (oc tA.1) 50); have HS9 := hid r1; have HW9 := hid (And.intro (r2 _ _ (HW6.out.1.keep hal)) HW6.out.2); have HY9 := hid (And.intro r3 r4); have HL9 := hid (r2 _ _ (HL6.out.keep hal)); clear hr r1 r2 r3 r4 hal HS6 HL6 HW6 HXI))
  obtain ⟨a', l', cp', e, hI⟩ := HL9.out
  cases e
  have HLI := hid hI
  have HST := hid (show HS W0 p mb 2 h3 [] w9 from HS9.out)
  clear hI HL9 HS9
  generalize w9 = W7 at HST HLI HW9 HY9 ⊢
  refine R.wp_chain [10, 11, 12] (fun q u V => (match q with | 0 => V = W7.drew | 1 => V = W7.drew.alloc (.cells (oc tB.1 ++ oc tC.1 ++ oc tA.1) 50) | _ => PutR W0 p mb 2 h3 [] [core tB, core tC, core tA] (W7.drew.alloc (.cells (oc tB.1 ++ oc tC.1 ++ oc tA.1) 50)) (u 1) V)) (fun i u => [.pointer (some ⟨p, 0, none⟩), .slice (some ⟨g, 0, none⟩) 3 3, .pointer (some ((⟨g, 0, none⟩ : Addr).add (1 * 29))), .agg (oc tB.1), .slice (some ⟨g, 0, none⟩) 3 3, .pointer (some ((⟨g, 0, none⟩ : Addr).add (2 * 29))), .agg (oc tC.1), .slice (some ⟨g, 0, none⟩) 3 3, .pointer (some ((⟨g, 0, none⟩ : Addr).add (0 * 29))), .agg (oc tA.1), .slice (some ⟨W7.heap.size, 0, none⟩) 3 3, u 1, u 1, tupA (u 1) 0, tupA (u 1) 1, tupA (u 1) 0, tupA (u 1) 1].getD i undef) (fun _ => undef) 131 (by kernel_rfl) (by kernel_rfl) rfl (by kernel_rfl) (by kernel_rfl) ?_ ?_ rfl ?_
  · simp only [R.HVs, R.HV]
    repeat' (first | trivial | refine And.intro ?_ ?_ | exact fun _ _ _ => rfl | (refine fun h => absurd (h.symm.trans (b := _) (c := false) ?_) (by decide); kernel_rfl))
  · refine ⟨?_, ?_, ?_, ?_, ?_, ?_, ?_, ?_, ?_, ?_, ?_, ?_, ?_, ?_, ?_, ?_, ?_, trivial⟩
    · exact R.l_move _ (.inl rfl) (by kernel_rfl) rfl rfl (R.ev_base (by kernel_rfl) rfl)
    · exact R.l_move _ (.inl rfl) (by kernel_rfl) rfl rfl (R.ev_base (by kernel_rfl) rfl)
    · exact R.l_read (by kernel_rfl) rfl rfl (fun q u a V hlo hhi hb hv hP => x_iaddr rfl ((R.eval_at (i := 1) rfl).trans (hv 1 (by kernel_rfl))) rfl (idx_op ⟨g, 0, none⟩ 3 3 1 (by decide) _))
    · exact R.l_read (by kernel_rfl) rfl rfl (fun q u a V hlo hhi hb hv hP => (by have hh : q ≤ 0 := hhi; match q, hh, hP with | 0, _, hP => obtain rfl : V = W7.drew := hP; exact x_load rfl ((R.eval_at (i := 2) rfl).trans (hv 2 (by kernel_rfl))) (ldp_op (OpIn.keep (show OpIn W7 ((⟨g, 0, none⟩ : Addr).add (1 * 29)) tB.1 from HLI.out.2.2.2.2 1 tB rfl) (below_dr W7)))))
    · exact R.l_move _ (.inl rfl) (by kernel_rfl) rfl rfl (R.ev_base (by kernel_rfl) rfl)
    · exact R.l_read (by kernel_rfl) rfl rfl (fun q u a V hlo hhi hb hv hP => x_iaddr rfl ((R.eval_at (i := 4) rfl).trans (hv 4 (by kernel_rfl))) rfl (idx_op ⟨g, 0, none⟩ 3 3 2 (by decide) _))
    · exact R.l_read (by kernel_rfl) rfl rfl (fun q u a V hlo hhi hb hv hP => (by have hh : q ≤ 0 := hhi; match q, hh, hP with | 0, _, hP => obtain rfl : V = W7.drew := hP; exact x_load rfl ((R.eval_at (i := 5) rfl).trans (hv 5 (by kernel_rfl))) (ldp_op (OpIn.keep (show OpIn W7 ((⟨g, 0, none⟩ : Addr).add (2 * 29)) tC.1 from HLI.out.2.2.2.2 2 tC rfl) (below_dr W7)))))
    · exact R.l_move _ (.inl rfl) (by kernel_rfl) rfl rfl (R.ev_base (by kernel_rfl) rfl)
    · exact R.l_read (by kernel_rfl) rfl rfl (fun q u a V hlo hhi hb hv hP => x_iaddr rfl ((R.eval_at (i := 7) rfl).trans (hv 7 (by kernel_rfl))) rfl (idx_op ⟨g, 0, none⟩ 3 3 0 (by decide) _))
    · exact R.l_read (by kernel_rfl) rfl rfl (fun q u a V hlo hhi hb hv hP => (by have hh : q ≤ 0 := hhi; match q, hh, hP with | 0, _, hP => obtain rfl : V = W7.drew := hP; exact x_load rfl ((R.eval_at (i := 8) rfl).trans (hv 8 (by kernel_rfl))) (ldp_op (OpIn.keep (show OpIn W7 ((⟨g, 0, none⟩ : Addr).add (0 * 29)) tA.1 from HLI.out.2.2.2.2 0 tA rfl) (below_dr W7)))))
    · exact R.l_turn (p := 0) (by kernel_rfl) rfl _ (fun u a V hb hv hP => (by obtain rfl : V = W7.drew := hP; exact ⟨_, x_laid3 rfl ((R.eval_at (i := 3) rfl).trans (hv 3 (by kernel_rfl))) ((R.eval_at (i := 6) rfl).trans (hv 6 (by kernel_rfl))) ((R.eval_at (i := 9) rfl).trans (hv 9 (by kernel_rfl))), rfl, rfl⟩))
    · exact R.l_call (p := 1) (by kernel_rfl) rfl (fun u a V hb hv hP => (by obtain rfl : V = W7.drew.alloc (.cells (oc tB.1 ++ oc tC.1 ++ oc tA.1) 50) := hP; have hbl := (below_dr W7).trans (below_al W7.drew (.cells (oc tB.1 ++ oc tC.1 ++ oc tA.1) 50)); refine ⟨_, _, call_run rfl (fun args w => rfl) a _, ?_⟩; simp only [List.map_toArray, List.map_cons, List.map_nil, ((R.eval_at (i := 0) rfl).trans (hv 0 (by kernel_rfl))), ((R.eval_at (i := 10) rfl).trans (hv 10 (by kernel_rfl)))]; refine (put_ok (HS.keep HST.out hbl) HT.out _ [tB, tC, tA] (row_bare (l := [tB, tC, tA]) (flat3 _ _ _) (by decide) (fun x hx => (by simp only [List.mem_cons, List.not_mem_nil, or_false] at hx; rcases hx with rfl | rfl | rfl; exact bB; exact bC; exact bA))) ok_BCA (by decide)).mono ?_; rintro e w' ⟨v, rfl, hr⟩; exact ⟨v, rfl, hr, rfl⟩))
    · exact R.turns_of (p := 2) (by kernel_rfl) (fun u a V hb hP hv => ⟨R.wanted_none rfl, fun K hK => (by have e9 : a.eval (.tmp 74) = u 1 := ((R.eval_at (i := 11) rfl).trans (hv 11 (by kernel_rfl))); unfold Oper.wp; rw [run_move (.tmp 74) (.inl rfl) a V, e9]; exact hK _ V hP rfl)⟩)
    · exact R.l_read (by kernel_rfl) rfl rfl (fun q u a V hlo hhi hb hv hP => x_ext rfl ((R.eval_at (i := 12) rfl).trans (hv 12 (by kernel_rfl))) (match q, (show 3 ≤ q from hlo), hP with | 0, h9, _ => absurd h9 (by decide) | 1, h9, _ => absurd h9 (by decide) | 2, h9, _ => absurd h9 (by decide) | q + 3, _, hP => (by have hr : PutR W0 p mb 2 h3 [] [core tB, core tC, core tA] (W7.drew.alloc (.cells (oc tB.1 ++ oc tC.1 ++ oc tA.1) 50)) (u 1) V := hP; obtain ⟨x, z, hx, _⟩ := hr.val; exact (ext_tup hx).1)))
    · exact R.l_read (by kernel_rfl) rfl rfl (fun q u a V hlo hhi hb hv hP => x_ext rfl ((R.eval_at (i := 12) rfl).trans (hv 12 (by kernel_rfl))) (match q, (show 3 ≤ q from hlo), hP with | 0, h9, _ => absurd h9 (by decide) | 1, h9, _ => absurd h9 (by decide) | 2, h9, _ => absurd h9 (by decide) | q + 3, _, hP => (by have hr : PutR W0 p mb 2 h3 [] [core tB, core tC, core tA] (W7.drew.alloc (.cells (oc tB.1 ++ oc tC.1 ++ oc tA.1) 50)) (u 1) V := hP; obtain ⟨x, z, hx, _⟩ := hr.val; exact (ext_tup hx).2)))
    · exact R.l_move _ (.inr rfl) (by kernel_rfl) rfl rfl (R.ev_at (i := 13) rfl (by kernel_rfl))
    · exact R.l_move _ (.inr rfl) (by kernel_rfl) rfl rfl (R.ev_at (i := 14) rfl (by kernel_rfl))
  rintro uu W5 hW5
  simp only [R.fill, List.getD_cons_zero, List.getD_cons_succ, List.setIfInBounds_toArray, List.set_cons_zero, List.set_cons_succ]
  have hR := put3_st (show PutR W0 p mb 2 h3 [] [core tB, core tC, core tA] (W7.drew.alloc (.cells (oc tB.1 ++ oc tC.1 ++ oc tA.1) 50)) (uu 1) W5 from hW5)
  clear hW5
  obtain ⟨hs5, hops, qa, qc, hx13⟩ := hR
  have t0 : tupA (uu 1) 0 = .slice qa 0 qc := by rw [hx13]; rfl
  have t1 : tupA (uu 1) 1 = .int .i64 0 := by rw [hx13]; rfl
  simp only [t0, t1]
  have hbl := (below_dr W7).trans (below_al W7.drew (.cells (oc tB.1 ++ oc tC.1 ++ oc tA.1) 50))
  have HS5 := hid hs5
  have HW5 := hid (And.intro (hops _ _ (HW9.out.1.keep hbl)) HW9.out.2)
  have HY5 := hid (And.intro (hops _ _ (HY9.out.1.keep hbl)) HY9.out.2)
  have HL5 := hid (hops _ _ (OpsV.keep ⟨_, _, _, rfl, HLI.out⟩ hbl))
  clear hs5 hops hx13 t0 t1 hbl HW9 HY9 HLI HST
  generalize uu 1 = u13
  generalize W7.heap.size = s10
  (try simp only [Exit.inBlock, Exit.then])
  go_at_K
  have hal := below_al W5 (.cells (oc zeroO) 50)
  have hp11 := put_err (HS5.out.keep hal) HT.out _ [(zeroO, [])] (row_bare (l := [(zeroO, [])]) (flat1 (zeroO, [])) (by decide) (fun x hx => (by rw [List.mem_singleton] at hx; subst hx; exact b0))) no_0 (by decide)
  clear hal
  go_upto_region 12 with (first
    | (refine build_is rfl 50 #[] rfl (cs := oc zeroO) (by kernel_rfl) ?_)
    | (refine build_op rfl _ rfl zeroO rfl ?_)
    | (go_at_call 13; refine hp11.mono ?_; clear hp11; rintro e w11 ⟨rfl, hb⟩; have HB11 := hid ((below_al W5 (.cells (oc zeroO) 50)).trans (hb.mono (by simp))); clear hb))
  have HS6 := hid (HS5.out.keep HB11.out)
  obtain ⟨a', l', cp', e, hI⟩ := HL5.out.keep HB11.out
  cases e
  obtain ⟨q1, hsl, hso⟩ := sl_fromV hI (show 1 ≤ 3 by decide)
  have HL6 := hid (show OpsV w11 (.slice (some ⟨g, 0, none⟩) 3 3) [tA, tB, tC] from ⟨_, _, _, rfl, hI⟩)
  have hs1 := ref_SameAll uw (.slice q1 (3 - 1) (3 - 1)) t' [tB, tC] w11 (HW5.out.1.keep HB11.out) (hso _ hI) HW5.out.2
  have HY6 := hid (And.intro (HY5.out.1.keep HB11.out) HY5.out.2)
  clear hI hso HW5 HY5 HL5 HS5
  go_wp2_with (first
    | (refine wp_sliceW rfl _ _ 22 rfl rfl rfl (hsl _) ?_)
    | (go_at_call 15; first
      | (refine hs1.mono ?_; clear hs1; rintro e w12 ⟨rfl, hb⟩; have HB12 := hid hb; have hs2 := ref_SameAll x9 (.slice (some ⟨g, 0, none⟩) 3 3) z9 [tA, tB, tC] w12 (HY6.out.1.keep hb) (HL6.out.keep hb) HY6.out.2; clear hb)
      | (refine hs2.mono ?_; clear hs2; rintro e w13 ⟨rfl, hb⟩; have HS7 := hid ((HS6.out.keep HB12.out).keep hb); have hh := has_ok HS7.out; clear hb))
    | (go_at_call 17; refine hh.mono ?_; clear hh; rintro e w14 ⟨rfl, hb⟩; have HS8 := hid (HS7.out.keep hb); have hw2 := waits_ok HS8.out (by decide); clear hb)
    | (refine build_is rfl 30 _ rfl (cs := vc h3) (by kernel_rfl) ?_)
    | (refine wp_binW rfl _ _ .eql 30 _ rfl rfl rfl (eql_vv h3 _ _ _) ?_)
    | (go_at_call 18; refine hw2.mono ?_; clear hw2; rintro e w15 ⟨u2, t2, t3, rfl, ho, hs, hc, hb⟩; obtain rfl := none_of hs hc; obtain ⟨a2, c2, rfl⟩ := form0 ho; have HS9 := hid (HS8.out.keep hb); clear ho hs hc hb))
  go_ret
  exact ⟨rfl, HS9.out.below⟩
end Go.Proofs.YtfnmekmgjcjglaaDoor.V
