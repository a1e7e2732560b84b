/-
  op.Put.
-/
import Derived.Test.YtagjgknkkbkjgaaOF
namespace Go.Proofs.Ytagjgknkkbkjgaa.V
set_option linter.unusedVariables false
set_option linter.unusedSimpArgs false
set_option maxRecDepth 100000
open Go Go.RowKit Go.Maps Wire

set_option maxRecDepth 100000
set_option linter.unusedVariables false
set_option linter.unusedSimpArgs false
def vl (v : Vec) : List Nat := [v 0, v 1, v 2, v 3, v 4, v 5, v 6, v 7]
theorem vl_cells (v : Vec) : vcells (vl v) = #[.int .u32 (v 0 : Int), .int .u32 (v 1 : Int), .int .u32 (v 2 : Int), .int .u32 (v 3 : Int), .int .u32 (v 4 : Int), .int .u32 (v 5 : Int), .int .u32 (v 6 : Int), .int .u32 (v 7 : Int)] := rfl
theorem vl_lt {v : Vec} (h : okV v) : ∀ n ∈ vl v, n < 4294967296 := by
  intro n hn
  simp only [vl, List.mem_cons, List.not_mem_nil, or_false] at hn
  rcases hn with h' | h' | h' | h' | h' | h' | h' | h' <;> (rw [h']; exact h.1 _)
def encC (x : Claim) : List UInt8 := encD x.1.1 x.1.2 ++ encD x.2.1 x.2.2
def encLs (l : List Claim) : List UInt8 := l.flatMap encC
theorem encLs_take {l : List Claim} {k : Nat} {x : Claim} (hx : l[k]? = some x) : encLs (l.take (k + 1)) = encLs (l.take k) ++ (encD x.1.1 x.1.2 ++ encD x.2.1 x.2.2) := by
  rw [← take_snocC hx]; simp [encLs, encC]
/-- The bytes of an operation. -/
def encH (o : OpM) (n : Nat) : List UInt8 := encD o.r o.n ++ (encV (vl o.dep) ++ (enc o.tm ++ (enc o.who ++ (encD o.cr o.cn ++ (enc o.kd ++ (encD o.dr o.dn ++ (enc o.to ++ (enc o.ro ++ (enc o.de ++ (enc o.cap ++ (encD o.ar o.an ++ (encD o.vr o.vn ++ (enc o.it ++ (enc o.qt ++ (enc o.pr ++ (enc n))))))))))))))))
def encO (o : OpM) (l : List Claim) : List UInt8 := encH o l.length ++ encLs l
/-- What op.Put returns. -/
def putM (o : OpM) (l : List Claim) : List UInt8 × Int := if 16 < l.length then ([], 3) else (encO o l, 0)

/-- A writer beside an operation's box. -/
structure PS (w0 : World) (B g b : Nat) (o : OpM) (W : World) (L : List UInt8) (c : Nat) : Prop where
  at_ : WAt W B g L
  len : L.length ≤ c
  op : OpAt W b o
  size : B ≤ W.heap.size
  keeps : Keeps B (some g) w0 W
  hb : b < B
  hg : B ≤ g
theorem PS.kept {w0 W w' : World} {B g b c : Nat} {o : OpM} {L : List UInt8} (h : PS w0 B g b o W L c) (hB : Below W.heap.size W w') : PS w0 B g b o w' L c :=
  ⟨h.at_.kept hB, h.len, h.op.keep hB, Nat.le_trans h.size hB.size, h.keeps.trans (hB.keeps (some g) B h.size), h.hb, h.hg⟩
theorem PS.next {w0 W w' : World} {B g b c : Nat} {o : OpM} {L : List UInt8} (h : PS w0 B g b o W L c) {m : List UInt8} {d : Nat} (hm : m.length ≤ d) (ha : WAt w' B g (L ++ m)) (hk : Keeps B (some g) W w') : PS w0 B g b o w' (L ++ m) (c + d) :=
  ⟨ha, by rw [List.length_append]; have := h.len; omega, (hk.block b h.hb (fun e => by have := h.hg; have := h.hb; cases e; omega)).trans h.op, Nat.le_trans h.size hk.size, h.keeps.trans hk, h.hb, h.hg⟩
theorem PS.cast {w0 W : World} {B g b c c' : Nat} {o : OpM} {L L' : List UInt8} (h : PS w0 B g b o W L c) (hL : L = L') (hc : c = c') : PS w0 B g b o W L' c' := hL ▸ hc ▸ h
theorem PS.num {w0 W : World} {B g b c n : Nat} {o : OpM} {L : List UInt8} (h : PS w0 B g b o W L c) (hc : c ≤ 900000) (hn : n < 18446744073709551616) :
    Calls Try.prog 19 #[.pointer (some ⟨g, 0, none⟩), .int .u64 n] W fun e w' => e = .returned (.tuple #[]) ∧ PS w0 B g b o w' (L ++ enc n) (c + 9) ∧ Keeps B (some g) W w' :=
  (wire_put_Num W B g n L h.at_ h.size (by have := h.len; omega) hn).mono fun _ _ ⟨h1, h2, h3⟩ => ⟨h1, h.next (enc_len hn) h2 h3, h3⟩
theorem PS.dot {w0 W : World} {B g b c r n : Nat} {o : OpM} {L : List UInt8} (h : PS w0 B g b o W L c) (hc : c ≤ 900000) (hr : r < 256) (hn : n < 4294967296) :
    Calls Try.prog 48 #[.pointer (some ⟨g, 0, none⟩), .agg #[.int .u8 r, .int .u32 n]] W fun e w' => e = .returned (.tuple #[]) ∧ PS w0 B g b o w' (L ++ encD r n) (c + 18) ∧ Keeps B (some g) W w' :=
  (wire_put_Dot W B g r n L h.at_ h.size (by have := h.len; omega) hr hn).mono fun _ _ ⟨h1, h2, h3⟩ => ⟨h1, h.next (by unfold encD; rw [List.length_append]; have := enc_len (n := r) (by omega); have := enc_len (n := n) (by omega); omega) h2 h3, h3⟩
theorem PS.vec {w0 W : World} {B g b c : Nat} {v : Vec} {o : OpM} {L : List UInt8} (h : PS w0 B g b o W L c) (hc : c ≤ 900000) (hv : okV v) :
    Calls Try.prog 20 #[.pointer (some ⟨g, 0, none⟩), .agg #[.int .u32 (v 0 : Int), .int .u32 (v 1 : Int), .int .u32 (v 2 : Int), .int .u32 (v 3 : Int), .int .u32 (v 4 : Int), .int .u32 (v 5 : Int), .int .u32 (v 6 : Int), .int .u32 (v 7 : Int)]] W fun e w' => e = .returned (.tuple #[]) ∧ PS w0 B g b o w' (L ++ encV (vl v)) (c + 72) ∧ Keeps B (some g) W w' :=
  (wire_put_Vector W B g (vl v) L h.at_ h.size (by have := h.len; omega) rfl (vl_lt hv)).mono fun _ _ ⟨h1, h2, h3⟩ => ⟨h1, h.next (encV_len (vl_lt hv)) h2 h3, h3⟩

set_option maxHeartbeats 2000000 in
theorem op_Put (o : OpM) (hok : okO o) (l : List Claim) (w : World) (hv : ClaimsV w o.lv l) :
    Calls Try.prog 21 #[.agg (oc o)] w
      fun e w' => e = .returned (.tuple #[.string (ba (putM o l).1), .int .i64 (putM o l).2]) ∧ Below w.heap.size w w' := by
  obtain ⟨ad, len, cap, hlv, hI⟩ := hv
  have hlen := hI.1
  have HE := hid (below_al w (.cells (oc o) 50))
  have HLV := hid hlv
  unfold putM
  rw [hlen]
  have g28 : (oc o)[28]? = some (.slice ad len cap) := by rw [← hlv]; rfl
  by_cases h16 : 16 < len
  · rw [if_pos h16]
    have t1 : decide (16 < (len : Int)) = true := decide_eq_true (by omega)
    have HI := hid hI
    clear hI hlv hlen
    go_enter Try.func21, Try.ntmps21
    go_wp2
    ((try simp only [Exit.inBlock, Exit.then]); refine bodyPost_ret (results_tmp2 rfl _ _ _) rfl ?_)
    exact ⟨rfl, HE.out⟩
  · rw [if_neg h16]
    have t1 : decide (16 < (len : Int)) = false := decide_eq_false (by omega)
    have ulen : IntKind.u64.wrap (len : Int) = (len : Int) := by rw [wrap_u64]; omega
    have uwho : IntKind.u64.wrap (o.who : Int) = (o.who : Int) := by have := hok.who; rw [wrap_u64]; omega
    have ukd : IntKind.u64.wrap (o.kd : Int) = (o.kd : Int) := by have := hok.kd; rw [wrap_u64]; omega
    have uto : IntKind.u64.wrap (o.to : Int) = (o.to : Int) := by have := hok.to; rw [wrap_u64]; omega
    have uro : IntKind.u64.wrap (o.ro : Int) = (o.ro : Int) := by have := hok.ro; rw [wrap_u64]; omega
    have ude : IntKind.u64.wrap (o.de : Int) = (o.de : Int) := by have := hok.de; rw [wrap_u64]; omega
    have uit : IntKind.u64.wrap (o.it : Int) = (o.it : Int) := by have := hok.it; rw [wrap_u64]; omega
    have uqt : IntKind.u64.wrap (o.qt : Int) = (o.qt : Int) := by have := hok.qt; rw [wrap_u64]; omega
    have upr : IntKind.u64.wrap (o.pr : Int) = (o.pr : Int) := by have := hok.pr; rw [wrap_u64]; omega
    obtain ⟨v, hval⟩ : ∃ v, ba (encO o l) = v := ⟨_, rfl⟩
    dsimp only
    rw [hval]
    have HVAL := hid hval
    have HI := hid hI
    have HL := hid (And.intro hlen h16)
    have hl16 : len ≤ 16 := by omega
    clear hval hI hlv hlen h16
    go_enter Try.func21, Try.ntmps21
    go_upto_region 4 with (first
      | (go_at_call 18; (with_reducible refine (wire_New _).mono ?_); rintro e w0 ⟨rfl, hw0⟩; have HW0 := hid hw0; clear hw0))
    have hP0 : PS w0 (w.heap.size + 1) (w.heap.size + 1) w.heap.size o w0 [] 0 := by
      have hw0 := HW0.out
      clear HW0
      subst hw0
      refine ⟨WAt.at_nil _ _ _ (by simpa using heap_alloc_last' (w.alloc (.cells (oc o) 50)) (.cells #[.slice none 0 0, .bool true] 88)), Nat.le_refl _, (opAt_new w o).al _, by simp, Keeps.refl _ _ _, by omega, Nat.le_refl _⟩
    have HB0 := hid (show Below w.heap.size w w0 by rw [HW0.out]; exact below_al2 _ _ _)
    have HP0 := hid hP0
    have hsz : w.heap.size + 1 = w.heap.size + 1 := rfl
    clear HW0 hP0 hsz g28
    (try simp only [World.size_alloc])
    have c0 := HP0.out.op.c0
    have c1 := HP0.out.op.c1
    go_upto_region 5 with (first | (go_at_call 48; (with_reducible refine (HP0.out.dot (by omega) (by have := hok.r; omega) (by have := hok.n; omega)).mono ?_); rintro e w1 ⟨rfl, hp, hk⟩; have HP1 := hid hp; clear hp hk c0 c1; have c2 := HP1.out.op.c2; have c3 := HP1.out.op.c3; have c4 := HP1.out.op.c4; have c5 := HP1.out.op.c5; have c6 := HP1.out.op.c6; have c7 := HP1.out.op.c7; have c8 := HP1.out.op.c8; have c9 := HP1.out.op.c9))
    go_upto_region 6 with (first | (go_at_call 20; (with_reducible refine (HP1.out.vec (by omega) hok.dep).mono ?_); rintro e w2 ⟨rfl, hp, hk⟩; have HP2 := hid hp; clear hp hk c2 c3 c4 c5 c6 c7 c8 c9; have c10 := HP2.out.op.c10))
    go_upto_region 7 with (first | (go_at_call 19; (with_reducible refine (HP2.out.num (by omega) (by have := hok.tm; omega)).mono ?_); rintro e w3 ⟨rfl, hp, hk⟩; have HP3 := hid hp; clear hp hk c10; have c11 := HP3.out.op.c11))
    go_upto_region 8 with (first | (go_at_call 19; (with_reducible refine (HP3.out.num (by omega) (by have := hok.who; omega)).mono ?_); rintro e w4 ⟨rfl, hp, hk⟩; have HP4 := hid hp; clear hp hk c11; have c12 := HP4.out.op.c12; have c13 := HP4.out.op.c13))
    go_upto_region 9 with (first | (go_at_call 48; (with_reducible refine (HP4.out.dot (by omega) (by have := hok.cr; omega) (by have := hok.cn; omega)).mono ?_); rintro e w5 ⟨rfl, hp, hk⟩; have HP5 := hid hp; clear hp hk c12 c13; have c14 := HP5.out.op.c14))
    go_upto_region 10 with (first | (go_at_call 19; (with_reducible refine (HP5.out.num (by omega) (by have := hok.kd; omega)).mono ?_); rintro e w6 ⟨rfl, hp, hk⟩; have HP6 := hid hp; clear hp hk c14; have c15 := HP6.out.op.c15; have c16 := HP6.out.op.c16))
    go_upto_region 11 with (first | (go_at_call 48; (with_reducible refine (HP6.out.dot (by omega) (by have := hok.dr; omega) (by have := hok.dn; omega)).mono ?_); rintro e w7 ⟨rfl, hp, hk⟩; have HP7 := hid hp; clear hp hk c15 c16; have c17 := HP7.out.op.c17))
    go_upto_region 12 with (first | (go_at_call 19; (with_reducible refine (HP7.out.num (by omega) (by have := hok.to; omega)).mono ?_); rintro e w8 ⟨rfl, hp, hk⟩; have HP8 := hid hp; clear hp hk c17; have c18 := HP8.out.op.c18))
    go_upto_region 13 with (first | (go_at_call 19; (with_reducible refine (HP8.out.num (by omega) (by have := hok.ro; omega)).mono ?_); rintro e w9 ⟨rfl, hp, hk⟩; have HP9 := hid hp; clear hp hk c18; have c19 := HP9.out.op.c19))
    go_upto_region 14 with (first | (go_at_call 19; (with_reducible refine (HP9.out.num (by omega) (by have := hok.de; omega)).mono ?_); rintro e w10 ⟨rfl, hp, hk⟩; have HP10 := hid hp; clear hp hk c19; have c20 := HP10.out.op.c20))
    go_upto_region 15 with (first | (go_at_call 19; (with_reducible refine (HP10.out.num (by omega) (by have := hok.cap; omega)).mono ?_); rintro e w11 ⟨rfl, hp, hk⟩; have HP11 := hid hp; clear hp hk c20; have c21 := HP11.out.op.c21; have c22 := HP11.out.op.c22))
    go_upto_region 16 with (first | (go_at_call 48; (with_reducible refine (HP11.out.dot (by omega) (by have := hok.ar; omega) (by have := hok.an; omega)).mono ?_); rintro e w12 ⟨rfl, hp, hk⟩; have HP12 := hid hp; clear hp hk c21 c22; have c23 := HP12.out.op.c23; have c24 := HP12.out.op.c24))
    go_upto_region 17 with (first | (go_at_call 48; (with_reducible refine (HP12.out.dot (by omega) (by have := hok.vr; omega) (by have := hok.vn; omega)).mono ?_); rintro e w13 ⟨rfl, hp, hk⟩; have HP13 := hid hp; clear hp hk c23 c24; have c25 := HP13.out.op.c25))
    go_upto_region 18 with (first | (go_at_call 19; (with_reducible refine (HP13.out.num (by omega) (by have := hok.it; omega)).mono ?_); rintro e w14 ⟨rfl, hp, hk⟩; have HP14 := hid hp; clear hp hk c25; have c26 := HP14.out.op.c26))
    go_upto_region 19 with (first | (go_at_call 19; (with_reducible refine (HP14.out.num (by omega) (by have := hok.qt; omega)).mono ?_); rintro e w15 ⟨rfl, hp, hk⟩; have HP15 := hid hp; clear hp hk c26; have c27 := HP15.out.op.c27))
    go_upto_region 20 with (first | (go_at_call 19; (with_reducible refine (HP15.out.num (by omega) (by have := hok.pr; omega)).mono ?_); rintro e w16 ⟨rfl, hp, hk⟩; have HP16 := hid hp; clear hp hk c27; have c28 := HP16.out.op.c28.trans (congrArg some HLV.out)))
    go_upto_region 21 with (first | (go_at_call 19; (with_reducible refine (HP16.out.num (by omega) (by omega)).mono ?_); rintro e w17 ⟨rfl, hp, hk⟩; have HP17 := hid hp; clear hp hk c28; have c28 := HP17.out.op.c28.trans (congrArg some HLV.out)))
    obtain ⟨L, hL, hpl⟩ : ∃ L, L = encH o len ∧ PS w0 (w.heap.size + 1) (w.heap.size + 1) w.heap.size o w17 L 261 := ⟨_, by simp [encH], HP17.out⟩
    have HPL := hid hpl
    have HLL := hid hL
    clear hpl hL HP0 HP1 HP2 HP3 HP4 HP5 HP6 HP7 HP8 HP9 HP10 HP11 HP12 HP13 HP14 HP15 HP16 HP17
    go_upto_region 22 with (fail)
    go_loopw [93] (fun i wr => ∃ k : Nat, k ≤ len ∧ i = .int .i64 k ∧ PS w0 (w.heap.size + 1) (w.heap.size + 1) w.heap.size o wr (L ++ encLs (l.take k)) (261 + 36 * k)) (fun i _ => len - (intOf i).toNat)
    case atStart => exact ⟨0, by omega, rfl, by simpa [encLs] using HPL.out⟩
    case round =>
      obtain ⟨k, hk, rfl, hp⟩ := hrel
      have hBr : Below w.heap.size w wr := HB0.out.trans ((hp.keeps.below (fun k e => by cases e; omega)).mono (Nat.le_succ _))
      by_cases hlt : k < len
      · cases ad with
        | none => have := HI.out.none_len; omega
        | some ad =>
          obtain ⟨x, B, O, sp, hx, hxo, hA, c0, c1, c2, c3⟩ := (HI.out.keep hBr).at k hlt
          have hne : some wr.heap.size ≠ some (w.heap.size + 1) := by have := hp.at_.lt; intro e; have := Option.some.inj e; omega
          have HP := hid hp
          have HX := hid (And.intro hx (And.intro hxo hne))
          have H11 := hid hxo.1.1
          have H12 := hid hxo.1.2
          have H21 := hid hxo.2.1
          have H22 := hid hxo.2.2
          clear hp hx hxo hne hBr
          go_upto_region 24 with go_in
          go_wp2_with (first
            | (go_at_call 48; (with_reducible refine ((HP.out.kept (below_al wr _)).dot (by omega) H11.out H12.out).mono ?_); rintro e wa ⟨rfl, hpa, hka⟩; have HPA := hid hpa; obtain ⟨d0, d1, d2, d3⟩ := cells4 (x := x) (hka.other _ _ _ _ (heap_alloc_last' wr (.cells (cl x) 92)) (by decide) HX.out.2.2); clear hpa hka)
            | (go_at_call 48; (with_reducible refine (HPA.out.dot (by omega) H21.out H22.out).mono ?_); rintro e wb ⟨rfl, hpb, hkb⟩; have HPB := hid hpb; clear hpb hkb))
          go_roundw
          case rel => exact ⟨k + 1, by omega, by go_num, HPB.out.cast (by rw [encLs_take HX.out.1]; simp [List.append_assoc]) (by omega)⟩
          case measure => simp [intOf]; omega
      · obtain rfl : k = len := by omega
        have HP := hid hp
        have HBR := hid hBr
        clear hp hBr
        go_wp2_with (first
          | (go_at_call 24; (with_reducible refine (wire_Bytes _ _ _ _ HP.out.at_).mono ?_); rintro e w' ⟨rfl, rfl⟩))
        ((try simp only [Exit.inBlock, Exit.then]); refine bodyPost_ret (results_tmp2 rfl _ _ _) rfl ?_)
        have e : ba (L ++ encLs (l.take k)) = v := by rw [← HVAL.out, encO, HL.out.1, HLL.out, List.take_of_length_le (by rw [HL.out.1]; exact Nat.le_refl _)]
        exact ⟨by rw [← e]; rfl, HBR.out⟩

end Go.Proofs.Ytagjgknkkbkjgaa.V
