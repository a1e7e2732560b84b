/-
  frame.Put.
-/
import Derived.Test.YtagjgknkkbkjgaaFH
namespace Go.Proofs.Ytagjgknkkbkjgaa.V
set_option linter.unusedVariables false
set_option linter.unusedSimpArgs false
set_option maxRecDepth 100000
open Go Go.RowKit Go.Maps Wire

/-- A writer beside a frame's box. -/
structure FS (w0 : World) (B g b : Nat) (f : FrM) (W : World) (L : List UInt8) (c : Nat) : Prop where
  at_ : WAt W B g L
  len : L.length ≤ c
  fr : FrAt W b f
  size : B ≤ W.heap.size
  keeps : Keeps B (some g) w0 W
  hb : b < B
  hg : B ≤ g
theorem FS.kept {w0 W w' : World} {B g b c : Nat} {f : FrM} {L : List UInt8} (h : FS w0 B g b f W L c) (hB : Below W.heap.size W w') : FS w0 B g b f w' L c :=
  ⟨h.at_.kept hB, h.len, h.fr.keep hB, Nat.le_trans h.size hB.size, h.keeps.trans (hB.keeps (some g) B h.size), h.hb, h.hg⟩
theorem FS.next {w0 W w' : World} {B g b c : Nat} {f : FrM} {L : List UInt8} (h : FS w0 B g b f W L c) {m : List UInt8} {d : Nat} (hm : m.length ≤ d) (ha : WAt w' B g (L ++ m)) (hk : Keeps B (some g) W w') : FS w0 B g b f w' (L ++ m) (c + d) :=
  ⟨ha, by rw [List.length_append]; have := h.len; omega, (hk.block b h.hb (fun e => by have := h.hg; have := h.hb; cases e; omega)).trans h.fr, Nat.le_trans h.size hk.size, h.keeps.trans hk, h.hb, h.hg⟩
theorem FS.cast {w0 W : World} {B g b c c' : Nat} {f : FrM} {L L' : List UInt8} (h : FS w0 B g b f W L c) (hL : L = L') (hc : c ≤ c') : FS w0 B g b f W L' c' := hL ▸ { h with len := Nat.le_trans h.len hc }
theorem FS.num {w0 W : World} {B g b c n : Nat} {f : FrM} {L : List UInt8} (h : FS w0 B g b f W L c) (hc : c ≤ 900000) (hn : n < 18446744073709551616) :
    Calls Try.prog 19 #[.pointer (some ⟨g, 0, none⟩), .int .u64 n] W fun e w' => e = .returned (.tuple #[]) ∧ FS w0 B g b f w' (L ++ enc n) (c + 9) :=
  (wire_put_Num W B g n L h.at_ h.size (by have := h.len; omega) hn).mono fun _ _ ⟨h1, h2, h3⟩ => ⟨h1, h.next (enc_len hn) h2 h3⟩
theorem FS.vec {w0 W : World} {B g b c : Nat} {v : Vec} {f : FrM} {L : List UInt8} (h : FS w0 B g b f W L c) (hc : c ≤ 900000) (hv : okV v) :
    Calls Try.prog 20 #[.pointer (some ⟨g, 0, none⟩), .agg #[.int .u32 (v 0 : Int), .int .u32 (v 1 : Int), .int .u32 (v 2 : Int), .int .u32 (v 3 : Int), .int .u32 (v 4 : Int), .int .u32 (v 5 : Int), .int .u32 (v 6 : Int), .int .u32 (v 7 : Int)]] W fun e w' => e = .returned (.tuple #[]) ∧ FS w0 B g b f w' (L ++ encV (vl v)) (c + 72) :=
  (wire_put_Vector W B g (vl v) L h.at_ h.size (by have := h.len; omega) rfl (vl_lt hv)).mono fun _ _ ⟨h1, h2, h3⟩ => ⟨h1, h.next (encV_len (vl_lt hv)) h2 h3⟩
theorem FS.text {w0 W : World} {B g b c d : Nat} {s : List UInt8} {f : FrM} {L : List UInt8} (h : FS w0 B g b f W L c) (hc : c ≤ 900000) (hs : (encT s).length ≤ d) (hd : s.length ≤ 1000000) :
    Calls Try.prog 22 #[.pointer (some ⟨g, 0, none⟩), .string (ba s)] W fun e w' => e = .returned (.tuple #[]) ∧ FS w0 B g b f w' (L ++ encT s) (c + d) :=
  (wire_put_Text W B g (ba s) L h.at_ h.size (by have := h.len; omega) (by rw [ba_size]; exact hd)).mono fun _ _ ⟨h1, h2, h3⟩ => ⟨h1, h.next hs (by rw [ba_list] at h2; exact h2) h3⟩
theorem FS.below {w0 W : World} {B g b c : Nat} {f : FrM} {L : List UInt8} (h : FS w0 B g b f W L c) : Below B w0 W := h.keeps.below (fun k e => by cases e; exact h.hg)

set_option maxHeartbeats 2000000 in
theorem frame_Put (f : FrM) (hok : okF f) (l : List OC) (w : World) (hv : OpsV w f.ops l) :
    Calls Try.prog 8 #[.agg (fc f)] w
      fun e w' => e = .returned (.tuple #[.string (ba (putF f l).1), .int .i64 (putF f l).2]) ∧ Below w.heap.size w w' := by
  have HE := hid (below_al w (.cells (fc f) 27))
  have HFR := hid (frAt_new w f)
  have hmay := frame_May f l (w.alloc (.cells (fc f) 27)) (hv.keep HE.out)
  have HV := hid hv
  unfold putF
  cases hm : mayF f l with
  | false =>
    rw [hm] at hmay
    rw [if_neg (by decide)]
    clear hm
    go_enter Try.func8, Try.ntmps8
    go_wp2_with (first
      | (refine load_fr _ rfl (by kernel_rfl) w.heap.size rfl _ HFR.out ?_)
      | (go_at_call 10; (with_reducible refine hmay.mono ?_); rintro e w1 ⟨rfl, hB1⟩; have HB1 := hid (below_next HE.out hB1); clear hB1))
    ((try simp only [Exit.inBlock, Exit.then]); refine bodyPost_ret (results_tmp2 rfl _ _ _) rfl ?_)
    exact ⟨rfl, HB1.out⟩
  | true =>
    rw [hm] at hmay
    rw [if_pos rfl]
    obtain ⟨ad, n, cap, hlv, hI⟩ := hv
    have hn := hI.1
    obtain ⟨m1, m2, m3, m4, m5, m6, m7⟩ := mayF_iff.1 hm
    have n64 : n ≤ 64 := by omega
    have ukd : IntKind.u64.wrap (f.kd : Int) = (f.kd : Int) := by rw [wrap_u64]; omega
    have ufr : IntKind.u64.wrap (f.fr : Int) = (f.fr : Int) := by rw [wrap_u64]; omega
    have urt : IntKind.u64.wrap (f.rt : Int) = (f.rt : Int) := by rw [wrap_u64]; omega
    have ulen : IntKind.u64.wrap (n : Int) = (n : Int) := by rw [wrap_u64]; omega
    obtain ⟨v, hval⟩ : ∃ v, ba (Crc.sealed (encF f l)) = v := ⟨_, rfl⟩
    have hlF := encF_len hok HV.out.all hm
    dsimp only
    rw [hval]
    have HVAL := hid (And.intro hval hlF)
    have HI := hid hI
    have HN := hid hn
    have HM := hid (And.intro m1 (And.intro m2 (And.intro m3 m7)))
    have HLV := hid hlv
    have HOK := hid hok
    clear hval hI hlv hn m1 m2 m3 m4 m5 m6 m7 hm hok hlF
    go_enter Try.func8, Try.ntmps8
    go_upto_region 4 with (first
      | (refine load_fr _ rfl (by kernel_rfl) w.heap.size rfl _ HFR.out ?_)
      | (go_at_call 10; (with_reducible refine hmay.mono ?_); rintro e w1 ⟨rfl, hB1⟩; have HB1 := hid (below_next HE.out hB1); have HF1 := hid (HFR.out.keep hB1); clear hB1 hmay)
      | (go_at_call 18; (with_reducible refine (wire_New _).mono ?_); rintro e w2 ⟨rfl, hw2⟩; have HW2 := hid hw2; clear hw2))
    have hP0 : FS w1 w1.heap.size w1.heap.size w.heap.size f w2 [] 0 := by
      have hw2 := HW2.out
      subst hw2
      exact ⟨WAt.at_nil _ _ _ (heap_alloc_last' _ _), Nat.le_refl _, HF1.out.al _, by simp, (below_al w1 _).keeps _ _ (Nat.le_refl _), HF1.out.lt, Nat.le_refl _⟩
    have HP0 := hid hP0
    clear HW2 hP0
    obtain ⟨g, hg⟩ : ∃ g, w1.heap.size = g := ⟨_, rfl⟩
    rw [hg] at HP0 ⊢
    clear hg
    have c0 := HP0.out.fr.c0
    go_upto_region 5 with (first | (go_at_call 19; (with_reducible refine (HP0.out.num (by omega) (by have := HOK.out.kd; omega)).mono ?_); rintro e w3 ⟨rfl, hp⟩; have HP1 := hid hp; clear hp c0; have c1 := HP1.out.fr.c1))
    go_upto_region 6 with (first | (go_at_call 19; (with_reducible refine (HP1.out.num (by omega) (by have := HOK.out.fr; omega)).mono ?_); rintro e w4 ⟨rfl, hp⟩; have HP2 := hid hp; clear hp c1; have c2 := HP2.out.fr.c2))
    go_upto_region 7 with (first | (go_at_call 19; (with_reducible refine (HP2.out.num (by omega) (by have := HOK.out.rt; omega)).mono ?_); rintro e w5 ⟨rfl, hp⟩; have HP3 := hid hp; clear hp c2; have c3 := HP3.out.fr.c3; have c4 := HP3.out.fr.c4; have c5 := HP3.out.fr.c5; have c6 := HP3.out.fr.c6; have c7 := HP3.out.fr.c7; have c8 := HP3.out.fr.c8; have c9 := HP3.out.fr.c9; have c10 := HP3.out.fr.c10))
    go_upto_region 8 with (first | (go_at_call 20; (with_reducible refine (HP3.out.vec (by omega) HOK.out.hv).mono ?_); rintro e w6 ⟨rfl, hp⟩; have HP4 := hid hp; clear hp c3 c4 c5 c6 c7 c8 c9 c10; have c11 := HP4.out.fr.c11.trans (congrArg some HLV.out)))
    go_upto_region 9 with (first | (go_at_call 19; (with_reducible refine (HP4.out.num (by omega) (by omega)).mono ?_); rintro e w7 ⟨rfl, hp⟩; have HP5 := hid hp; clear hp c11; have c11 := HP5.out.fr.c11.trans (congrArg some HLV.out)))
    obtain ⟨L, hL, hpl⟩ : ∃ L, L = encFh f n ∧ FS w1 g g w.heap.size f w7 L 108 := ⟨_, rfl, HP5.out.cast (by simp [encFh]) (by omega)⟩
    have HPL := hid hpl
    have HLL := hid hL
    clear hpl hL HP0 HP1 HP2 HP3 HP4 HP5
    go_upto_region 10 with (fail)
    clear c11
    go_loopw [41] (fun i wr => ∃ k : Nat, k ≤ n ∧ i = .int .i64 k ∧ FS w1 g g w.heap.size f wr (L ++ encOps (l.take k)) (108 + 10009 * k)) (fun i _ => n - (intOf i).toNat)
    case atStart => exact ⟨0, by omega, rfl, HPL.out.cast (by simp [encOps]) (by omega)⟩
    case round =>
      obtain ⟨k, hk, rfl, hp⟩ := hrel
      have hBr : Below w.heap.size w wr := HB1.out.trans (hp.below.mono (by have := hp.hb; omega))
      by_cases hlt : k < n
      · cases ad with
        | none => have := HI.out.none_len; omega
        | some ad =>
          obtain ⟨o, lc, hx, hoo, hc, hin⟩ := (HI.out.keep hBr).at k hlt
          have hlc : lc.length ≤ 16 := HM.out.2.2.2 (o, lc) (List.mem_of_getElem? hx)
          have hbx := below_al wr (.cells (oc o) 50)
          have hput := op_Put o hoo lc (wr.alloc (.cells (oc o) 50)) (hc.keep hbx)
          rw [show putM o lc = (encO o lc, 0) from by unfold putM; rw [if_neg (by omega)]] at hput
          dsimp only at hput
          have HP := hid hp
          have HX := hid (And.intro hx (And.intro (encT_len hoo hc.all hlc) (encO_len hoo hc.all hlc)))
          have HIN := hid hin
          have HONE := hid (oneO o hc.one)
          have HO := hid (opAt_new wr o)
          have HBX := hid hbx
          clear hp hx hoo hc hlc hin hbx hBr
          go_wp2_with (first
            | (refine load_opIn _ rfl (by kernel_rfl) (ad.add (k * 29)) rfl o HIN.out ?_)
            | (refine wpList_store_row rfl _ _ _ rfl wr.heap.size (oc o) rfl rfl 50 (oc zeroO) ?_ (opSize _) rfl HONE.out ?_; (focus exact heap_alloc_last' _ _); rw [World.setRow_alloc_new])
            | (refine load_op2 _ rfl (by kernel_rfl) wr.heap.size rfl _ HO.out ?_)
            | (go_at_call 21; (with_reducible refine hput.mono ?_); rintro e wa ⟨rfl, hBa⟩; have HPA := hid (HP.out.kept (below_next HBX.out hBa)); clear hBa)
            | (go_at_call 22; (with_reducible refine (HPA.out.text (by omega) HX.out.2.1 (by have := HX.out.2.2; omega)).mono ?_); rintro e wb ⟨rfl, hpb⟩; have HPB := hid hpb; clear hpb))
          go_roundw
          case rel => exact ⟨k + 1, by omega, by go_num, HPB.out.cast (by rw [encOps_take HX.out.1, List.append_assoc]) (by omega)⟩
          case measure => simp [intOf]; omega
      · obtain rfl : k = n := by omega
        have HP := hid hp
        have HBR := hid hBr
        have hL : L ++ encOps (l.take k) = encF f l := by rw [HLL.out, encF, HN.out, List.take_of_length_le (by rw [HN.out]; exact Nat.le_refl _)]
        have hsl := S.sum_Seal (ba (encF f l)) (by rw [ba_size]; have := HVAL.out.2; omega) wr
        rw [ba_list, ba_sealed, HVAL.out.1] at hsl
        have hby := wire_Bytes wr _ _ _ hp.at_
        rw [hL] at hby
        generalize ba (encF f l) = s at hsl hby
        clear hp hBr hL
        go_wp2_with (first
          | (go_at_call 24; (with_reducible refine hby.mono ?_); rintro e w' ⟨rfl, rfl⟩)
          | (go_at_call 23; (with_reducible refine hsl.mono ?_); rintro e w' ⟨rfl, hB'⟩))
        ((try simp only [Exit.inBlock, Exit.then]); refine bodyPost_ret (results_tmp2 rfl _ _ _) rfl ?_)
        exact ⟨rfl, below_next HBR.out hB'⟩
end Go.Proofs.Ytagjgknkkbkjgaa.V
