/-
  The document's Put of frames.
-/
import Derived.Test.YtagjgknkkbkjgaaFI
import Derived.Test.YtagjgknkkbkjgaaOT
namespace Go.Proofs.Ytagjgknkkbkjgaa.V
set_option linter.unusedVariables false
set_option linter.unusedSimpArgs false
set_option maxRecDepth 100000
open Go Go.RowKit Go.Maps Wire

section
variable {ops : Array Oper} {Q : Exit → Act → World → Prop} {tgt : Nat → Option Nat} {F : Nat → Fa} {a0 : Act} {w0 : World} {k : Nat} {op : Oper}
theorem infoU8 : ∃ ie, Try.prog.info? 5 = some ie ∧ ie.zero = some (.int .u8 0) ∧ ie.size = 1 := by
  have h : (Try.prog.info? 5).map (fun i => (i.zero, i.size)) = some (some (.int .u8 0), 1) := by kernel_rfl
  cases hi : Try.prog.info? 5 with
  | none => rw [hi] at h; cases h
  | some ie =>
    rw [hi] at h
    simp only [Option.map_some, Option.some.injEq, Prod.mk.injEq] at h
    exact ⟨ie, rfl, h.1, h.2⟩
theorem v_bytes3 {x y z : Operand} {a b c : Int} (ho : op.op = .buildSlice 42 3 #[(0, x), (1, y), (2, z)])
    (hF : F k = .row 5 3 #[.int .u8 a, .int .u8 b, .int .u8 c]) (hd : op.dst.isSome = true) (hg : guardOK ops F op)
    (h1 : Ev ops F a0 w0 op x (.int .u8 a)) (h2 : Ev ops F a0 w0 op y (.int .u8 b)) (h3 : Ev ops F a0 w0 op z (.int .u8 c)) : StepOK Try.prog ops Q tgt F a0 w0 k op :=
  flow_row _ _ _ hF hd hg (fun o ac w hb hB hn => by
    obtain ⟨ie, hie, hz, hsz⟩ := infoU8
    have e : (#[(0, x), (1, y), (2, z)].map fun (i, x) => (i, ac.eval x)) = #[(0, .int .u8 a), (1, .int .u8 b), (2, .int .u8 c)] := by simp [h1 o ac w hb hn, h2 o ac w hb hn, h3 o ac w hb hn]
    have hr := run_buildSlice (P := Try.prog) w 42 5 3 #[(0, .int .u8 a), (1, .int .u8 b), (2, .int .u8 c)] #[.int .u8 a, .int .u8 b, .int .u8 c] ie _ Try.underlying42 hie hz (by rw [hsz]; omega) (by rw [hsz]; omega) (by rw [hsz]; kernel_rfl)
    unfold execOp
    simp only [ho, e, Sem.run_bind, hr, Result.andThen_ok]
    rfl)
theorem v_rowStr {s i n ta tb : Nat} {t : TypeId} {cs : Array Value} {c : Value} (ho : op.op = .convert ta tb (.tmp s)) (hr : ∀ (w : World) (g : Nat), w.heap[g]? = some (.cells cs t (0, 0)) → (convert ta tb (.slice (some ⟨g, 0, none⟩) n n)).run Try.prog w = .ok c w)
    (hF : F k = .eq c) (hd : op.dst.isSome = true) (hg : guardOK ops F op) (d1 : dstAt ops i = some s) (n1 : (needOf op).testBit i = true) (f1 : F i = .row t n cs) : StepOK Try.prog ops Q tgt F a0 w0 k op :=
  flow_val _ hF hd hg (fun o a w hb hB hn => by
    have h1 := hn i n1
    rw [f1] at h1
    obtain ⟨g, hv, _, _, hgw⟩ := h1
    have he : a.eval (.tmp s) = .slice (some ⟨g, 0, none⟩) n n := (eval_at d1).trans hv
    unfold execOp
    simp only [ho, he, Sem.run_bind, hr w g hgw, Result.andThen_ok, Sem.run_pure])
end
theorem conv_three {w : World} {g a b c : Nat} (ha : a < 256) (hb : b < 256) (hc : c < 256) (hg : w.heap[g]? = some (.cells #[.int .u8 (a : Int), .int .u8 (b : Int), .int .u8 (c : Int)] 5 (0, 0))) :
    (convert 42 9 (.slice (some ⟨g, 0, none⟩) 3 3)).run Try.prog w = .ok (.string (ba [UInt8.ofNat a, UInt8.ofNat b, UInt8.ofNat c])) w := by
  have := Lib.run_convert_whole (P := Try.prog) w 42 5 9 Try.underlying42 Try.underlying5 Try.underlying9 g 0 (ba [UInt8.ofNat a, UInt8.ofNat b, UInt8.ofNat c]) (fun i hi => by
    have hi' : i < 3 := hi
    rw [Nat.zero_add, cell_of_heap hg]
    have e : ∀ z : Nat, z < 256 → (UInt8.ofNat z).toNat = z := fun z hz => Wire.u8_ofNat hz
    match i, hi' with
    | 0, _ => exact congrArg (fun z : Nat => some (Value.int .u8 (z : Int))) (e a ha).symm
    | 1, _ => exact congrArg (fun z : Nat => some (Value.int .u8 (z : Int))) (e b hb).symm
    | 2, _ => exact congrArg (fun z : Nat => some (Value.int .u8 (z : Int))) (e c hc).symm) 3
  exact this
theorem str_add (s t : List UInt8) {x y : Operand} (hs : s.length ≤ 1000000) (ht : t.length ≤ 1000000) (w : World) : (do eqGuard .add 9 x y (.string (ba s)) (.string (ba t)); binOp .add 9 (.string (ba s)) (.string (ba t)) : Sem Value).run Try.prog w = .ok (.string (ba (s ++ t))) w := by
  have h1 := ba_size s
  have h2 := ba_size t
  have h : ¬ (ba s).size + (ba t).size > 9223372036854775807 := by omega
  rw [← ba_append]
  generalize ba s = a at h1 h
  generalize ba t = b at h2 h
  have h' : (a.size : Int) + (b.size : Int) ≤ 9223372036854775807 := by omega
  go_simp
  omega
theorem conv_u64 {n : Nat} (h : n < 18446744073709551616) (w : World) : (convert 3 47 (.int .i64 (n : Int))).run Try.prog w = .ok (.int .u64 (n : Int)) w := by
  have ulen : IntKind.u64.wrap (n : Int) = (n : Int) := by rw [wrap_u64]; omega
  go_simp

set_option maxHeartbeats 2000000 in
theorem ref_PutF (f : FrM) (hok : okF f) (l : List OC) (w : World) (hv : OpsV w f.ops l) :
    Calls Try.prog 9 #[.agg (fc f)] w
      fun e w' => e = .returned (.tuple #[.string (ba (putF f l).1), .int .i64 (putF f l).2]) ∧ Below w.heap.size w w' := by
  have HE := hid (below_al w (.cells (fc f) 27))
  have HFR := hid (frAt_new w f)
  have hmay := ref_MayF f l (w.alloc (.cells (fc f) 27)) (hv.keep HE.out)
  have HV := hid hv
  unfold putF
  cases hm : mayF f l with
  | false =>
    rw [hm] at hmay
    rw [if_neg (by decide)]
    clear hm
    go_enter Try.func9, Try.ntmps9
    go_wp2_with (first
      | (refine load_fr _ rfl (by kernel_rfl) w.heap.size rfl _ HFR.out ?_)
      | (go_at_call 11; (with_reducible refine hmay.mono ?_); rintro e w1 ⟨rfl, hB1⟩; have HB1 := hid (below_next HE.out hB1); clear hB1))
    ((try simp only [Exit.inBlock, Exit.then]); refine bodyPost_ret (results_tmp2 rfl _ _ _) rfl ?_)
    exact ⟨rfl, HB1.out⟩
  | true =>
    rw [hm] at hmay
    rw [if_pos rfl]
    obtain ⟨ad, n, cap, hlv, hI⟩ := hv
    have hn := hI.1
    obtain ⟨m1, m2, m3, m4, m5, m6, m7⟩ := mayF_iff.1 hm
    have n64 : n ≤ 64 := by omega
    have ulen : IntKind.u64.wrap (n : Int) = (n : Int) := by rw [wrap_u64]; omega
    obtain ⟨v, hval⟩ : ∃ v, ba (Crc.sealed (encF f l)) = v := ⟨_, rfl⟩
    have hlF := encF_len hok HV.out.all hm
    have hsz1 := encV_len (vl_lt hok.hv)
    have hsz2 := enc_len (n := n) (by omega)
    have HSZ := hid (show ([UInt8.ofNat f.kd, UInt8.ofNat f.fr, UInt8.ofNat f.rt] : List UInt8).length ≤ 1000000 ∧ ([UInt8.ofNat f.kd, UInt8.ofNat f.fr, UInt8.ofNat f.rt] ++ encV (vl f.hv)).length ≤ 1000000 ∧ (encV (vl f.hv)).length ≤ 1000000 ∧ (enc n).length ≤ 1000000 by
      have : (vl f.hv).length = 8 := rfl
      refine ⟨by show 3 ≤ _; omega, by rw [List.length_append]; show 3 + _ ≤ _; omega, by omega, by omega⟩)
    have hhead : [UInt8.ofNat f.kd, UInt8.ofNat f.fr, UInt8.ofNat f.rt] ++ encV (vl f.hv) ++ enc n = encFh f n := by
      unfold encFh
      rw [enc_small (n := f.kd) (by omega), enc_small (n := f.fr) (by omega), enc_small (n := f.rt) (by omega)]
      simp
    dsimp only
    rw [hval]
    have HVAL := hid (And.intro hval hlF)
    have HI := hid hI
    have HN := hid hn
    have HM := hid m7
    have HLV := hid hlv
    have HOK := hid hok
    have HH := hid hhead
    clear hval hI hlv hn m1 m2 m3 m4 m5 m6 m7 hm hok hlF hsz1 hsz2 hhead
    go_enter Try.func9, Try.ntmps9
    go_upto_region 3 with (first
      | (refine load_fr _ rfl (by kernel_rfl) w.heap.size rfl _ HFR.out ?_)
      | (go_at_call 11; (with_reducible refine hmay.mono ?_); rintro e w1 ⟨rfl, hB1⟩; have HB1 := hid (below_next HE.out hB1); have HF1 := hid (HFR.out.keep hB1); clear hB1 hmay))
    refine wp_flow (fun _ => none) (Fa.eq (.pointer (some ⟨w.heap.size, 0, none⟩)) :: Fa.eq (.int .u8 ((f.kd : Int))) :: Fa.eq (.pointer (some ⟨w.heap.size, 1, none⟩)) :: Fa.eq (.int .u8 ((f.fr : Int))) :: Fa.eq (.pointer (some ⟨w.heap.size, 2, none⟩)) :: Fa.eq (.int .u8 ((f.rt : Int))) :: Fa.row 5 3 #[.int .u8 ((f.kd : Int)), .int .u8 ((f.fr : Int)), .int .u8 ((f.rt : Int))] :: Fa.eq (.string (ba [UInt8.ofNat f.kd, UInt8.ofNat f.fr, UInt8.ofNat f.rt])) :: Fa.eq (.pointer (some ⟨w.heap.size, 3, none⟩)) :: Fa.eq (.agg (vc f.hv)) :: Fa.eq (.string (ba (encV (vl f.hv)))) :: Fa.eq (.string (ba ([UInt8.ofNat f.kd, UInt8.ofNat f.fr, UInt8.ofNat f.rt] ++ (encV (vl f.hv))))) :: Fa.eq (.pointer (some ⟨w.heap.size, 11, none⟩)) :: Fa.eq (.slice ad n cap) :: Fa.eq (.int .i64 ((n : Int))) :: Fa.eq (.int .u64 ((n : Int))) :: Fa.eq (.string (ba (enc n))) :: Fa.eq (.string (ba (([UInt8.ofNat f.kd, UInt8.ofNat f.fr, UInt8.ofNat f.rt] ++ (encV (vl f.hv))) ++ (enc n)))) :: Fa.eq (.string (ba (([UInt8.ofNat f.kd, UInt8.ofNat f.fr, UInt8.ofNat f.rt] ++ (encV (vl f.hv))) ++ (enc n)))) :: []) 51 (by kernel_rfl) rfl (by kernel_rfl) rfl (by kernel_rfl) ?_ ?_ ?_
    · exact fits_plain _ _ rfl
    · refine ⟨?_, ?_, ?_, ?_, ?_, ?_, ?_, ?_, ?_, ?_, ?_, ?_, ?_, ?_, ?_, ?_, ?_, ?_, ?_, trivial⟩
      · exact v_faddr (u := .pointer (some ⟨w.heap.size, 0, none⟩)) (c := .pointer (some ⟨w.heap.size, 0, none⟩)) rfl (fun w => (fld_fr _ w).1) rfl (by kernel_rfl) True.intro (Ev.out (by kernel_rfl) rfl)
      · exact v_load (u := .pointer (some ⟨w.heap.size, 0, none⟩)) (c := .int .u8 ((f.kd : Int))) rfl (fun w hB => ld_u8 (HF1.out.dr.keep hB).c0) rfl (by kernel_rfl) True.intro (Ev.at (i := 0) (by kernel_rfl) (by kernel_rfl) rfl)
      · exact v_faddr (u := .pointer (some ⟨w.heap.size, 0, none⟩)) (c := .pointer (some ⟨w.heap.size, 1, none⟩)) rfl (fun w => (fld_fr _ w).2.1) rfl (by kernel_rfl) True.intro (Ev.out (by kernel_rfl) rfl)
      · exact v_load (u := .pointer (some ⟨w.heap.size, 1, none⟩)) (c := .int .u8 ((f.fr : Int))) rfl (fun w hB => ld_u8 (HF1.out.dr.keep hB).c1) rfl (by kernel_rfl) True.intro (Ev.at (i := 2) (by kernel_rfl) (by kernel_rfl) rfl)
      · exact v_faddr (u := .pointer (some ⟨w.heap.size, 0, none⟩)) (c := .pointer (some ⟨w.heap.size, 2, none⟩)) rfl (fun w => (fld_fr _ w).2.2.1) rfl (by kernel_rfl) True.intro (Ev.out (by kernel_rfl) rfl)
      · exact v_load (u := .pointer (some ⟨w.heap.size, 2, none⟩)) (c := .int .u8 ((f.rt : Int))) rfl (fun w hB => ld_u8 (HF1.out.dr.keep hB).c2) rfl (by kernel_rfl) True.intro (Ev.at (i := 4) (by kernel_rfl) (by kernel_rfl) rfl)
      · exact v_bytes3 rfl rfl (by kernel_rfl) True.intro (Ev.at (i := 1) (by kernel_rfl) (by kernel_rfl) rfl) (Ev.at (i := 3) (by kernel_rfl) (by kernel_rfl) rfl) (Ev.at (i := 5) (by kernel_rfl) (by kernel_rfl) rfl)
      · exact v_rowStr (i := 6) (c := .string (ba [UInt8.ofNat f.kd, UInt8.ofNat f.fr, UInt8.ofNat f.rt])) rfl (fun w g hg => conv_three HOK.out.kd HOK.out.fr HOK.out.rt hg) rfl (by kernel_rfl) True.intro (by kernel_rfl) (by kernel_rfl) rfl
      · exact v_faddr (u := .pointer (some ⟨w.heap.size, 0, none⟩)) (c := .pointer (some ⟨w.heap.size, 3, none⟩)) rfl (fun w => (fld_fr _ w).2.2.2.1) rfl (by kernel_rfl) True.intro (Ev.out (by kernel_rfl) rfl)
      · exact v_load (u := .pointer (some ⟨w.heap.size, 3, none⟩)) (c := .agg (vc f.hv)) rfl (fun w hB => ld_vec (HF1.out.dr.keep hB)) rfl (by kernel_rfl) True.intro (Ev.at (i := 8) (by kernel_rfl) (by kernel_rfl) rfl)
      · exact v_call (vs := #[.agg (vc f.hv)]) (c := .string (ba (encV (vl f.hv)))) rfl (fun args w => rfl) (fun w hB => ref_Vector (vl f.hv) rfl (vl_lt HOK.out.hv) w) rfl (by kernel_rfl) True.intro (ev1 (Ev.at (i := 9) (by kernel_rfl) (by kernel_rfl) rfl))
      · exact v_bin (u := .string (ba [UInt8.ofNat f.kd, UInt8.ofNat f.fr, UInt8.ofNat f.rt])) (v := .string (ba (encV (vl f.hv)))) (c := .string (ba ([UInt8.ofNat f.kd, UInt8.ofNat f.fr, UInt8.ofNat f.rt] ++ (encV (vl f.hv))))) rfl (fun w => str_add _ _ (by first | exact HSZ.out.1 | exact HSZ.out.2.1 | exact HSZ.out.2.2.1) (by first | exact HSZ.out.2.2.1 | exact HSZ.out.2.2.2) w) rfl (by kernel_rfl) True.intro (Ev.at (i := 7) (by kernel_rfl) (by kernel_rfl) rfl) (Ev.at (i := 10) (by kernel_rfl) (by kernel_rfl) rfl)
      · exact v_faddr (u := .pointer (some ⟨w.heap.size, 0, none⟩)) (c := .pointer (some ⟨w.heap.size, 11, none⟩)) rfl (fun w => (fld_fr _ w).2.2.2.2) rfl (by kernel_rfl) True.intro (Ev.out (by kernel_rfl) rfl)
      · exact v_load (u := .pointer (some ⟨w.heap.size, 11, none⟩)) (c := .slice ad n cap) rfl (fun w hB => (by have := ld_ops (HF1.out.dr.keep hB).c11; rw [HLV.out] at this; exact this)) rfl (by kernel_rfl) True.intro (Ev.at (i := 12) (by kernel_rfl) (by kernel_rfl) rfl)
      · exact v_len (u := .slice ad n cap) (c := .int .i64 ((n : Int))) rfl (fun w => len_ops _ _ _ _ w) rfl (by kernel_rfl) True.intro (Ev.at (i := 13) (by kernel_rfl) (by kernel_rfl) rfl)
      · exact v_conv (u := .int .i64 ((n : Int))) (c := .int .u64 ((n : Int))) rfl (fun w hB => conv_u64 (by omega) w) rfl (by kernel_rfl) True.intro (Ev.at (i := 14) (by kernel_rfl) (by kernel_rfl) rfl)
      · exact v_call (vs := #[.int .u64 ((n : Int))]) (c := .string (ba (enc n))) rfl (fun args w => rfl) (fun w hB => ref_Num n (by omega) w) rfl (by kernel_rfl) True.intro (ev1 (Ev.at (i := 15) (by kernel_rfl) (by kernel_rfl) rfl))
      · exact v_bin (u := .string (ba ([UInt8.ofNat f.kd, UInt8.ofNat f.fr, UInt8.ofNat f.rt] ++ (encV (vl f.hv))))) (v := .string (ba (enc n))) (c := .string (ba (([UInt8.ofNat f.kd, UInt8.ofNat f.fr, UInt8.ofNat f.rt] ++ (encV (vl f.hv))) ++ (enc n)))) rfl (fun w => str_add _ _ (by first | exact HSZ.out.1 | exact HSZ.out.2.1 | exact HSZ.out.2.2.1) (by first | exact HSZ.out.2.2.1 | exact HSZ.out.2.2.2) w) rfl (by kernel_rfl) True.intro (Ev.at (i := 11) (by kernel_rfl) (by kernel_rfl) rfl) (Ev.at (i := 16) (by kernel_rfl) (by kernel_rfl) rfl)
      · exact v_move (.inr rfl) rfl (by kernel_rfl) True.intro (Ev.at (i := 17) (by kernel_rfl) (by kernel_rfl) rfl)
    intro o vs w2 hB2 hf
    have e0 : vs 0 = .pointer (some ⟨w.heap.size, 0, none⟩) := hf 0 (by decide)
    have e1 : vs 1 = .int .u8 ((f.kd : Int)) := hf 1 (by decide)
    have e2 : vs 2 = .pointer (some ⟨w.heap.size, 1, none⟩) := hf 2 (by decide)
    have e3 : vs 3 = .int .u8 ((f.fr : Int)) := hf 3 (by decide)
    have e4 : vs 4 = .pointer (some ⟨w.heap.size, 2, none⟩) := hf 4 (by decide)
    have e5 : vs 5 = .int .u8 ((f.rt : Int)) := hf 5 (by decide)
    have e7 : vs 7 = .string (ba [UInt8.ofNat f.kd, UInt8.ofNat f.fr, UInt8.ofNat f.rt]) := hf 7 (by decide)
    have e8 : vs 8 = .pointer (some ⟨w.heap.size, 3, none⟩) := hf 8 (by decide)
    have e9 : vs 9 = .agg (vc f.hv) := hf 9 (by decide)
    have e10 : vs 10 = .string (ba (encV (vl f.hv))) := hf 10 (by decide)
    have e11 : vs 11 = .string (ba ([UInt8.ofNat f.kd, UInt8.ofNat f.fr, UInt8.ofNat f.rt] ++ (encV (vl f.hv)))) := hf 11 (by decide)
    have e12 : vs 12 = .pointer (some ⟨w.heap.size, 11, none⟩) := hf 12 (by decide)
    have e13 : vs 13 = .slice ad n cap := hf 13 (by decide)
    have e14 : vs 14 = .int .i64 ((n : Int)) := hf 14 (by decide)
    have e15 : vs 15 = .int .u64 ((n : Int)) := hf 15 (by decide)
    have e16 : vs 16 = .string (ba (enc n)) := hf 16 (by decide)
    have e17 : vs 17 = .string (ba (([UInt8.ofNat f.kd, UInt8.ofNat f.fr, UInt8.ofNat f.rt] ++ (encV (vl f.hv))) ++ (enc n))) := hf 17 (by decide)
    have e18 : vs 18 = .string (ba (([UInt8.ofNat f.kd, UInt8.ofNat f.fr, UInt8.ofNat f.rt] ++ (encV (vl f.hv))) ++ (enc n))) := hf 18 (by decide)
    simp only [fill, List.setIfInBounds_toArray, List.set_cons_zero, List.set_cons_succ, e0, e1, e2, e3, e4, e5, e7, e8, e9, e10, e11, e12, e13, e14, e15, e16, e17, e18]
    clear e0 e1 e2 e3 e4 e5 e7 e8 e9 e10 e11 e12 e13 e14 e15 e16 e17 e18 hf
    rw [HH.out]
    have HB2 := hid (below_next HB1.out hB2)
    have HF2 := hid (HF1.out.keep hB2)
    clear hB2
    obtain ⟨S0, hS0⟩ : ∃ S, S = ba (encFh f n) := ⟨_, rfl⟩
    rw [← hS0]
    have HS0 := hid hS0
    clear hS0
    go_upto_region 5 with (fail)
    go_loopw [4, 5] (fun s i wr => ∃ k : Nat, k ≤ n ∧ i = .int .i64 k ∧ (∃ T, s = .string T ∧ T = ba (encFh f n ++ encOps (l.take k))) ∧ Below w2.heap.size w2 wr) (fun _ i _ => n - (intOf i).toNat)
    case atStart => exact ⟨0, by omega, rfl, ⟨S0, rfl, by rw [HS0.out]; simp [encOps]⟩, Below.refl _ _⟩
    case round =>
      obtain ⟨k, hk, rfl, ⟨T, rfl, hS⟩, hBr⟩ := hrel
      have c11 := (HF2.out.keep hBr).c11.trans (congrArg some HLV.out)
      have HR := hid hBr
      clear hBr
      by_cases hlt : k < n
      · cases ad with
        | none => have := HI.out.none_len; omega
        | some ad =>
          obtain ⟨o, lc, hx, hoo, hc, hin⟩ := (HI.out.keep (below_next HB2.out HR.out)).at k hlt
          have hlc : lc.length ≤ 16 := HM.out (o, lc) (List.mem_of_getElem? hx)
          have hput := ref_Put o hoo lc wr hc
          rw [show putM o lc = (encO o lc, 0) from by unfold putM; rw [if_neg (by omega)]] at hput
          dsimp only at hput
          have he1 := encT_len hoo hc.all hlc
          have he2 := encO_len hoo hc.all hlc
          have htx := fun W => ref_Text (ba (encO o lc)) (by rw [ba_size]; omega) W
          rw [ba_list] at htx
          have hnext : T ++ ba (encT (encO o lc)) = ba (encFh f n ++ encOps (l.take (k + 1))) := by rw [hS, ba_append, encOps_take hx, List.append_assoc]
          have hs1 : T.size ≤ 1000000 := by
            have h2 := encOps_len (l.take (k + 1)) (fun x hx => HV.out.all x (List.mem_of_mem_take hx)) (fun x hx => HM.out x (List.mem_of_mem_take hx))
            have h3 := encFh_len HOK.out (n := n) (by omega)
            have h4 : T.size + (ba (encT (encO o lc))).size = (encFh f n ++ encOps (l.take (k + 1))).length := by rw [← ByteArray.size_append, hnext, ba_size]
            rw [List.length_append] at h4
            have h5 : (l.take (k + 1)).length ≤ 64 := by rw [List.length_take]; have := HN.out; omega
            omega
          have hs2 : (ba (encT (encO o lc))).size ≤ 1000000 := by rw [ba_size]; omega
          have HX := hid hnext
          have HIN := hid hin
          generalize ba (encO o lc) = s1 at hput htx
          generalize ba (encT (encO o lc)) = s2 at htx HX hs2
          clear hx hoo hc hlc hin he1 he2 hS hnext
          go_wp2_with (first
            | (refine load_opIn _ rfl (by kernel_rfl) (ad.add (k * 29)) rfl o HIN.out ?_)
            | (go_at_call 27; (with_reducible refine hput.mono ?_); rintro e wa ⟨rfl, hBa⟩; have HRa := hid (below_next HR.out hBa); clear hBa)
            | (go_at_call 28; (with_reducible refine (htx _).mono ?_); rintro e wb ⟨rfl, hBb⟩; have HRb := hid (below_next HRa.out hBb); clear hBb))
          refine ⟨?_, ?measure⟩
          · repeat apply Exists.intro
            refine ⟨?rel, rfl⟩
            exact ⟨k + 1, by omega, by go_num, ⟨_, rfl, HX.out⟩, HRb.out⟩
          case measure => simp [intOf]; omega
      · obtain rfl : k = n := by omega
        have hL : encFh f k ++ encOps (l.take k) = encF f l := by rw [encF, HN.out, List.take_of_length_le (by rw [HN.out]; exact Nat.le_refl _)]
        rw [hL] at hS
        have hsl := S.ref_Seal (ba (encF f l)) (by rw [ba_size]; have := HVAL.out.2; omega) wr
        rw [ba_list, ba_sealed, HVAL.out.1, ← hS] at hsl
        have HBR := hid (below_next HB2.out HR.out)
        clear hL hS
        go_wp2_with (first
          | (go_at_call 29; (with_reducible refine hsl.mono ?_); rintro e w' ⟨rfl, hB'⟩))
        ((try simp only [Exit.inBlock, Exit.then]); refine bodyPost_ret (results_tmp2 rfl _ _ _) rfl ?_)
        exact ⟨rfl, below_next HBR.out hB'⟩
end Go.Proofs.Ytagjgknkkbkjgaa.V
