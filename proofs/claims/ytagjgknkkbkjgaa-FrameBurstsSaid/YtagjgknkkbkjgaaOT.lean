/-
  The document's Put.
-/
import Derived.Test.YtagjgknkkbkjgaaOM
import Derived.Test.YtagjgknkkbkjgaaJA
namespace Go.Proofs.Ytagjgknkkbkjgaa.V
set_option linter.unusedVariables false
set_option linter.unusedSimpArgs false
set_option maxRecDepth 100000
open Go Go.RowKit Go.Maps Wire

set_option maxRecDepth 100000
set_option linter.unusedVariables false
set_option linter.unusedSimpArgs false
def nm (o : OpM) (k : Nat) : Nat := match k with | 0 => o.to | 1 => o.ro | 2 => o.de | _ => o.cap
def numsE (o : OpM) : Nat → List UInt8
  | 0 => []
  | k + 1 => numsE o k ++ enc (nm o k)
theorem nm_lt {o : OpM} (h : okO o) (k : Nat) : nm o k < 18446744073709551616 := by
  have h1 := h.to; have h2 := h.ro; have h3 := h.de; have h4 := h.cap
  unfold nm
  split <;> omega
theorem numsE_len {o : OpM} (h : okO o) (k : Nat) : (numsE o k).length ≤ 9 * k := by
  induction k with
  | zero => simp [numsE]
  | succ k ih => rw [numsE, List.length_append]; have := enc_len (nm_lt h k); omega
def numsC (o : OpM) : Array Value := #[.int .u64 (o.to : Int), .int .u64 (o.ro : Int), .int .u64 (o.de : Int), .int .u64 (o.cap : Int)]
theorem numsC_at (o : OpM) {k : Nat} (hk : k < 4) : (numsC o)[k]? = some (.int .u64 (nm o k : Int)) := by
  match k, hk with
  | 0, _ => rfl
  | 1, _ => rfl
  | 2, _ => rfl
  | 3, _ => rfl
theorem encLs_len {l : List Claim} (h : ∀ x ∈ l, Claim.ok x) (k : Nat) : (encLs (l.take k)).length ≤ 36 * k := by
  induction k with
  | zero => simp [encLs]
  | succ k ih =>
    by_cases hk : k < l.length
    · have hx : l[k]? = some l[k] := List.getElem?_eq_getElem hk
      have hxo := h _ (List.mem_of_getElem? hx)
      rw [encLs_take hx, List.length_append]
      unfold encD
      simp only [List.length_append]
      have := enc_len (n := l[k].1.1) (by have := hxo.1.1; omega)
      have := enc_len (n := l[k].1.2) (by have := hxo.1.2; omega)
      have := enc_len (n := l[k].2.1) (by have := hxo.2.1; omega)
      have := enc_len (n := l[k].2.2) (by have := hxo.2.2; omega)
      omega
    · rw [List.take_of_length_le (by omega)]
      rw [List.take_of_length_le (by omega)] at ih
      omega

set_option maxHeartbeats 2000000 in
theorem ref_Put (o : OpM) (hok : okO o) (l : List Claim) (w : World) (hv : ClaimsV w o.lv l) :
    Calls Try.prog 27 #[.agg (oc o)] w
      fun e w' => e = .returned (.tuple #[.string (ba (putM o l).1), .int .i64 (putM o l).2]) ∧ Below w.heap.size w w' := by
  obtain ⟨ad, len, cap, hlv, hI⟩ := hv
  have hlen := hI.1
  have HE := hid (below_al w (.cells (oc o) 50))
  have HLV := hid hlv
  unfold putM
  rw [hlen]
  have g28 : (oc o)[28]? = some (.slice ad len cap) := by rw [← hlv]; rfl
  by_cases h16 : 16 < len
  · rw [if_pos h16]
    have t1 : decide (16 < (len : Int)) = true := decide_eq_true (by omega)
    have HI := hid hI
    clear hI hlv hlen
    go_enter Try.func27, Try.ntmps27
    go_wp2
    ((try simp only [Exit.inBlock, Exit.then]); refine bodyPost_ret (results_tmp2 rfl _ _ _) rfl ?_)
    exact ⟨rfl, HE.out⟩
  · rw [if_neg h16]
    have t1 : decide (16 < (len : Int)) = false := decide_eq_false (by omega)
    have ulen : IntKind.u64.wrap (len : Int) = (len : Int) := by rw [wrap_u64]; omega
    have HOK := hid hok
    have uwho : IntKind.u64.wrap (o.who : Int) = (o.who : Int) := by have := HOK.out.who; rw [wrap_u64]; omega
    have ukd : IntKind.u64.wrap (o.kd : Int) = (o.kd : Int) := by have := HOK.out.kd; rw [wrap_u64]; omega
    have uto : IntKind.u64.wrap (o.to : Int) = (o.to : Int) := by have := HOK.out.to; rw [wrap_u64]; omega
    have uro : IntKind.u64.wrap (o.ro : Int) = (o.ro : Int) := by have := HOK.out.ro; rw [wrap_u64]; omega
    have ude : IntKind.u64.wrap (o.de : Int) = (o.de : Int) := by have := HOK.out.de; rw [wrap_u64]; omega
    have uit : IntKind.u64.wrap (o.it : Int) = (o.it : Int) := by have := HOK.out.it; rw [wrap_u64]; omega
    have uqt : IntKind.u64.wrap (o.qt : Int) = (o.qt : Int) := by have := HOK.out.qt; rw [wrap_u64]; omega
    have upr : IntKind.u64.wrap (o.pr : Int) = (o.pr : Int) := by have := HOK.out.pr; rw [wrap_u64]; omega
    obtain ⟨v, hval⟩ : ∃ v, ba (encO o l) = v := ⟨_, rfl⟩
    dsimp only
    rw [hval]
    have HVAL := hid hval
    have HI := hid hI
    have HL := hid hlen
    have hl16 : len ≤ 16 := by omega
    have p17 : (oc o)[17]? = some (.int .u32 (o.to : Int)) := rfl
    have p18 : (oc o)[18]? = some (.int .u8 (o.ro : Int)) := rfl
    have p19 : (oc o)[19]? = some (.int .u8 (o.de : Int)) := rfl
    have p20 : (oc o)[20]? = some (.int .u64 (o.cap : Int)) := rfl
    clear hval hI hlv hlen h16 hok
    go_enter Try.func27, Try.ntmps27
    go_upto_region 4 with (fail)
    clear g28 p17 p18 p19 p20
    have za0 : (ba (encD o.r o.n)).size ≤ 18 := by rw [ba_size]; exact (by unfold encD; rw [List.length_append]; have := enc_len (n := o.r) (by have := HOK.out.r; omega); have := enc_len (n := o.n) (by have := HOK.out.n; omega); omega)
    have ka0 := fun W => ref_Dot o.r o.n (by have := HOK.out.r; omega) (by have := HOK.out.n; omega) W
    obtain ⟨sa0, ha0⟩ : ∃ s, ba (encD o.r o.n) = s := ⟨_, rfl⟩
    rw [ha0] at za0 ka0
    have Ha0 := hid ha0
    clear ha0
    have za1 : (ba (encV (vl o.dep))).size ≤ 72 := by rw [ba_size]; exact (encV_len (vl_lt HOK.out.dep))
    have ka1 : ∀ W, Calls Try.prog 25 #[.agg #[.int .u32 (o.dep 0 : Int), .int .u32 (o.dep 1 : Int), .int .u32 (o.dep 2 : Int), .int .u32 (o.dep 3 : Int), .int .u32 (o.dep 4 : Int), .int .u32 (o.dep 5 : Int), .int .u32 (o.dep 6 : Int), .int .u32 (o.dep 7 : Int)]] W fun e w' => e = .returned (.string (ba (encV (vl o.dep)))) ∧ Below W.heap.size W w' := fun W => ref_Vector (vl o.dep) rfl (vl_lt HOK.out.dep) W
    obtain ⟨sa1, ha1⟩ : ∃ s, ba (encV (vl o.dep)) = s := ⟨_, rfl⟩
    rw [ha1] at za1 ka1
    have Ha1 := hid ha1
    clear ha1
    have za2 : (ba (enc o.tm)).size ≤ 9 := by rw [ba_size]; exact (enc_len (by have := HOK.out.tm; omega))
    have ka2 := fun W => ref_Num o.tm (by have := HOK.out.tm; omega) W
    obtain ⟨sa2, ha2⟩ : ∃ s, ba (enc o.tm) = s := ⟨_, rfl⟩
    rw [ha2] at za2 ka2
    have Ha2 := hid ha2
    clear ha2
    have za3 : (ba (enc o.who)).size ≤ 9 := by rw [ba_size]; exact (enc_len (by have := HOK.out.who; omega))
    have ka3 := fun W => ref_Num o.who (by have := HOK.out.who; omega) W
    obtain ⟨sa3, ha3⟩ : ∃ s, ba (enc o.who) = s := ⟨_, rfl⟩
    rw [ha3] at za3 ka3
    have Ha3 := hid ha3
    clear ha3
    have za4 : (ba (encD o.cr o.cn)).size ≤ 18 := by rw [ba_size]; exact (by unfold encD; rw [List.length_append]; have := enc_len (n := o.cr) (by have := HOK.out.cr; omega); have := enc_len (n := o.cn) (by have := HOK.out.cn; omega); omega)
    have ka4 := fun W => ref_Dot o.cr o.cn (by have := HOK.out.cr; omega) (by have := HOK.out.cn; omega) W
    obtain ⟨sa4, ha4⟩ : ∃ s, ba (encD o.cr o.cn) = s := ⟨_, rfl⟩
    rw [ha4] at za4 ka4
    have Ha4 := hid ha4
    clear ha4
    have za5 : (ba (enc o.kd)).size ≤ 9 := by rw [ba_size]; exact (enc_len (by have := HOK.out.kd; omega))
    have ka5 := fun W => ref_Num o.kd (by have := HOK.out.kd; omega) W
    obtain ⟨sa5, ha5⟩ : ∃ s, ba (enc o.kd) = s := ⟨_, rfl⟩
    rw [ha5] at za5 ka5
    have Ha5 := hid ha5
    clear ha5
    have za6 : (ba (encD o.dr o.dn)).size ≤ 18 := by rw [ba_size]; exact (by unfold encD; rw [List.length_append]; have := enc_len (n := o.dr) (by have := HOK.out.dr; omega); have := enc_len (n := o.dn) (by have := HOK.out.dn; omega); omega)
    have ka6 := fun W => ref_Dot o.dr o.dn (by have := HOK.out.dr; omega) (by have := HOK.out.dn; omega) W
    obtain ⟨sa6, ha6⟩ : ∃ s, ba (encD o.dr o.dn) = s := ⟨_, rfl⟩
    rw [ha6] at za6 ka6
    have Ha6 := hid ha6
    clear ha6
    refine wp_region_later_n (by kernel_rfl) (by kernel_rfl) ?_
    intro wd hwd
    have hBd : Below w.heap.size w wd := by rw [hwd]; first | exact below_al2 _ _ _ | exact (below_al2 _ _ _).drew
    have HW := hid hBd
    have hOd : OpAt wd w.heap.size o := by rw [hwd]; exact (opAt_new w o).al _
    have hNd : wd.heap[w.heap.size + 1]? = some (.cells (numsC o) 47 (0, 0)) := by rw [hwd]; exact last2 _ _ _
    have HO := hid hOd
    have HN := hid hNd
    clear hwd hOd hNd hBd
    have f0 := fun p : Later wd.heap.size wd => (OpAt.keep HO.out p.ok).c0
    have f1 := fun p : Later wd.heap.size wd => (OpAt.keep HO.out p.ok).c1
    have f2 := fun p : Later wd.heap.size wd => (OpAt.keep HO.out p.ok).c2
    have f3 := fun p : Later wd.heap.size wd => (OpAt.keep HO.out p.ok).c3
    have f4 := fun p : Later wd.heap.size wd => (OpAt.keep HO.out p.ok).c4
    have f5 := fun p : Later wd.heap.size wd => (OpAt.keep HO.out p.ok).c5
    have f6 := fun p : Later wd.heap.size wd => (OpAt.keep HO.out p.ok).c6
    have f7 := fun p : Later wd.heap.size wd => (OpAt.keep HO.out p.ok).c7
    have f8 := fun p : Later wd.heap.size wd => (OpAt.keep HO.out p.ok).c8
    have f9 := fun p : Later wd.heap.size wd => (OpAt.keep HO.out p.ok).c9
    have f10 := fun p : Later wd.heap.size wd => (OpAt.keep HO.out p.ok).c10
    have f11 := fun p : Later wd.heap.size wd => (OpAt.keep HO.out p.ok).c11
    have f12 := fun p : Later wd.heap.size wd => (OpAt.keep HO.out p.ok).c12
    have f13 := fun p : Later wd.heap.size wd => (OpAt.keep HO.out p.ok).c13
    have f14 := fun p : Later wd.heap.size wd => (OpAt.keep HO.out p.ok).c14
    have f15 := fun p : Later wd.heap.size wd => (OpAt.keep HO.out p.ok).c15
    have f16 := fun p : Later wd.heap.size wd => (OpAt.keep HO.out p.ok).c16
    repeat (go_big_quiet_step (first | (go_at_call 52; with_reducible exact Calls.later_of (Nat.le_refl _) (ka0 _)) | (go_at_call 25; with_reducible exact Calls.later_of (Nat.le_refl _) (ka1 _)) | (go_at_call 26; with_reducible exact Calls.later_of (Nat.le_refl _) (ka2 _)) | (go_at_call 26; with_reducible exact Calls.later_of (Nat.le_refl _) (ka3 _)) | (go_at_call 52; with_reducible exact Calls.later_of (Nat.le_refl _) (ka4 _)) | (go_at_call 26; with_reducible exact Calls.later_of (Nat.le_refl _) (ka5 _)) | (go_at_call 52; with_reducible exact Calls.later_of (Nat.le_refl _) (ka6 _))))
    refine wpQuiet_nil ?_
    rintro _ ⟨p, rfl⟩
    have HB1 := hid (below_next HW.out p.ok)
    have HO1 := hid (HO.out.keep p.ok)
    have HN1 := hid (heap_keep HN.out p.ok)
    generalize p.val = w1 at HB1 HO1 HN1
    obtain ⟨L4, hL4, hz4⟩ : ∃ L : List UInt8, sa0 ++ sa1 ++ sa2 ++ sa3 ++ sa4 ++ sa5 ++ sa6 = ba L ∧ L = encD o.r o.n ++ encV (vl o.dep) ++ enc o.tm ++ enc o.who ++ encD o.cr o.cn ++ enc o.kd ++ encD o.dr o.dn := ⟨_, by rw [← Ha0.out, ← Ha1.out, ← Ha2.out, ← Ha3.out, ← Ha4.out, ← Ha5.out, ← Ha6.out]; simp only [ba_append], rfl⟩
    rw [hL4]
    have hlen4 : L4.length ≤ 153 := by
      have := congrArg ByteArray.size hL4
      rw [ba_size] at this
      simp only [ByteArray.size_append] at this
      omega
    have HL4 := hid hz4
    clear hL4 hz4 HO HN HW f0 f1 f2 f3 f4 f5 f6 f7 f8 f9 f10 f11 f12 f13 f14 f15 f16 ka0 za0 Ha0 ka1 za1 Ha1 ka2 za2 Ha2 ka3 za3 Ha3 ka4 za4 Ha4 ka5 za5 Ha5 ka6 za6 Ha6
    go_upto_region 6 with (fail)
    go_loopw [5, 6] (fun t i wr => ∃ k : Nat, k ≤ 4 ∧ i = .int .i64 k ∧ t = .string (ba (L4 ++ numsE o k)) ∧ Below w1.heap.size w1 wr) (fun _ i _ => 4 - (intOf i).toNat)
    case atStart => exact ⟨0, by omega, rfl, by simp [numsE], Below.refl _ _⟩
    case round =>
      obtain ⟨k, hk, rfl, rfl, hbr⟩ := hrel
      by_cases hlt : k < 4
      · have hc : wr.cell? ⟨w.heap.size + 1, k, none⟩ = some (.int .u64 (nm o k : Int)) := (cell_of_heap (heap_keep HN1.out hbr)).trans (numsC_at o hlt)
        have hn64 := nm_lt HOK.out k
        have ke := fun W => ref_Num (nm o k) hn64 W
        have hl1 : (ba (L4 ++ numsE o k)).size ≤ 1000 := by rw [ba_size, List.length_append]; have := numsE_len HOK.out k; omega
        have hl2 : (ba (enc (nm o k))).size ≤ 9 := by rw [ba_size]; exact enc_len hn64
        have HBr := hid hbr
        clear hbr
        go_wp2_with (go_at_call 26; (with_reducible refine (ke _).mono ?_); rintro e w2 ⟨rfl, hb2⟩)
        go_roundw
        case rel => exact ⟨k + 1, by omega, by go_num, by rw [numsE, ba_append, List.append_assoc], below_next HBr.out hb2⟩
        case measure => simp [intOf]; omega
      · obtain rfl : k = 4 := by omega
        have hln : (ba (L4 ++ numsE o 4)).size ≤ 1000 := by rw [ba_size, List.length_append]; have := numsE_len HOK.out 4; omega
        obtain ⟨L6, hL6⟩ : ∃ L, L4 ++ numsE o 4 = L := ⟨_, rfl⟩
        rw [hL6] at hln ⊢
        have HL6 := hid hL6
        have HB2 := hid (below_next HB1.out hbr)
        have HO2 := hid (HO1.out.keep hbr)
        clear hL6 HB1 HO1 HN1 hbr
        go_upto_region 9 with (fail)
        have zb0 : (ba (encD o.ar o.an)).size ≤ 18 := by rw [ba_size]; exact (by unfold encD; rw [List.length_append]; have := enc_len (n := o.ar) (by have := HOK.out.ar; omega); have := enc_len (n := o.an) (by have := HOK.out.an; omega); omega)
        have kb0 := fun W => ref_Dot o.ar o.an (by have := HOK.out.ar; omega) (by have := HOK.out.an; omega) W
        obtain ⟨sb0, hb0⟩ : ∃ s, ba (encD o.ar o.an) = s := ⟨_, rfl⟩
        rw [hb0] at zb0 kb0
        have Hb0 := hid hb0
        clear hb0
        have zb1 : (ba (encD o.vr o.vn)).size ≤ 18 := by rw [ba_size]; exact (by unfold encD; rw [List.length_append]; have := enc_len (n := o.vr) (by have := HOK.out.vr; omega); have := enc_len (n := o.vn) (by have := HOK.out.vn; omega); omega)
        have kb1 := fun W => ref_Dot o.vr o.vn (by have := HOK.out.vr; omega) (by have := HOK.out.vn; omega) W
        obtain ⟨sb1, hb1⟩ : ∃ s, ba (encD o.vr o.vn) = s := ⟨_, rfl⟩
        rw [hb1] at zb1 kb1
        have Hb1 := hid hb1
        clear hb1
        have zb2 : (ba (enc o.it)).size ≤ 9 := by rw [ba_size]; exact (enc_len (by have := HOK.out.it; omega))
        have kb2 := fun W => ref_Num o.it (by have := HOK.out.it; omega) W
        obtain ⟨sb2, hb2⟩ : ∃ s, ba (enc o.it) = s := ⟨_, rfl⟩
        rw [hb2] at zb2 kb2
        have Hb2 := hid hb2
        clear hb2
        have zb3 : (ba (enc o.qt)).size ≤ 9 := by rw [ba_size]; exact (enc_len (by have := HOK.out.qt; omega))
        have kb3 := fun W => ref_Num o.qt (by have := HOK.out.qt; omega) W
        obtain ⟨sb3, hb3⟩ : ∃ s, ba (enc o.qt) = s := ⟨_, rfl⟩
        rw [hb3] at zb3 kb3
        have Hb3 := hid hb3
        clear hb3
        have zb4 : (ba (enc o.pr)).size ≤ 9 := by rw [ba_size]; exact (enc_len (by have := HOK.out.pr; omega))
        have kb4 := fun W => ref_Num o.pr (by have := HOK.out.pr; omega) W
        obtain ⟨sb4, hb4⟩ : ∃ s, ba (enc o.pr) = s := ⟨_, rfl⟩
        rw [hb4] at zb4 kb4
        have Hb4 := hid hb4
        clear hb4
        have zb5 : (ba (enc len)).size ≤ 9 := by rw [ba_size]; exact (enc_len (by omega))
        have kb5 := fun W => ref_Num len (by omega) W
        obtain ⟨sb5, hb5⟩ : ∃ s, ba (enc len) = s := ⟨_, rfl⟩
        rw [hb5] at zb5 kb5
        have Hb5 := hid hb5
        clear hb5
        refine wp_region_later_n (by kernel_rfl) (by kernel_rfl) ?_
        intro wd hwd
        have hBd : Below wr.heap.size wr wd := by rw [hwd]; first | exact Below.refl _ _ | exact below_dr _
        have HW := hid (below_next HB2.out hBd)
        have HO := hid (HO2.out.keep hBd)
        clear hwd hBd
        have f21 := fun p : Later wd.heap.size wd => (OpAt.keep HO.out p.ok).c21
        have f22 := fun p : Later wd.heap.size wd => (OpAt.keep HO.out p.ok).c22
        have f23 := fun p : Later wd.heap.size wd => (OpAt.keep HO.out p.ok).c23
        have f24 := fun p : Later wd.heap.size wd => (OpAt.keep HO.out p.ok).c24
        have f25 := fun p : Later wd.heap.size wd => (OpAt.keep HO.out p.ok).c25
        have f26 := fun p : Later wd.heap.size wd => (OpAt.keep HO.out p.ok).c26
        have f27 := fun p : Later wd.heap.size wd => (OpAt.keep HO.out p.ok).c27
        have f28 := fun p : Later wd.heap.size wd => ((OpAt.keep HO.out p.ok).c28).trans (congrArg some HLV.out)
        repeat (go_big_quiet_step (first | (go_at_call 52; with_reducible exact Calls.later_of (Nat.le_refl _) (kb0 _)) | (go_at_call 52; with_reducible exact Calls.later_of (Nat.le_refl _) (kb1 _)) | (go_at_call 26; with_reducible exact Calls.later_of (Nat.le_refl _) (kb2 _)) | (go_at_call 26; with_reducible exact Calls.later_of (Nat.le_refl _) (kb3 _)) | (go_at_call 26; with_reducible exact Calls.later_of (Nat.le_refl _) (kb4 _)) | (go_at_call 26; with_reducible exact Calls.later_of (Nat.le_refl _) (kb5 _))))
        refine wpQuiet_nil ?_
        rintro _ ⟨p, rfl⟩
        have HB3 := hid (below_next HW.out p.ok)
        have HO3 := hid (HO.out.keep p.ok)
        generalize p.val = w3 at HB3 HO3
        obtain ⟨L9, hL9, hz9⟩ : ∃ L : List UInt8, ba L6 ++ sb0 ++ sb1 ++ sb2 ++ sb3 ++ sb4 ++ sb5 = ba L ∧ L = L6 ++ encD o.ar o.an ++ encD o.vr o.vn ++ enc o.it ++ enc o.qt ++ enc o.pr ++ enc len := ⟨_, by rw [← Hb0.out, ← Hb1.out, ← Hb2.out, ← Hb3.out, ← Hb4.out, ← Hb5.out]; simp only [ba_append], rfl⟩
        rw [hL9]
        have hlen9 : L9.length ≤ 1072 := by
          have := congrArg ByteArray.size hL9
          rw [ba_size] at this
          simp only [ByteArray.size_append] at this
          omega
        have HL9 := hid hz9
        clear hL9 hz9 HO HW HO2 HB2 hln f28 f21 f22 f23 f24 f25 f26 f27 kb0 zb0 Hb0 kb1 zb1 Hb1 kb2 zb2 Hb2 kb3 zb3 Hb3 kb4 zb4 Hb4 kb5 zb5 Hb5
        go_upto_region 11 with (fail)
        go_loopw [5, 7] (fun t i wr => ∃ k : Nat, k ≤ len ∧ i = .int .i64 k ∧ t = .string (ba (L9 ++ encLs (l.take k))) ∧ Below w3.heap.size w3 wr) (fun _ i _ => len - (intOf i).toNat)
        case atStart => exact ⟨0, by omega, rfl, by simp [encLs], Below.refl _ _⟩
        case round =>
          obtain ⟨k, hk, rfl, rfl, hbr⟩ := hrel
          obtain ⟨W0, rfl⟩ : ∃ W, W = wr := ⟨_, rfl⟩
          have c28 := (HO3.out.keep hbr).c28.trans (congrArg some HLV.out)
          by_cases hlt : k < len
          · cases ad with
            | none => have := HI.out.none_len; omega
            | some ad =>
              obtain ⟨x, B, O, sp, hx, hxo, hA, c0, c1, c2, c3⟩ := (HI.out.keep (below_next HB3.out hbr)).at k hlt
              have k1 := fun W => ref_Dot x.1.1 x.1.2 hxo.1.1 hxo.1.2 W
              have k2 := fun W => ref_Dot x.2.1 x.2.2 hxo.2.1 hxo.2.2 W
              have z1 : (ba (encD x.1.1 x.1.2)).size ≤ 18 := by rw [ba_size]; unfold encD; rw [List.length_append]; have := enc_len (n := x.1.1) (by have := hxo.1.1; omega); have := enc_len (n := x.1.2) (by have := hxo.1.2; omega); omega
              have z2 : (ba (encD x.2.1 x.2.2)).size ≤ 18 := by rw [ba_size]; unfold encD; rw [List.length_append]; have := enc_len (n := x.2.1) (by have := hxo.2.1; omega); have := enc_len (n := x.2.2) (by have := hxo.2.2; omega); omega
              have z0 : (ba (L9 ++ encLs (l.take k))).size ≤ 10000 := by rw [ba_size, List.length_append]; have := encLs_len HI.out.2.2.2.1 k; omega
              obtain ⟨s0, hs0⟩ : ∃ s, ba (L9 ++ encLs (l.take k)) = s := ⟨_, rfl⟩
              obtain ⟨s1, hs1⟩ : ∃ s, ba (encD x.1.1 x.1.2) = s := ⟨_, rfl⟩
              obtain ⟨s2, hs2⟩ : ∃ s, ba (encD x.2.1 x.2.2) = s := ⟨_, rfl⟩
              rw [hs0] at z0 ⊢
              rw [hs1] at z1 k1
              rw [hs2] at z2 k2
              have HS := hid (And.intro hs0 (And.intro hs1 hs2))
              have HX := hid (And.intro hx hbr)
              have HOr := hid (HO3.out.keep hbr)
              clear hs0 hs1 hs2 hx hxo hbr
              go_wp2
              refine wp_region_later_n (by kernel_rfl) (by kernel_rfl) ?_
              intro wd hwd
              have hw1 : Below W0.heap.size W0 wd := by rw [hwd]; first | exact Below.refl _ _ | exact below_dr _
              clear hwd c28
              have HW := hid hw1
              have f28 := fun p : Later wd.heap.size wd => ((HOr.out.keep (below_next hw1 p.ok)).c28).trans (congrArg some HLV.out)
              have d0 := fun p : Later wd.heap.size wd => cell_keep (below_next hw1 p.ok) c0
              have d1 := fun p : Later wd.heap.size wd => cell_keep (below_next hw1 p.ok) c1
              have d2 := fun p : Later wd.heap.size wd => cell_keep (below_next hw1 p.ok) c2
              have d3 := fun p : Later wd.heap.size wd => cell_keep (below_next hw1 p.ok) c3
              clear hw1 c0 c1 c2 c3
              repeat (go_big_quiet_step (first | (go_at_call 52; with_reducible exact Calls.later_of (Nat.le_refl _) (k1 _)) | (go_at_call 52; with_reducible exact Calls.later_of (Nat.le_refl _) (k2 _))))
              refine wpQuiet_nil ?_
              rintro _ ⟨p, rfl⟩
              have HP := hid p.ok
              generalize p.val = w2 at HP
              clear f28 d0 d1 d2 d3 k1 k2 z0 z1 z2
              go_wp2
              go_roundw
              case rel => exact ⟨k + 1, by omega, by go_num, by rw [encLs_take HX.out.1, ← HS.out.1, ← HS.out.2.1, ← HS.out.2.2]; simp only [ba_append, List.append_assoc], below_next HX.out.2 (below_next HW.out HP.out)⟩
              case measure => simp [intOf]; omega
          · obtain rfl : k = len := by omega
            have HX := hid (below_next HB3.out hbr)
            clear hbr
            go_wp2
            ((try simp only [Exit.inBlock, Exit.then]); refine bodyPost_ret (results_tmp2 rfl _ _ _) rfl ?_)
            have e : ba (L9 ++ encLs (l.take k)) = v := by
              rw [← HVAL.out, encO, HL.out, HL9.out, ← HL6.out, HL4.out, List.take_of_length_le (by rw [HL.out]; exact Nat.le_refl _)]
              simp [encH, numsE, nm, List.append_assoc]
            exact ⟨by rw [← e]; rfl, HX.out⟩

end Go.Proofs.Ytagjgknkkbkjgaa.V
