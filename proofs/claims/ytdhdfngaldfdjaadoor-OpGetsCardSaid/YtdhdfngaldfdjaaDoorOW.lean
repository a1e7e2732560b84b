/-
  What was put is read; the law OpPuts.
-/
import Derived.Test.YtdhdfngaldfdjaaDoorOV
import Derived.Test.YtdhdfngaldfdjaaDoorOT
import Derived.Test.YtdhdfngaldfdjaaDoorOU
import Derived.Test.YtdhdfngaldfdjaaDoorOR
namespace Go.Proofs.YtdhdfngaldfdjaaDoor.V
set_option linter.unusedVariables false
set_option linter.unusedSimpArgs false
set_option maxRecDepth 100000
open Go Go.RowKit Go.Maps Wire

theorem bne_ba (s : ByteArray) : (s != s) = false := by
  cases s with
  | mk d => show (!(d == d)) = false; simp
theorem takeD_enc {a b : Nat} (ha : a < 256) (hb : b < 4294967296) (r : List UInt8) : takeDot (some (encD a b ++ r)) = ((a, b), some r) := by
  unfold encD
  rw [List.append_assoc]
  exact takeDot_enc ha hb r
theorem takeV_enc {v : Vec} (hv : okV v) (r : List UInt8) : takeVec (some (encV (vl v) ++ r)) = (vl v, some r) := takeVec_enc rfl (vl_lt hv) r
theorem vecOf_vl {v : Vec} (hv : okV v) : vecOf (vl v) = v := by
  funext i
  match i with
  | 0 | 1 | 2 | 3 | 4 | 5 | 6 | 7 => rfl
  | j + 8 => exact (hv.2 (j + 8) (by omega)).symm
theorem takeH_enc {o : OpM} (h : okO o) (n : Nat) (r : List UInt8) : takeH (some (encH o n ++ r)) = (setL o (.slice none 0 0), some (enc n ++ r)) := by
  unfold encH
  simp only [List.append_assoc]
  unfold takeH
  rw [takeD_enc h.r h.n]; dsimp only
  rw [takeV_enc h.dep]; dsimp only
  rw [takeNum_enc (n := o.tm) (most := m64) (by have := h.tm; unfold m64; omega) (by have := h.tm; omega)]; dsimp only
  rw [takeNum_enc (n := o.who) (most := m32) (by have := h.who; unfold m32; omega) (by have := h.who; omega)]; dsimp only
  rw [takeD_enc h.cr h.cn]; dsimp only
  rw [takeNum_enc (n := o.kd) (most := m8) (by have := h.kd; unfold m8; omega) (by have := h.kd; omega)]; dsimp only
  rw [takeD_enc h.dr h.dn]; dsimp only
  rw [takeNum_enc (n := o.to) (most := m32) (by have := h.to; unfold m32; omega) (by have := h.to; omega)]; dsimp only
  rw [takeNum_enc (n := o.ro) (most := m8) (by have := h.ro; unfold m8; omega) (by have := h.ro; omega)]; dsimp only
  rw [takeNum_enc (n := o.de) (most := m8) (by have := h.de; unfold m8; omega) (by have := h.de; omega)]; dsimp only
  rw [takeNum_enc (n := o.cap) (most := m64) (by have := h.cap; unfold m64; omega) (by have := h.cap; omega)]; dsimp only
  rw [takeD_enc h.ar h.an]; dsimp only
  rw [takeD_enc h.vr h.vn]; dsimp only
  rw [takeNum_enc (n := o.it) (most := m32) (by have := h.it; unfold m32; omega) (by have := h.it; omega)]; dsimp only
  rw [takeNum_enc (n := o.qt) (most := m32) (by have := h.qt; unfold m32; omega) (by have := h.qt; omega)]; dsimp only
  rw [takeNum_enc (n := o.pr) (most := m32) (by have := h.pr; unfold m32; omega) (by have := h.pr; omega)]; dsimp only
  rw [vecOf_vl h.dep]
  rfl
theorem encLs_cons (x : Claim) (r : List Claim) : encLs (x :: r) = encD x.1.1 x.1.2 ++ (encD x.2.1 x.2.2 ++ encLs r) := by simp only [encLs, encC, List.flatMap_cons, List.append_assoc]
theorem takeLs_enc {l : List Claim} (h : ∀ x ∈ l, Claim.ok x) (r : List UInt8) : ∀ k, k ≤ l.length → takeLs k (some (encLs l ++ r)) = (l.take k, some (encLs (l.drop k) ++ r))
  | 0, _ => by simp [takeLs]
  | k + 1, hk => by
    have hlt : k < l.length := by omega
    have hx := h l[k] (List.getElem_mem hlt)
    rw [takeLs, takeLs_enc h r k (by omega)]
    dsimp only
    rw [List.drop_eq_getElem_cons hlt, encLs_cons]
    simp only [List.append_assoc]
    rw [takeD_enc hx.1.1 hx.1.2]
    dsimp only
    rw [takeD_enc hx.2.1 hx.2.2]
    dsimp only
    rw [List.take_succ_eq_append_getElem hlt]
theorem takeT_enc {l : List Claim} (h : ∀ x ∈ l, Claim.ok x) (h16 : l.length ≤ 16) (r : List UInt8) : takeT (some (enc l.length ++ (encLs l ++ r))) = (l, some r) := by
  unfold takeT
  rw [takeNum_enc h16 (by omega)]
  dsimp only
  rw [takeLs_enc h r l.length (Nat.le_refl _)]
  simp [encLs]
theorem take_put {o : OpM} (ho : okO o) {l : List Claim} (h : ∀ x ∈ l, Claim.ok x) (h16 : l.length ≤ 16) (r : List UInt8) : takeT (takeH (some (encO o l ++ r))).2 = (l, some r) := by
  unfold encO
  rw [List.append_assoc, takeH_enc ho]
  exact takeT_enc h h16 r
theorem get_put {o : OpM} (ho : okO o) {l : List Claim} (h : ∀ x ∈ l, Claim.ok x) (h16 : l.length ≤ 16) : getE (encO o l) = 0 ∧ getO (encO o l) = setL o (.slice none 0 0) ∧ getL (encO o l) = l := by
  have e := take_put ho h h16 []
  rw [List.append_nil] at e
  have hE : getE (encO o l) = 0 := by unfold getE; rw [e]; rfl
  refine ⟨hE, ?_, ?_⟩
  · unfold getO
    rw [if_pos hE]
    unfold encO
    rw [takeH_enc ho]
  · unfold getL
    rw [if_pos hE, e]
theorem sameM_refl (o : OpM) (l : List Claim) (v : Value) : sameM (setL o v) o l l = true := by
  unfold sameM simE setL eqB eqV
  simp
theorem encO_len {o : OpM} (h : okO o) {l : List Claim} (hl : ∀ x ∈ l, Claim.ok x) (h16 : l.length ≤ 16) : (encO o l).length ≤ 10000 := by
  have h1 := encLs_len hl l.length
  rw [List.take_length] at h1
  have hd : ∀ a b, a < 256 → b < 4294967296 → (encD a b).length ≤ 18 := fun a b ha hb => by
    unfold encD
    rw [List.length_append]
    have := enc_len (n := a) (by omega)
    have := enc_len (n := b) (by omega)
    omega
  have hv := encV_len (vl_lt h.dep)
  have hv8 : (vl o.dep).length = 8 := rfl
  have k1 := hd _ _ h.r h.n
  have k2 := hd _ _ h.cr h.cn
  have k3 := hd _ _ h.dr h.dn
  have k4 := hd _ _ h.ar h.an
  have k5 := hd _ _ h.vr h.vn
  have k6 := enc_len h.tm
  have k7 := enc_len (n := o.who) (by have := h.who; omega)
  have k8 := enc_len (n := o.kd) (by have := h.kd; omega)
  have k9 := enc_len (n := o.to) (by have := h.to; omega)
  have k10 := enc_len (n := o.ro) (by have := h.ro; omega)
  have k11 := enc_len (n := o.de) (by have := h.de; omega)
  have k12 := enc_len h.cap
  have k13 := enc_len (n := o.it) (by have := h.it; omega)
  have k14 := enc_len (n := o.qt) (by have := h.qt; omega)
  have k15 := enc_len (n := o.pr) (by have := h.pr; omega)
  have k16 := enc_len (n := l.length) (by omega)
  unfold encO encH
  simp only [List.length_append]
  omega

theorem ClaimsV.one {w : World} {v : Value} {l : List Claim} (h : ClaimsV w v l) : v.oneCell' = true := by obtain ⟨a, n, c, rfl, _⟩ := h; rfl

set_option maxHeartbeats 1000000 in
theorem law_OpPuts (o : OpM) (hok : okO o) (l : List Claim) (w : World) (hv : ClaimsV w o.lv l) (hT : Tab w) :
    Calls Tryd.prog 4 #[.agg (oc o)] w fun e w' => e = .returned (.bool true) ∧ Below w.heap.size w w' := by
  have HV := hid hv
  have HT := hid hT
  have HOK := hid hok
  obtain ⟨ad, len, cap, hlv, hI⟩ := hv
  have hlen := hI.1
  have hcl := hI.2.2.2.1
  have HCL := hid hcl
  have HLEN := hid hlen
  have g28 : (oc o)[28]? = some (.slice ad len cap) := by rw [← hlv]; rfl
  have HE := hid (below_al w (.cells (oc o) 30))
  clear hI hlv hcl hT hok
  by_cases h100 : 100 < len
  · have t1 : decide (100 < (len : Int)) = true := decide_eq_true (by omega)
    clear hlen
    go_enter Tryd.func4, Tryd.ntmps4
    go_wp2_with (go_at_call 11; (with_reducible refine (law_head _ (HT.out.keep HE.out)).mono ?_); rintro e w4 ⟨rfl, hB4⟩; have HB4 := hid (below_next HE.out hB4); clear hB4)
    go_ret
    exact ⟨rfl, HB4.out⟩
  · have t1 : decide (100 < (len : Int)) = false := decide_eq_false (by omega)
    have hput := fun W hV => op_Put o HOK.out l W hV
    have href := fun W hV => ref_Put o HOK.out l W hV
    have HO0 := hid (opAt_new w o)
    by_cases h16 : 16 < len
    · have e1 : putM o l = ([], 3) := by unfold putM; rw [hlen, if_pos h16]
      rw [e1] at hput href
      dsimp only at hput href
      clear hlen e1
      go_enter Tryd.func4, Tryd.ntmps4
      go_wp2_with (first
        | (refine load_op rfl _ rfl w.heap.size rfl _ HO0.out ?_)
        | (go_at_call 12; (with_reducible refine (hput _ (HV.out.keep HE.out)).mono ?_); rintro e w1 ⟨rfl, hB1⟩; have HO1 := hid (HO0.out.keep hB1); have HB1 := hid (below_next HE.out hB1); clear hB1 HO0)
        | (refine load_op rfl _ rfl w.heap.size rfl _ HO1.out ?_)
        | (go_at_call 13; (with_reducible refine (href _ (HV.out.keep HB1.out)).mono ?_); rintro e w2 ⟨rfl, hB2⟩; have HB2 := hid (below_next HB1.out hB2); clear hB2)
        | (go_at_call 11; (with_reducible refine (law_head _ (HT.out.keep HB2.out)).mono ?_); rintro e w4 ⟨rfl, hB4⟩; have HB4 := hid (below_next HB2.out hB4); clear hB4))
      go_ret
      exact ⟨rfl, HB4.out⟩
    · have e1 : putM o l = (encO o l, 0) := by unfold putM; rw [hlen, if_neg h16]
      rw [e1] at hput href
      dsimp only at hput href
      have hl16 : l.length ≤ 16 := by omega
      obtain ⟨g1, g2, g3⟩ := get_put HOK.out HCL.out hl16
      have hs : (ba (encO o l)).size ≤ 1000000 := by rw [ba_size]; have := encO_len HOK.out HCL.out hl16; omega
      have hget := fun W => op_Get (ba (encO o l)) hs W
      rw [ba_list, g1, g2, g3] at hget
      have hbs : (ba (encO o l) != ba (encO o l)) = false := bne_ba _
      generalize ba (encO o l) = s at hput href hget hbs hs
      clear hlen e1 g1 g2 g3 hs
      go_enter Tryd.func4, Tryd.ntmps4
      go_upto_region 10 with (first
        | (refine load_op rfl _ rfl w.heap.size rfl _ HO0.out ?_)
        | (go_at_call 12; (with_reducible refine (hput _ (HV.out.keep HE.out)).mono ?_); rintro e w1 ⟨rfl, hB1⟩; have HO1 := hid (HO0.out.keep hB1); have HB1 := hid (below_next HE.out hB1); clear hB1 HO0)
        | (refine load_op rfl _ rfl w.heap.size rfl _ HO1.out ?_)
        | (go_at_call 13; (with_reducible refine (href _ (HV.out.keep HB1.out)).mono ?_); rintro e w2 ⟨rfl, hB2⟩; have HO2 := hid (HO1.out.keep hB2); have HB2 := hid (below_next HB1.out hB2); clear hB2 HO1)
        | (go_at_call 14; (with_reducible refine (hget w2).mono ?_); rintro e w3 ⟨v, rfl, hv3, hB3⟩; have HO3 := hid (HO2.out.keep hB3); have HB3 := hid (below_next HB2.out hB3); have HV3 := hid hv3; clear hB3 HO2 hv3)
        | (refine wpList_store_row rfl _ _ _ rfl w3.heap.size (oc (setL (setL o (.slice none 0 0)) v)) rfl rfl 30 (oc zeroO) ?_ (opSize _) rfl (oneO _ (ClaimsV.one HV3.out)) ?_; (focus exact heap_alloc_last' _ _); rw [World.setRow_alloc_new]))
      obtain ⟨q, hq⟩ : ∃ q, setL (setL o (.slice none 0 0)) v = q := ⟨_, rfl⟩
      have hqv : ClaimsV w3 q.lv l := by rw [← hq]; exact HV3.out
      have hsame : sameM q o l l = true := by rw [← hq]; exact sameM_refl o l v
      rw [hq]
      have H7 := hid (opAt_new w3 q)
      have H1 := hid (HO3.out.al (.cells (oc q) 30))
      have HB4 := hid (below_next HB3.out (below_al w3 (.cells (oc q) 30)))
      have HVq := hid (hqv.keep (below_al w3 (.cells (oc q) 30)))
      have HVo := hid (HV.out.keep HB4.out)
      have hs1 := fun W ha hb => ref_Same q o l l W ha hb
      have hs2 := fun W ha hb => op_Same q o l l W ha hb
      rw [hsame] at hs1 hs2
      clear hqv hsame hq hput href hget hbs HO3 HV3
      generalize w3.alloc (.cells (oc q) 30) = w4 at H7 H1 HB4 HVq HVo ⊢
      go_wp2_with (first
        | (refine load_op2 _ rfl (by kernel_rfl) w3.heap.size rfl _ H7.out ?_)
        | (refine load_op2 _ rfl (by kernel_rfl) w.heap.size rfl _ H1.out ?_)
        | (go_at_call 15; (with_reducible refine (hs1 _ HVq.out HVo.out).mono ?_); rintro e w5 ⟨rfl, hB5⟩; have G7 := hid (H7.out.keep hB5); have G1 := hid (H1.out.keep hB5); have HB5 := hid (below_next HB4.out hB5); have GVq := hid (HVq.out.keep hB5); have GVo := hid (HVo.out.keep hB5); clear hB5)
        | (refine load_op2 _ rfl (by kernel_rfl) w3.heap.size rfl _ G7.out ?_)
        | (refine load_op2 _ rfl (by kernel_rfl) w.heap.size rfl _ G1.out ?_)
        | (go_at_call 16; (with_reducible refine (hs2 _ GVq.out GVo.out).mono ?_); rintro e w6 ⟨rfl, hB6⟩; have HB6 := hid (below_next HB5.out hB6); clear hB6)
        | (go_at_call 11; (with_reducible refine (law_head _ (HT.out.keep HB6.out)).mono ?_); rintro e w7 ⟨rfl, hB7⟩; have HB7 := hid (below_next HB6.out hB7); clear hB7))
      go_ret
      exact ⟨rfl, HB7.out⟩

end Go.Proofs.YtdhdfngaldfdjaaDoor.V
