/-
  The law OpChecks.
-/
import Derived.Test.YtagjgknkkbkjgaaJQ
import Derived.Test.YtagjgknkkbkjgaaOV
import Derived.Test.YtagjgknkkbkjgaaOT
import Derived.Test.YtagjgknkkbkjgaaJO
namespace Go.Proofs.Ytagjgknkkbkjgaa.V
set_option linter.unusedVariables false
set_option linter.unusedSimpArgs false
set_option maxRecDepth 100000
open Go Go.RowKit Go.Maps Wire

set_option maxRecDepth 100000
set_option linter.unusedVariables false
set_option linter.unusedSimpArgs false
theorem w64 {z : Int} (h : -9223372036854775808 ≤ z) (h' : z < 9223372036854775808) : wrap64 z = z := by
  unfold wrap64; omega

end Go.Proofs.Ytagjgknkkbkjgaa.V

/-
  What was put is read; the law OpPuts.
-/
namespace Go.Proofs.Ytagjgknkkbkjgaa.V
set_option linter.unusedVariables false
set_option linter.unusedSimpArgs false
set_option maxRecDepth 100000
open Go Go.RowKit Go.Maps Wire

set_option maxRecDepth 100000
set_option linter.unusedVariables false
set_option linter.unusedSimpArgs false
theorem bne_ba (s : ByteArray) : (s != s) = false := by
  cases s with
  | mk d => show (!(d == d)) = false; simp
theorem takeD_enc {a b : Nat} (ha : a < 256) (hb : b < 4294967296) (r : List UInt8) : takeDot (some (encD a b ++ r)) = ((a, b), some r) := by
  unfold encD
  rw [List.append_assoc]
  exact takeDot_enc ha hb r
theorem takeV_enc {v : Vec} (hv : okV v) (r : List UInt8) : takeVec (some (encV (vl v) ++ r)) = (vl v, some r) := takeVec_enc rfl (vl_lt hv) r
theorem vecOf_vl {v : Vec} (hv : okV v) : vecOf (vl v) = v := by
  funext i
  match i with
  | 0 | 1 | 2 | 3 | 4 | 5 | 6 | 7 => rfl
  | j + 8 => exact (hv.2 (j + 8) (by omega)).symm
theorem takeH_enc {o : OpM} (h : okO o) (n : Nat) (r : List UInt8) : takeH (some (encH o n ++ r)) = (setL o (.slice none 0 0), some (enc n ++ r)) := by
  unfold encH
  simp only [List.append_assoc]
  unfold takeH
  rw [takeD_enc h.r h.n]; dsimp only
  rw [takeV_enc h.dep]; dsimp only
  rw [takeNum_enc (n := o.tm) (most := m64) (by have := h.tm; unfold m64; omega) (by have := h.tm; omega)]; dsimp only
  rw [takeNum_enc (n := o.who) (most := m32) (by have := h.who; unfold m32; omega) (by have := h.who; omega)]; dsimp only
  rw [takeD_enc h.cr h.cn]; dsimp only
  rw [takeNum_enc (n := o.kd) (most := m8) (by have := h.kd; unfold m8; omega) (by have := h.kd; omega)]; dsimp only
  rw [takeD_enc h.dr h.dn]; dsimp only
  rw [takeNum_enc (n := o.to) (most := m32) (by have := h.to; unfold m32; omega) (by have := h.to; omega)]; dsimp only
  rw [takeNum_enc (n := o.ro) (most := m8) (by have := h.ro; unfold m8; omega) (by have := h.ro; omega)]; dsimp only
  rw [takeNum_enc (n := o.de) (most := m8) (by have := h.de; unfold m8; omega) (by have := h.de; omega)]; dsimp only
  rw [takeNum_enc (n := o.cap) (most := m64) (by have := h.cap; unfold m64; omega) (by have := h.cap; omega)]; dsimp only
  rw [takeD_enc h.ar h.an]; dsimp only
  rw [takeD_enc h.vr h.vn]; dsimp only
  rw [takeNum_enc (n := o.it) (most := m32) (by have := h.it; unfold m32; omega) (by have := h.it; omega)]; dsimp only
  rw [takeNum_enc (n := o.qt) (most := m32) (by have := h.qt; unfold m32; omega) (by have := h.qt; omega)]; dsimp only
  rw [takeNum_enc (n := o.pr) (most := m32) (by have := h.pr; unfold m32; omega) (by have := h.pr; omega)]; dsimp only
  rw [vecOf_vl h.dep]
  rfl
theorem encLs_cons (x : Claim) (r : List Claim) : encLs (x :: r) = encD x.1.1 x.1.2 ++ (encD x.2.1 x.2.2 ++ encLs r) := by simp only [encLs, encC, List.flatMap_cons, List.append_assoc]
theorem takeLs_enc {l : List Claim} (h : ∀ x ∈ l, Claim.ok x) (r : List UInt8) : ∀ k, k ≤ l.length → takeLs k (some (encLs l ++ r)) = (l.take k, some (encLs (l.drop k) ++ r))
  | 0, _ => by simp [takeLs]
  | k + 1, hk => by
    have hlt : k < l.length := by omega
    have hx := h l[k] (List.getElem_mem hlt)
    rw [takeLs, takeLs_enc h r k (by omega)]
    dsimp only
    rw [List.drop_eq_getElem_cons hlt, encLs_cons]
    simp only [List.append_assoc]
    rw [takeD_enc hx.1.1 hx.1.2]
    dsimp only
    rw [takeD_enc hx.2.1 hx.2.2]
    dsimp only
    rw [List.take_succ_eq_append_getElem hlt]
theorem takeT_enc {l : List Claim} (h : ∀ x ∈ l, Claim.ok x) (h16 : l.length ≤ 16) (r : List UInt8) : takeT (some (enc l.length ++ (encLs l ++ r))) = (l, some r) := by
  unfold takeT
  rw [takeNum_enc h16 (by omega)]
  dsimp only
  rw [takeLs_enc h r l.length (Nat.le_refl _)]
  simp [encLs]
theorem take_put {o : OpM} (ho : okO o) {l : List Claim} (h : ∀ x ∈ l, Claim.ok x) (h16 : l.length ≤ 16) (r : List UInt8) : takeT (takeH (some (encO o l ++ r))).2 = (l, some r) := by
  unfold encO
  rw [List.append_assoc, takeH_enc ho]
  exact takeT_enc h h16 r
theorem get_put {o : OpM} (ho : okO o) {l : List Claim} (h : ∀ x ∈ l, Claim.ok x) (h16 : l.length ≤ 16) : getE (encO o l) = 0 ∧ getO (encO o l) = setL o (.slice none 0 0) ∧ getL (encO o l) = l := by
  have e := take_put ho h h16 []
  rw [List.append_nil] at e
  have hE : getE (encO o l) = 0 := by unfold getE; rw [e]; rfl
  refine ⟨hE, ?_, ?_⟩
  · unfold getO
    rw [if_pos hE]
    unfold encO
    rw [takeH_enc ho]
  · unfold getL
    rw [if_pos hE, e]
theorem sameM_refl (o : OpM) (l : List Claim) (v : Value) : sameM (setL o v) o l l = true := by
  unfold sameM simE setL eqB eqV
  simp
theorem encO_len {o : OpM} (h : okO o) {l : List Claim} (hl : ∀ x ∈ l, Claim.ok x) (h16 : l.length ≤ 16) : (encO o l).length ≤ 10000 := by
  have h1 := encLs_len hl l.length
  rw [List.take_length] at h1
  have hd : ∀ a b, a < 256 → b < 4294967296 → (encD a b).length ≤ 18 := fun a b ha hb => by
    unfold encD
    rw [List.length_append]
    have := enc_len (n := a) (by omega)
    have := enc_len (n := b) (by omega)
    omega
  have hv := encV_len (vl_lt h.dep)
  have hv8 : (vl o.dep).length = 8 := rfl
  have k1 := hd _ _ h.r h.n
  have k2 := hd _ _ h.cr h.cn
  have k3 := hd _ _ h.dr h.dn
  have k4 := hd _ _ h.ar h.an
  have k5 := hd _ _ h.vr h.vn
  have k6 := enc_len h.tm
  have k7 := enc_len (n := o.who) (by have := h.who; omega)
  have k8 := enc_len (n := o.kd) (by have := h.kd; omega)
  have k9 := enc_len (n := o.to) (by have := h.to; omega)
  have k10 := enc_len (n := o.ro) (by have := h.ro; omega)
  have k11 := enc_len (n := o.de) (by have := h.de; omega)
  have k12 := enc_len h.cap
  have k13 := enc_len (n := o.it) (by have := h.it; omega)
  have k14 := enc_len (n := o.qt) (by have := h.qt; omega)
  have k15 := enc_len (n := o.pr) (by have := h.pr; omega)
  have k16 := enc_len (n := l.length) (by omega)
  unfold encO encH
  simp only [List.length_append]
  omega

theorem ClaimsV.one {w : World} {v : Value} {l : List Claim} (h : ClaimsV w v l) : v.oneCell' = true := by obtain ⟨a, n, c, rfl, _⟩ := h; rfl

end Go.Proofs.Ytagjgknkkbkjgaa.V

/-
  What was read, put again, is the bytes.
-/
namespace Go.Proofs.Ytagjgknkkbkjgaa.V
set_option linter.unusedVariables false
set_option linter.unusedSimpArgs false
set_option maxRecDepth 100000
open Go Go.RowKit Go.Maps Wire

set_option maxRecDepth 100000
set_option linter.unusedVariables false
set_option linter.unusedSimpArgs false
theorem takeDot_some {st : St} {r : List UInt8} (h : (takeDot st).2 = some r) : st = some (encD (takeDot st).1.1 (takeDot st).1.2 ++ r) := by
  rw [takeDot_is] at h ⊢
  dsimp only at h ⊢
  rw [h]
  dsimp only [Option.isSome_some, if_true]
  have h1 := takeNum_some h
  have h2 := takeNum_some h1
  rw [if_pos rfl]
  unfold encD
  rw [List.append_assoc]
  exact h2
theorem vecGo_some : ∀ (k : Nat) (st : St) (r : List UInt8), (vecGo k st).2 = some r → st = some (encV (vecGo k st).1 ++ r)
  | 0, st, r, h => by simpa [vecGo, encV] using h
  | k + 1, st, r, h => by
    have h' : (takeNum (vecGo k st).2 m32).2 = some r := h
    have h1 := takeNum_some h'
    have h2 := vecGo_some k st _ h1
    rw [show (vecGo (k + 1) st).1 = (vecGo k st).1 ++ [(takeNum (vecGo k st).2 m32).1] from rfl, encV_snoc, List.append_assoc]
    exact h2
theorem takeVec_some {st : St} {r : List UInt8} (h : (takeVec st).2 = some r) : st = some (encV (takeVec st).1 ++ r) := by
  rw [takeVec_is] at h ⊢
  dsimp only at h ⊢
  rw [h]
  rw [if_pos (show (some r).isSome = true from rfl)]
  exact vecGo_some 8 st r h
theorem takeLs_some : ∀ (k : Nat) (st : St) (r : List UInt8), (takeLs k st).2 = some r → st = some (encLs (takeLs k st).1 ++ r)
  | 0, st, r, h => by simpa [takeLs, encLs] using h
  | k + 1, st, r, h => by
    have h' : (takeDot (takeDot (takeLs k st).2).2).2 = some r := h
    have h1 := takeDot_some h'
    have h2 := takeDot_some h1
    have h3 := takeLs_some k st _ h2
    rw [show (takeLs (k + 1) st).1 = (takeLs k st).1 ++ [((takeDot (takeLs k st).2).1, (takeDot (takeDot (takeLs k st).2).2).1)] from rfl]
    rw [show encLs ((takeLs k st).1 ++ [((takeDot (takeLs k st).2).1, (takeDot (takeDot (takeLs k st).2).2).1)]) = encLs (takeLs k st).1 ++ (encD (takeDot (takeLs k st).2).1.1 (takeDot (takeLs k st).2).1.2 ++ encD (takeDot (takeDot (takeLs k st).2).2).1.1 (takeDot (takeDot (takeLs k st).2).2).1.2) by simp only [encLs, encC, List.flatMap_append, List.flatMap_cons, List.flatMap_nil, List.append_nil]]
    simp only [List.append_assoc]
    exact h3
theorem vl_vecOf {l : List Nat} (h : l.length = 8) : vl (vecOf l) = l := by
  obtain ⟨a0, a1, a2, a3, a4, a5, a6, a7, rfl⟩ := list8 l h
  rfl
theorem okV_vecOf {l : List Nat} (h8 : l.length = 8) (h : ∀ n ∈ l, n < 4294967296) : okV (vecOf l) := by
  constructor
  · intro i
    unfold vecOf
    by_cases hi : i < l.length
    · rw [List.getD_eq_getElem?_getD, List.getElem?_eq_getElem hi]
      exact h _ (List.getElem_mem hi)
    · rw [List.getD_eq_getElem?_getD, List.getElem?_eq_none (by omega)]
      show (0 : Nat) < 4294967296
      omega
  · intro i hi
    unfold vecOf
    rw [List.getD_eq_getElem?_getD, List.getElem?_eq_none (by omega)]
    rfl
theorem takeH_ok (st : St) : okO (takeH st).1 := by
  have d := takeDot_lt
  have n := takeNum_le
  have n64 := takeNum_lt
  unfold takeH
  dsimp only
  refine ⟨okV_vecOf (takeVec_len _) (takeVec_lt _), (d _).1, (d _).2, n64 _ _, ?_, (d _).1, (d _).2, ?_, (d _).1, (d _).2, ?_, ?_, ?_, n64 _ _, (d _).1, (d _).2, (d _).1, (d _).2, ?_, ?_, ?_⟩
  all_goals first
    | exact Nat.lt_succ_of_le (n _ m32)
    | exact Nat.lt_succ_of_le (n _ m8)
theorem takeH_some {st : St} {r : List UInt8} (h : (takeH st).2 = some r) (n : Nat) (q : List UInt8) (hr : r = enc n ++ q) : st = some (encH (takeH st).1 n ++ q) := by
  unfold takeH at h ⊢
  dsimp only at h ⊢
  have e15 := takeNum_some h
  have e14 := takeNum_some e15
  have e13 := takeNum_some e14
  have e12 := takeDot_some e13
  have e11 := takeDot_some e12
  have e10 := takeNum_some e11
  have e9 := takeNum_some e10
  have e8 := takeNum_some e9
  have e7 := takeNum_some e8
  have e6 := takeDot_some e7
  have e5 := takeNum_some e6
  have e4 := takeDot_some e5
  have e3 := takeNum_some e4
  have e2 := takeNum_some e3
  have e1 := takeVec_some e2
  have e0 := takeDot_some e1
  rw [hr] at e0
  unfold encH
  dsimp only
  rw [vl_vecOf (takeVec_len _)]
  simp only [List.append_assoc]
  exact e0

theorem endOf_zero {st : St} (h : endOf st = 0) : st = some [] := by
  unfold endOf at h
  split at h
  · assumption
  · cases h
theorem getE_zero {b : List UInt8} (h : getE b = 0) : b = encO (getO b) (getL b) ∧ okO (getO b) ∧ (∀ x ∈ getL b, Claim.ok x) ∧ (getL b).length ≤ 16 := by
  have h1 := endOf_zero h
  unfold getO getL
  rw [if_pos h, if_pos h]
  unfold takeT at h1 ⊢
  have h2 := takeLs_some _ _ _ h1
  have h3 := takeNum_some h2
  rw [List.append_nil] at h3
  have h4 := takeH_some h3 _ _ rfl
  have hl := takeLs_len (takeNum (takeH (some b)).2 16).1 (takeNum (takeH (some b)).2 16).2
  refine ⟨?_, takeH_ok _, takeLs_ok _ _, ?_⟩
  · unfold encO
    rw [hl]
    exact Option.some.inj h4
  · rw [hl]; exact takeNum_le _ _
theorem opM_ext {a b : OpM} (ha : okV a.dep) (hb : okV b.dep) (h : sameM a b [] [] = true) : setL a (.slice none 0 0) = setL b (.slice none 0 0) := by
  unfold sameM simE eqB at h
  simp only [Bool.and_eq_true, decide_eq_true_eq, beq_iff_eq, Int.natCast_inj, Prod.mk.injEq] at h
  obtain ⟨⟨h1, h2⟩, h3, h4, h5, ⟨h6, h7⟩, h8, ⟨h9, h10⟩, ⟨h11, h12⟩, ⟨h13, h14⟩, ⟨h15, h16, h17, h18, h19, h20, h21⟩, _⟩ := h
  have hd := (eqV_iff ha hb).1 h3
  cases a
  cases b
  simp only [setL, OpM.mk.injEq, and_true] at *
  exact ⟨h1, h2, hd, h4, h5, h6, h7, h8, h9, h10, h15, h16, h17, h18, h11, h12, h13, h14, h19, h20, h21⟩
theorem sameM_lines (a b : OpM) (la lb : List Claim) : sameM a b la lb = (sameM a b [] [] && decide (la = lb)) := by
  unfold sameM
  simp only [decide_true, Bool.and_true, Bool.and_assoc]
theorem encO_setL (o : OpM) (v : Value) (l : List Claim) : encO (setL o v) l = encO o l := rfl
theorem sameM_setL (a b : OpM) (u v : Value) (la lb : List Claim) : sameM (setL a u) (setL b v) la lb = sameM a b la lb := rfl
theorem same_enc {a b : OpM} (ha : okO a) (hb : okO b) {la lb : List Claim} (hla : ∀ x ∈ la, Claim.ok x) (hlb : ∀ x ∈ lb, Claim.ok x) (h1 : la.length ≤ 16) (h2 : lb.length ≤ 16) : sameM a b la lb = decide (encO a la = encO b lb) := by
  by_cases e : encO a la = encO b lb
  · rw [decide_eq_true e]
    obtain ⟨_, p2, p3⟩ := get_put ha hla h1
    obtain ⟨_, q2, q3⟩ := get_put hb hlb h2
    rw [e] at p2 p3
    have e1 : setL a (.slice none 0 0) = setL b (.slice none 0 0) := p2.symm.trans q2
    have e2 : la = lb := p3.symm.trans q3
    subst e2
    rw [← sameM_setL a b (.slice none 0 0) (.slice none 0 0), e1]
    exact sameM_refl (setL b (.slice none 0 0)) la (.slice none 0 0)
  · rw [decide_eq_false e]
    cases hs : sameM a b la lb
    · rfl
    · rw [sameM_lines, Bool.and_eq_true] at hs
      have e1 := opM_ext ha.dep hb.dep hs.1
      have e2 := of_decide_eq_true hs.2
      subst e2
      exact absurd (by rw [← encO_setL a (.slice none 0 0), e1, encO_setL]) e
theorem sameM_comm (a b : OpM) (la lb : List Claim) : sameM a b la lb = sameM b a lb la := by
  rw [Bool.eq_iff_iff]
  unfold sameM simE eqB eqV
  simp only [Bool.and_eq_true, decide_eq_true_eq, beq_iff_eq, Int.natCast_inj, Prod.mk.injEq]
  constructor
  · rintro ⟨⟨h1, h2⟩, ⟨d0, d1, d2, d3, d4, d5, d6, d7⟩, h4, h5, ⟨h6, h7⟩, h8, ⟨h9, h10⟩, ⟨h11, h12⟩, ⟨h13, h14⟩, ⟨h15, h16, h17, h18, h19, h20, h21⟩, h22⟩
    exact ⟨⟨h1.symm, h2.symm⟩, ⟨d0.symm, d1.symm, d2.symm, d3.symm, d4.symm, d5.symm, d6.symm, d7.symm⟩, h4.symm, h5.symm, ⟨h6.symm, h7.symm⟩, h8.symm, ⟨h9.symm, h10.symm⟩, ⟨h11.symm, h12.symm⟩, ⟨h13.symm, h14.symm⟩, ⟨h15.symm, h16.symm, h17.symm, h18.symm, h19.symm, h20.symm, h21.symm⟩, h22.symm⟩
  · rintro ⟨⟨h1, h2⟩, ⟨d0, d1, d2, d3, d4, d5, d6, d7⟩, h4, h5, ⟨h6, h7⟩, h8, ⟨h9, h10⟩, ⟨h11, h12⟩, ⟨h13, h14⟩, ⟨h15, h16, h17, h18, h19, h20, h21⟩, h22⟩
    exact ⟨⟨h1.symm, h2.symm⟩, ⟨d0.symm, d1.symm, d2.symm, d3.symm, d4.symm, d5.symm, d6.symm, d7.symm⟩, h4.symm, h5.symm, ⟨h6.symm, h7.symm⟩, h8.symm, ⟨h9.symm, h10.symm⟩, ⟨h11.symm, h12.symm⟩, ⟨h13.symm, h14.symm⟩, ⟨h15.symm, h16.symm, h17.symm, h18.symm, h19.symm, h20.symm, h21.symm⟩, h22.symm⟩
theorem sameM_self (o : OpM) (l : List Claim) : sameM o o l l = true := sameM_refl o l o.lv
theorem more_fails {o : OpM} (ho : okO o) {l : List Claim} (h : ∀ x ∈ l, Claim.ok x) (h16 : l.length ≤ 16) (c : UInt8) : getE (encO o l ++ [c]) = 5 := by
  unfold getE
  rw [take_put ho h h16]
  rfl
theorem less_fails {o : OpM} (ho : okO o) {l : List Claim} (h : ∀ x ∈ l, Claim.ok x) (h16 : l.length ≤ 16) {s : List UInt8} {c : UInt8} (e : encO o l = s ++ [c]) : getE s = 5 := by
  rcases endOf_vals (takeT (takeH (some s)).2).2 with h0 | h5
  · obtain ⟨e1, o1, l1, k1⟩ := getE_zero h0
    have h2 := more_fails o1 l1 k1 c
    rw [← e1, ← e, (get_put ho h h16).1] at h2
    cases h2
  · exact h5
theorem fails_zero {b : List UInt8} (h : getE b = 5) : getO b = zeroO ∧ getL b = [] := by
  unfold getO getL
  rw [if_neg (by rw [h]; decide), if_neg (by rw [h]; decide)]
  exact ⟨rfl, rfl⟩
theorem encO_pos (o : OpM) (l : List Claim) : 1 ≤ (encO o l).length := by
  unfold encO encH encD
  simp only [List.length_append]
  have := enc_ne o.r
  omega

end Go.Proofs.Ytagjgknkkbkjgaa.V
