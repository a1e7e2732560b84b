/-
  frame.getOps.
-/
import Derived.Test.YtagjgknkkbkjgaaFM
namespace Go.Proofs.Ytagjgknkkbkjgaa.V
set_option linter.unusedVariables false
set_option linter.unusedSimpArgs false
set_option maxRecDepth 100000
open Go Go.RowKit Go.Maps Wire

/-- An operation without the place of its lines. -/
def core (x : OC) : OC := (setL x.1 (.slice none 0 0), x.2)
theorem getO_lv (b : List UInt8) : (getO b).lv = .slice none 0 0 := by unfold getO; split <;> rfl
theorem setL_self {o : OpM} {v : Value} (h : o.lv = v) : setL o v = o := by subst h; rfl
theorem setL_setL (o : OpM) (u v : Value) : setL (setL o u) v = setL o v := rfl
theorem core_get (b : List UInt8) (u : Value) (l : List Claim) : core (setL (getO b) u, l) = (getO b, l) := by
  unfold core
  rw [setL_setL, setL_self (getO_lv b)]
/-- What getOps reads: the operations, the state behind, how many are left. -/
def opsGo : Nat → St → List OC × (St × Nat)
  | 0, st => ([], (st, 0))
  | k + 1, st => if getE (txt st).1 = 0 then ((getO (txt st).1, getL (txt st).1) :: (opsGo k (txt st).2).1, (opsGo k (txt st).2).2) else ([], ((txt st).2, k + 1))
theorem opsGo_bad {n : Nat} {st : St} (hn : n ≠ 0) (h : getE (txt st).1 = 5) : opsGo n st = ([], ((txt st).2, n)) := by
  cases n with
  | zero => exact absurd rfl hn
  | succ k => rw [opsGo, if_neg (by rw [h]; decide)]
theorem opsGo_one {n : Nat} {st : St} (hn : n ≠ 0) (h : getE (txt st).1 = 0) : opsGo n st = ((getO (txt st).1, getL (txt st).1) :: (opsGo (n - 1) (txt st).2).1, (opsGo (n - 1) (txt st).2).2) := by
  cases n with
  | zero => exact absurd rfl hn
  | succ k => rw [opsGo, if_pos h]; rfl
def leftAt (w : World) (bl : Nat) : Nat := match w.cell? ⟨bl, 0, none⟩ with | some v => (intOf v).toNat | none => 0
theorem leftAt_eq {w : World} {bl n : Nat} (h : w.cell? ⟨bl, 0, none⟩ = some (.int .u64 (n : Int))) : leftAt w bl = n := by unfold leftAt; rw [h]; simp [intOf]
theorem GL.cl {B : Nat} {w0 w : World} {bl bR bO g n : Nat} {st : St} {v : Value} {l : List OC} (h : GL B w0 w bl bR bO g n st v l) : w.cell? ⟨bl, 0, none⟩ = some (.int .u64 (n : Int)) := (cell_of_heap h.left).trans rfl
theorem GL.cO {B : Nat} {w0 w : World} {bl bR bO g n : Nat} {st : St} {v : Value} {l : List OC} (h : GL B w0 w bl bR bO g n st v l) : w.cell? ⟨bO, 0, none⟩ = some v := (cell_of_heap h.ops).trans rfl

set_option maxHeartbeats 1000000 in
theorem frame_getOps (g : Nat) (st : St) (hs : Small st) (W : World) (h : RAt W (some g) st) :
    Calls Try.prog 37 #[.pointer (some ⟨g, 0, none⟩)] W fun e w' => ∃ v l,
      e = .returned (.tuple #[v, .bool (((((opsGo (takeNum st 64).1 (takeNum st 64).2).2.2 : Nat) : Int)) == 0)]) ∧ KX W.heap.size (fun b => b = g) W w' ∧ RAt w' (some g) (opsGo (takeNum st 64).1 (takeNum st 64).2).2.1 ∧
        (∃ B, OwnOps B w' v l) ∧ l.map core = (opsGo (takeNum st 64).1 (takeNum st 64).2).1 := by
  obtain ⟨n0, st1, hnum⟩ : ∃ a b, takeNum st 64 = (a, b) := ⟨_, _, rfl⟩
  have hn64 := takeNum_le st 64
  have hs1 := small_takeNum hs 64
  have hnm : ∀ w, RAt w (some g) st → Calls Try.prog 35 #[.pointer (some ⟨g, 0, none⟩), .int .u64 64] w fun e w' => e = .returned (.int .u64 (n0 : Int)) ∧ RAt w' (some g) st1 ∧ Keeps w.heap.size (some g) w w' := fun w hr => by
    have := wire_Num (some g) st 64 hs w hr
    rw [hnum] at this
    exact this
  rw [hnum] at hn64 hs1 ⊢
  dsimp only at hn64 hs1 ⊢
  have hb0 := below_al W (.cells #[.pointer (some ⟨g, 0, none⟩)] 67)
  have HR0 := hid (RAt.keep (p := some g) h hb0)
  have hX0 := heap_alloc_last' W (.cells #[.pointer (some ⟨g, 0, none⟩)] 67)
  have c0 : (W.alloc (.cells #[.pointer (some ⟨g, 0, none⟩)] 67)).cell? ⟨W.heap.size, 0, none⟩ = some (.pointer (some ⟨g, 0, none⟩)) := (cell_of_heap hX0).trans rfl
  have HX0 := hid hX0
  have hltg : g < W.heap.size := lt_of_heap (show W.heap[g]? = some (.cells (rcells st) 101 (0, 0)) from h)
  have HLT := hid (And.intro hltg (And.intro hn64 hs1))
  clear hb0 hX0 h hnum hltg hn64 hs1
  go_enter Try.func37, Try.ntmps37
  go_upto_region 4 with (first
    | (go_at_call 35; (with_reducible refine (hnm _ HR0.out).mono ?_); rintro e w1 ⟨rfl, hr1, hk1⟩; have HR1 := hid hr1; have HK1 := hid hk1; clear hr1 hk1 c0))
  have hG : GL W.heap.size W ((w1.alloc (.cells #[.int .u64 (n0 : Int)] 47)).alloc (.cells #[.slice none 0 0] 25)) w1.heap.size W.heap.size (w1.heap.size + 1) g n0 st1 (.slice none 0 0) [] := by
    have hb := below_al2 w1 (.cells #[.int .u64 (n0 : Int)] 47) (.cells #[.slice none 0 0] 25)
    have hX1 := HK1.out.block W.heap.size (by simp) (fun e => by have := HLT.out.1; cases e; omega)
    have hsz := HK1.out.size
    simp at hsz
    refine ⟨?_, ?_, ?_, last2 _ _ _, RAt.keep (p := some g) HR1.out hb, HLT.out.2.2, OwnOps.nil _ _, HLT.out.1, by omega, by omega, by omega, by simpa using HLT.out.2.1⟩
    · refine (KX.of_below (below_al W (.cells #[.pointer (some ⟨g, 0, none⟩)] 67)) (Nat.le_refl _)).trans (KX.trans ⟨HK1.out.os, HK1.out.tape, HK1.out.output, HK1.out.size, fun b hlt hg => HK1.out.block b (by simp; omega) (fun e => hg (Option.some.inj e))⟩ (KX.of_below hb (by omega)))
    · exact heap_al (heap_alloc_last' _ _) _
    · exact heap_keep (hX1.trans HX0.out) hb
  have HG := hid hG
  have hsz : W.heap.size ≤ ((w1.alloc (.cells #[.int .u64 (n0 : Int)] 47)).alloc (.cells #[.slice none 0 0] 25)).heap.size := hG.kx.size
  have HSZ := hid hsz
  generalize (w1.alloc (.cells #[.int .u64 (n0 : Int)] 47)).alloc (.cells #[.slice none 0 0] 25) = w2 at HG HSZ ⊢
  generalize w1.heap.size = bl at HG ⊢
  clear hG hsz
  try clear HR1 HK1 HX0 HR0
  go_loopw [10] (fun _ wr => ∃ (n : Nat) (st' : St) (v : Value) (l : List OC), GL W.heap.size W wr bl W.heap.size (bl + 1) g n st' v l ∧ W.heap.size ≤ wr.heap.size ∧ l.map core ++ (opsGo n st').1 = (opsGo n0 st1).1 ∧ (opsGo n st').2 = (opsGo n0 st1).2) (fun _ wr => leftAt wr bl)
  case atStart => exact ⟨n0, st1, _, [], HG.out, HSZ.out, rfl, rfl⟩
  case round =>
    obtain ⟨n, st', v, l, hG, hsz, h1, h2⟩ := hrel
    have hnx := getOps_next _ _ _ _ _ _ _ _ _ _ _ hG hsz
    have hcl := hG.cl
    have h64 := hG.hn
    have H12 := hid (And.intro h1 h2)
    clear hG h1 h2
    by_cases hn : n = 0
    · have hca := hnx.mono (fun e w' h => show e = .returned (.bool false) ∧ GL W.heap.size W w' bl W.heap.size (bl + 1) g n st' v l from by
        obtain ⟨hx, _⟩ := h
        cases hx with
        | none _ hg => exact ⟨rfl, hg⟩
        | bad h0 => exact absurd hn h0
        | one _ _ h0 => exact absurd hn h0)
      have HN := hid hn
      have HLA := hid (leftAt_eq hcl)
      clear hnx hn hcl
      go_upto_region 5 with (go_at_call 62; (with_reducible refine hca.mono ?_); rintro e w3 ⟨rfl, hg3⟩; have HG3 := hid hg3; clear hg3)
      have d0 := HG3.out.cl
      have d1 := HG3.out.cO
      have HF := hid HG3.out
      clear HG3
      go_quiet (fail)
      go_wp2
      ((try simp only [Exit.inBlock, Exit.then]); refine bodyPost_ret (results_tmp2 rfl _ _ _) rfl ?_)
      refine ⟨v, l, ?_, HF.out.kx.trans (KX.of_below (below_drewN W.heap.size _ _) (Nat.le_refl _)), ?_, ⟨_, HF.out.own.keep (below_drewN _ _ _)⟩, ?_⟩
      · rw [← H12.out.2, HN.out]; rfl
      · rw [← H12.out.2, HN.out]; exact HF.out.at_
      · rw [← H12.out.1, HN.out]; simp [opsGo]
    · have hE : getE (txt st').1 = 0 ∨ getE (txt st').1 = 5 := endOf_vals _
      rcases hE with hE | hE
      · have hca := hnx.mono (fun e w' h => show e = .returned (.bool true) ∧ ∃ v' u, GL W.heap.size W w' bl W.heap.size (bl + 1) g (n - 1) (txt st').2 v' (l ++ [(setL (getO (txt st').1) u, getL (txt st').1)]) ∧ W.heap.size ≤ w'.heap.size from by
          obtain ⟨hx, hs2⟩ := h
          cases hx with
          | none h0 => exact absurd h0 hn
          | bad _ h5 => rw [hE] at h5; cases h5
          | one v' u _ _ hg => exact ⟨rfl, v', u, hg, Nat.le_trans hsz hs2⟩)
        have HN := hid (And.intro hn hE)
        have HLA := hid (leftAt_eq hcl)
        clear hnx hn hcl hE
        go_wp2_with (go_at_call 62; (with_reducible refine hca.mono ?_); rintro e w3 ⟨rfl, v3, u3, hg3, hs3⟩; have HG3 := hid (And.intro hg3 hs3); clear hg3 hs3)
        go_roundw
        case rel =>
          have ho := opsGo_one HN.out.1 HN.out.2
          refine ⟨n - 1, (txt st').2, v3, _, HG3.out.1, HG3.out.2, ?_, ?_⟩
          · rw [← H12.out.1, ho, List.map_append, List.map_cons, core_get]; simp
          · rw [← H12.out.2, ho]
        case measure =>
          rw [leftAt_eq HG3.out.1.cl, HLA.out]
          have := HN.out.1
          omega
      · have hca := hnx.mono (fun e w' h => show e = .returned (.bool false) ∧ GL W.heap.size W w' bl W.heap.size (bl + 1) g n (txt st').2 v l from by
          obtain ⟨hx, _⟩ := h
          cases hx with
          | none h0 => exact absurd h0 hn
          | bad _ _ hg => exact ⟨rfl, hg⟩
          | one _ _ _ h0 => rw [hE] at h0; cases h0)
        have HN := hid (And.intro hn hE)
        have HLA := hid (leftAt_eq hcl)
        clear hnx hn hcl hE
        go_upto_region 5 with (go_at_call 62; (with_reducible refine hca.mono ?_); rintro e w3 ⟨rfl, hg3⟩; have HG3 := hid hg3; clear hg3)
        have d0 := HG3.out.cl
        have d1 := HG3.out.cO
        have HF := hid HG3.out
        clear HG3
        go_quiet (fail)
        go_wp2
        ((try simp only [Exit.inBlock, Exit.then]); refine bodyPost_ret (results_tmp2 rfl _ _ _) rfl ?_)
        refine ⟨v, l, ?_, HF.out.kx.trans (KX.of_below (below_drewN W.heap.size _ _) (Nat.le_refl _)), ?_, ⟨_, HF.out.own.keep (below_drewN _ _ _)⟩, ?_⟩
        · rw [← H12.out.2, opsGo_bad HN.out.1 HN.out.2]; rfl
        · rw [← H12.out.2, opsGo_bad HN.out.1 HN.out.2]; exact HF.out.at_
        · rw [← H12.out.1, opsGo_bad HN.out.1 HN.out.2]; simp
end Go.Proofs.Ytagjgknkkbkjgaa.V

/-
  What bytes are a frame's: reading, and back.
-/
namespace Go.Proofs.Ytagjgknkkbkjgaa.V
set_option linter.unusedVariables false
set_option linter.unusedSimpArgs false
set_option maxRecDepth 100000
open Go Go.RowKit Go.Maps Wire

theorem takeText_some {st : St} {m : Int} {r : List UInt8} (h : (takeText st m).2 = some r) : st = some (encT (takeText st m).1 ++ r) := by
  unfold takeText at h ⊢
  cases hn : (takeNum st m.toNat).2 with
  | none => rw [hn] at h; cases h
  | some q =>
    rw [hn] at h
    dsimp only at h ⊢
    have hst := takeNum_some hn
    split at h
    · rename_i hle
      rw [if_pos hle]
      cases h
      unfold encT
      rw [List.length_take, Nat.min_eq_left hle, List.append_assoc, List.take_append_drop]
      exact hst
    · cases h
theorem getE_nil : getE [] = 5 := by
  have h5 : getE [] = 0 ∨ getE [] = 5 := endOf_vals _
  rcases h5 with h | h
  · obtain ⟨e, _⟩ := getE_zero h
    have := encO_pos (getO []) (getL [])
    rw [← e] at this
    simp at this
  · exact h
theorem txt_fail {st : St} (h : (txt st).2 = none) : getE (txt st).1 = 5 := by
  have : (txt st).1 = [] := takeText_fail h
  rw [this]; exact getE_nil
theorem opsGo_some : ∀ (n : Nat) (st : St) (r : List UInt8), (opsGo n st).2 = (some r, 0) → st = some (encOps (opsGo n st).1 ++ r) ∧ (opsGo n st).1.length = n ∧ ∀ x ∈ (opsGo n st).1, okO x.1 ∧ (∀ c ∈ x.2, Claim.ok c) ∧ x.2.length ≤ 16
  | 0, st, r, h => by
    have : st = some r := congrArg Prod.fst h
    exact ⟨by rw [this]; rfl, rfl, by simp [opsGo]⟩
  | k + 1, st, r, h => by
    by_cases hE : getE (txt st).1 = 0
    · rw [opsGo, if_pos hE] at h ⊢
      obtain ⟨h1, h2, h3⟩ := opsGo_some k _ r h
      cases ht : (txt st).2 with
      | none => rw [txt_fail ht] at hE; cases hE
      | some q =>
        have h4 := takeText_some (m := (((st.getD []).length : Nat) : Int)) ht
        obtain ⟨e0, e1, e2, e3⟩ := getE_zero hE
        rw [ht] at h1 h2 h3
        have h5 : q = encOps (opsGo k (some q)).1 ++ r := Option.some.inj h1
        refine ⟨?_, ?_, ?_⟩
        · refine h4.trans ?_
          show some (encT (txt st).1 ++ q) = some (encOps ((getO (txt st).1, getL (txt st).1) :: (opsGo k (some q)).1) ++ r)
          rw [encOps_cons, ← e0, List.append_assoc, ← h5]
        · simp [h2]
        · intro x hx
          rcases List.mem_cons.1 hx with rfl | hx
          · exact ⟨e1, e2, e3⟩
          · exact h3 x hx
    · rw [opsGo, if_neg hE] at h
      have : k + 1 = 0 := congrArg Prod.snd h
      omega
/-- An operation that can be put into a frame. -/
def FineO (x : OC) : Prop := okO x.1 ∧ (∀ c ∈ x.2, Claim.ok c) ∧ x.2.length ≤ 16
theorem opsGo_enc : ∀ (l : List OC), (∀ x ∈ l, FineO x) → (r : List UInt8) → opsGo l.length (some (encOps l ++ r)) = (l.map core, (some r, 0))
  | [], _, r => rfl
  | x :: t, h, r => by
    obtain ⟨o, c⟩ := x
    obtain ⟨ho, hc, h16⟩ := h (o, c) (List.mem_cons_self ..)
    have hlen := encO_len ho hc h16
    have ht : txt (some (encOps ((o, c) :: t) ++ r)) = (encO o c, some (encOps t ++ r)) := by
      rw [encOps_cons, List.append_assoc]
      unfold txt encT
      rw [List.append_assoc]
      refine takeText_enc ?_ (by omega) _
      show ((encO o c).length : Int) ≤ (((enc (encO o c).length ++ (encO o c ++ (encOps t ++ r))).length : Nat) : Int)
      rw [List.length_append, List.length_append]
      omega
    obtain ⟨g1, g2, g3⟩ := get_put ho hc h16
    rw [List.length_cons, opsGo, ht]
    dsimp only
    rw [if_pos g1, g2, g3, opsGo_enc t (fun y hy => h y (List.mem_cons_of_mem _ hy)) r]
    rfl
theorem encOps_core (l : List OC) : encOps (l.map core) = encOps l := by
  induction l with
  | nil => rfl
  | cons x r ih => rw [List.map_cons, encOps_cons, encOps_cons, ih]; rfl

/-- What Get reads of what was sealed. -/
def takeF (s0 : St) : (Nat × Nat × Nat × List Nat) × (List OC × (St × Nat)) :=
  (((takeNum s0 1).1, (takeNum (takeNum s0 1).2 7).1, (takeNum (takeNum (takeNum s0 1).2 7).2 7).1, (takeVec (takeNum (takeNum (takeNum s0 1).2 7).2 7).2).1),
    opsGo (takeNum (takeVec (takeNum (takeNum (takeNum s0 1).2 7).2 7).2).2 64).1 (takeNum (takeVec (takeNum (takeNum (takeNum s0 1).2 7).2 7).2).2 64).2)
theorem takeF_enc {f : FrM} {l : List OC} (hf : okF f) (hl : ∀ x ∈ l, FineO x) (hm : mayF f l = true) : takeF (some (encF f l)) = ((f.kd, f.fr, f.rt, vl f.hv), (l.map core, (some [], 0))) := by
  obtain ⟨m1, m2, m3, m4, m5, m6, m7⟩ := mayF_iff.1 hm
  have e1 : takeNum (some (encF f l)) 1 = (f.kd, some (enc f.fr ++ (enc f.rt ++ (encV (vl f.hv) ++ (enc l.length ++ encOps l))))) := by
    unfold encF encFh
    simp only [List.append_assoc]
    exact takeNum_enc (by omega) (by omega) _
  have e2 := takeNum_enc (n := f.fr) (most := 7) (by omega) (by omega) (enc f.rt ++ (encV (vl f.hv) ++ (enc l.length ++ encOps l)))
  have e3 := takeNum_enc (n := f.rt) (most := 7) (by omega) (by omega) (encV (vl f.hv) ++ (enc l.length ++ encOps l))
  have e4 := takeV_enc hf.hv (enc l.length ++ encOps l)
  have e5 := takeNum_enc (n := l.length) (most := 64) (by omega) (by omega) (encOps l)
  have e6 := opsGo_enc l hl []
  rw [List.append_nil] at e6
  unfold takeF
  rw [e1]
  dsimp only
  rw [e2]
  dsimp only
  rw [e3]
  dsimp only
  rw [e4]
  dsimp only
  rw [e5]
  dsimp only
  rw [e6]
theorem takeF_some {s : List UInt8} {a b c : Nat} {v : List Nat} {ls : List OC} (h : takeF (some s) = ((a, b, c, v), (ls, (some [], 0)))) :
    s = enc a ++ (enc b ++ (enc c ++ (encV v ++ (enc ls.length ++ encOps ls)))) ∧ v.length = 8 ∧ (∀ n ∈ v, n < 4294967296) ∧ (∀ x ∈ ls, FineO x) ∧ a ≤ 1 ∧ b ≤ 7 ∧ c ≤ 7 := by
  unfold takeF at h
  simp only [Prod.mk.injEq] at h
  obtain ⟨⟨ha, hb, hc, hv⟩, ho⟩ := h
  have l1 := takeNum_le (some s) 1
  have l2 := takeNum_le (takeNum (some s) 1).2 7
  have l3 := takeNum_le (takeNum (takeNum (some s) 1).2 7).2 7
  have l4 := takeVec_len (takeNum (takeNum (takeNum (some s) 1).2 7).2 7).2
  have l5 := takeVec_lt (takeNum (takeNum (takeNum (some s) 1).2 7).2 7).2
  have ho2 := congrArg Prod.snd ho
  dsimp only at ho2
  obtain ⟨h1, h2, h3⟩ := opsGo_some _ _ _ ho2
  rw [ho] at h1 h2 h3
  dsimp only at h1 h2 h3
  rw [List.append_nil] at h1
  have k5 := takeNum_some h1
  have k4 := takeVec_some k5
  have k3 := takeNum_some k4
  have k2 := takeNum_some k3
  have k1 := takeNum_some k2
  rw [ha] at k1 l1
  rw [hb] at k1 l2
  rw [hc] at k1 l3
  rw [hv] at k1 l4 l5
  rw [← h2] at k1
  exact ⟨Option.some.inj k1, l4, l5, h3, l1, l2, l3⟩

def zeroF : FrM := ⟨0, 0, 0, fun _ => 0, .slice none 0 0⟩
/-- What Get returns of these bytes. -/
def GetR (b : List UInt8) (f : FrM) (l : List OC) (e : Int) : Prop :=
  (e = 0 ∧ b = Crc.sealed (encF f l) ∧ okF f ∧ mayF f l = true) ∨
  (e = 5 ∧ f = zeroF ∧ l = [] ∧ ∀ f' l', okF f' → (∀ x ∈ l', FineO x) → mayF f' l' = true → b ≠ Crc.sealed (encF f' l'))
theorem long_core (l : List OC) : long (l.map core) = long l := by
  unfold long
  rw [List.any_map]
  rfl
theorem mayF_same {f g : FrM} {l k : List OC} (h1 : f.kd = g.kd) (h2 : f.fr = g.fr) (h3 : f.rt = g.rt) (h : l.map core = k.map core) : mayF f l = mayF g k := by
  have e1 : l.length = k.length := by have := congrArg List.length h; simpa using this
  have e2 : long l = long k := by rw [← long_core l, h, long_core]
  unfold mayF
  rw [h1, h2, h3, e1, e2]
theorem sealed_body {b : List UInt8} (h : Crc.isSealed b = true) : b = Crc.sealed (Crc.body b) := by
  unfold Crc.body
  rw [if_pos h]
  unfold Crc.isSealed at h
  simp only [Bool.and_eq_true, decide_eq_true_eq] at h
  exact h.2.symm
/-- The frame that was read. -/
def mkF (x : Nat × Nat × Nat × List Nat) (v : Value) : FrM := ⟨x.1, x.2.1, x.2.2.1, vecOf x.2.2.2, v⟩
theorem encF_core {f : FrM} {l k : List OC} (h : l.map core = k) : encF f l = encFh f k.length ++ encOps k := by
  subst h
  rw [encOps_core, List.length_map]; rfl
theorem getR_ok {b : List UInt8} {x : Nat × Nat × Nat × List Nat} {ls l : List OC} {v : Value} (hs : Crc.isSealed b = true) (ht : takeF (some (Crc.body b)) = (x, (ls, (some [], 0)))) (hl : l.map core = ls) (hm : mayF (mkF x v) l = true) : GetR b (mkF x v) l 0 := by
  obtain ⟨a, bb, c, w⟩ := x
  obtain ⟨h1, h2, h3, h4, h5, h6, h7⟩ := takeF_some ht
  refine .inl ⟨rfl, ?_, ⟨by show a < 256; omega, by show bb < 256; omega, by show c < 256; omega, okV_vecOf h2 h3⟩, hm⟩
  refine (sealed_body hs).trans (congrArg Crc.sealed (h1.trans ?_))
  rw [encF_core hl]
  unfold encFh mkF
  dsimp only
  rw [vl_vecOf h2]
  simp only [List.append_assoc]
theorem getR_bad {b : List UInt8} {x : Nat × Nat × Nat × List Nat} {ls l : List OC} {v : Value} {st : St} {n : Nat} (ht : takeF (some (Crc.body b)) = (x, (ls, (st, n)))) (hl : l.map core = ls)
    (h : ¬ (Crc.isSealed b = true ∧ n = 0 ∧ endOf st = 0 ∧ mayF (mkF x v) l = true)) : GetR b zeroF [] 5 := by
  refine .inr ⟨rfl, rfl, rfl, fun f' l' hf hl' hm e => h ?_⟩
  have hs : Crc.isSealed b = true := by rw [e]; exact Crc.isSealed_sealed _
  have hb : Crc.body b = encF f' l' := by rw [e]; exact Crc.body_sealed _
  rw [hb, takeF_enc hf hl' hm] at ht
  simp only [Prod.mk.injEq] at ht
  obtain ⟨rfl, h2, rfl, rfl⟩ := ht
  refine ⟨hs, rfl, by simp [endOf], ?_⟩
  rw [← hm]
  exact mayF_same rfl rfl rfl (hl.trans h2.symm)
theorem body_ba (b : ByteArray) : (S.bodyB b).data.toList = Crc.body b.data.toList := by
  unfold S.bodyB Crc.body
  split
  · rw [S.ext_take]; simp
  · rfl
end Go.Proofs.Ytagjgknkkbkjgaa.V
