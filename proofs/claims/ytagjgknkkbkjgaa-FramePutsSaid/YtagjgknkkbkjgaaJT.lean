/-
  The document's Get of frames.
-/
import Derived.Test.YtagjgknkkbkjgaaFQ
import Derived.Test.YtagjgknkkbkjgaaFI
import Derived.Test.YtagjgknkkbkjgaaJQ
namespace Go.Proofs.Ytagjgknkkbkjgaa.V
set_option linter.unusedVariables false
set_option linter.unusedSimpArgs false
set_option maxRecDepth 100000
open Go Go.RowKit Go.Maps Wire

theorem encOps_append (a b : List OC) : encOps (a ++ b) = encOps a ++ encOps b := by simp [encOps]
theorem encFh_same {f g : FrM} (h1 : f.kd = g.kd) (h2 : f.fr = g.fr) (h3 : f.rt = g.rt) (h4 : vl f.hv = vl g.hv) (n : Nat) : encFh f n = encFh g n := by
  unfold encFh
  rw [h1, h2, h3, h4]
/-- A frame's bytes, by the three that lead them. -/
theorem encF_lead {f : FrM} {l : List OC} (hm : mayF f l = true) :
    encF f l = UInt8.ofNat f.kd :: UInt8.ofNat f.fr :: UInt8.ofNat f.rt :: (encV (vl f.hv) ++ (enc l.length ++ encOps l)) ∧ f.kd < 128 ∧ f.fr < 128 ∧ f.rt < 128 ∧ l.length ≤ 64 := by
  obtain ⟨m1, m2, m3, m4, m5, m6, m7⟩ := mayF_iff.1 hm
  refine ⟨?_, by omega, by omega, by omega, by omega⟩
  unfold encF encFh
  rw [enc_small (n := f.kd) (by omega), enc_small (n := f.fr) (by omega), enc_small (n := f.rt) (by omega)]
  simp
/-- What is known of the bytes, if they are some frame's. -/
def HF (bs : List UInt8) (k0 k1 k2 n : Nat) (v : List Nat) (i : Nat) (st : St) (l : List OC) : Prop :=
  ∀ f' l', okF f' → (∀ x ∈ l', FineO x) → mayF f' l' = true → bs = Crc.sealed (encF f' l') →
    f'.kd = k0 ∧ f'.fr = k1 ∧ f'.rt = k2 ∧ vl f'.hv = v ∧ n = l'.length ∧ l.map core = (l'.take i).map core ∧ st = some (encOps (l'.drop i))
theorem txt_enc {l' : List OC} (hl : ∀ x ∈ l', FineO x) {i : Nat} (hi : i < l'.length) {m : Int} (hm : ((encOps l').length : Int) ≤ m) :
    ∃ x, l'[i]? = some x ∧ FineO x ∧ takeText (some (encOps (l'.drop i))) m = (encO x.1 x.2, some (encOps (l'.drop (i + 1)))) := by
  have hx : l'[i]? = some l'[i] := List.getElem?_eq_getElem hi
  refine ⟨l'[i], hx, hl _ (List.getElem_mem hi), ?_⟩
  obtain ⟨x, hxe⟩ : ∃ x, l'[i] = x := ⟨_, rfl⟩
  have hf := hl _ (List.getElem_mem hi)
  rw [hxe] at hf ⊢
  have e : l'.drop i = x :: l'.drop (i + 1) := by rw [← hxe]; exact List.drop_eq_getElem_cons hi
  have e2 : encOps l' = encOps (l'.take i) ++ encOps (l'.drop i) := by rw [← encOps_append, List.take_append_drop]
  rw [e2, e, encOps_cons] at hm
  rw [e, encOps_cons]
  unfold encT at hm ⊢
  simp only [List.length_append] at hm
  have hlen := encO_len hf.1 hf.2.1 hf.2.2
  rw [List.append_assoc]
  exact takeText_enc (by omega) (by omega) _
theorem HF.step {b : ByteArray} {k0 k1 k2 n : Nat} {v : List Nat} {i : Nat} {st : St} {l : List OC} (h : HF b.data.toList k0 k1 k2 n v i st l) (hi : i < n) (u : Value) :
    HF b.data.toList k0 k1 k2 n v (i + 1) (takeText st b.size).2 (l ++ [(setL (getO (takeText st b.size).1) u, getL (takeText st b.size).1)]) := by
  intro f' l' hf hl hm e
  obtain ⟨h1, h2, h3, h4, h5, h6, h7⟩ := h f' l' hf hl hm e
  have hb : ((encOps l').length : Int) ≤ b.size := by
    have hs : b.size = b.data.toList.length := by simp
    have := Crc.sealed_length (encF f' l')
    rw [← e, ← hs] at this
    unfold encF at this
    rw [List.length_append] at this
    omega
  obtain ⟨x, hx, hfx, ht⟩ := txt_enc hl (i := i) (by omega) hb
  obtain ⟨g1, g2, g3⟩ := get_put hfx.1 hfx.2.1 hfx.2.2
  rw [h7, ht]
  refine ⟨h1, h2, h3, h4, h5, ?_, rfl⟩
  dsimp only
  rw [List.map_append, h6, ← take_snocC hx, List.map_append, List.map_cons, List.map_nil, core_get, g2, g3]
  rfl
theorem HF.fine {b : ByteArray} {k0 k1 k2 n : Nat} {v : List Nat} {i : Nat} {st : St} {l : List OC} (h : HF b.data.toList k0 k1 k2 n v i st l) (hi : i < n) (hE : getE (takeText st b.size).1 = 5) : GetR b.data.toList zeroF [] 5 := by
  refine .inr ⟨rfl, rfl, rfl, fun f' l' hf hl hm e => ?_⟩
  obtain ⟨h1, h2, h3, h4, h5, h6, h7⟩ := h f' l' hf hl hm e
  have hb : ((encOps l').length : Int) ≤ b.size := by
    have hs : b.size = b.data.toList.length := by simp
    have := Crc.sealed_length (encF f' l')
    rw [← e, ← hs] at this
    unfold encF at this
    rw [List.length_append] at this
    omega
  obtain ⟨x, hx, hfx, ht⟩ := txt_enc hl (i := i) (by omega) hb
  obtain ⟨g1, g2, g3⟩ := get_put hfx.1 hfx.2.1 hfx.2.2
  rw [h7, ht, g1] at hE
  cases hE
theorem HF.end {bs : List UInt8} {k0 k1 k2 n : Nat} {xs : List Nat} (h8 : xs.length = 8) {i : Nat} {st : St} {l : List OC} (h : HF bs k0 k1 k2 n xs i st l) (v : Value) (hi : ¬ (i < n ∧ st ≠ none))
    (hp : ¬ (st ≠ none ∧ (putF (mkF (k0, k1, k2, xs) v) l).2 = 0 ∧ (putF (mkF (k0, k1, k2, xs) v) l).1 = bs)) : GetR bs zeroF [] 5 := by
  refine .inr ⟨rfl, rfl, rfl, fun f' l' hf hl hm e => hp ?_⟩
  obtain ⟨h1, h2, h3, h4, h5, h6, h7⟩ := h f' l' hf hl hm e
  have hst : st ≠ none := by rw [h7]; exact Option.some_ne_none _
  have hin : l'.length ≤ i := by
    have : ¬ i < n := fun h => hi ⟨h, hst⟩
    omega
  rw [List.take_of_length_le hin] at h6
  have hm' : mayF (mkF (k0, k1, k2, xs) v) l = true := by
    rw [← hm]
    exact mayF_same h1.symm h2.symm h3.symm h6
  have hE : encF (mkF (k0, k1, k2, xs) v) l = encF f' l' := by
    rw [encF_core h6, encF_core (f := f') (l := l') rfl]
    exact congrArg (· ++ _) (encFh_same h1.symm h2.symm h3.symm ((vl_vecOf h8).trans h4.symm) _)
  refine ⟨hst, ?_, ?_⟩
  · unfold putF; rw [if_pos hm']
  · unfold putF; rw [if_pos hm', hE]; exact e.symm
theorem putF_good {bs : List UInt8} {F : FrM} {l : List OC} (hok : okF F) (h1 : (putF F l).2 = 0) (h2 : (putF F l).1 = bs) : GetR bs F l 0 := by
  unfold putF at h1 h2
  cases hm : mayF F l with
  | false =>
    rw [hm, if_neg (by decide)] at h1
    exact absurd h1 (by decide)
  | true =>
    rw [hm, if_pos rfl] at h2
    exact .inl ⟨rfl, h2.symm, hok, hm⟩

set_option maxHeartbeats 1000000 in
theorem getF_short (b S : ByteArray) (se : Bool) (h : se = false ∨ S.size < 3) (hb : b.size ≤ 1000000) (hSm : S.size ≤ 1000000)
    (hop : ∀ W, Calls Try.prog 16 #[.string b] W fun e w' => e = .returned (.tuple #[.string S, .bool se]) ∧ Below W.heap.size W w')
    (hbad : GetR b.data.toList zeroF [] 5) (w : World) :
    Calls Try.prog 15 #[.string b] w
      fun e w' => ∃ f l e', e = .returned (.tuple #[.agg (fc f), .int .i64 e']) ∧ GetR b.data.toList f l e' ∧ OpsV w' f.ops l ∧ Below w.heap.size w w' := by
  have HZ := hid (heap_alloc_last' w (.cells (fc zeroF) 27))
  have HBAD := hid hbad
  clear hbad
  cases se with
  | false =>
    clear h
    go_enter Try.func15, Try.ntmps15
    go_wp2_with (first
      | (go_at_call 16; (with_reducible refine (hop _).mono ?_); rintro e w1 ⟨rfl, hB1⟩; have HB1 := hid (below_next (below_al w _) hB1); have HZ1 := hid (heap_keep HZ.out hB1); clear hB1 hop HZ)
      | (refine wpList_store_row rfl _ _ _ rfl w.heap.size (fc zeroF) rfl rfl 27 (fc zeroF) ?_ (frSize _) rfl (oneF zeroF rfl) ?_; (focus exact HZ1.out)))
    ((try simp only [Exit.inBlock, Exit.then]); refine bodyPost_ret (results_row_tmp rfl _ _ w.heap.size 27 (fc zeroF) (0, 0) _ _ rfl rfl (setRow_heap _ _ _ _ _ _ HZ1.out) Try.underlying27 rfl (frSize _)) rfl ?_)
    exact ⟨zeroF, [], 5, rfl, HBAD.out, OpsV.nil _, below_row HB1.out (Nat.le_refl _) _⟩
  | true =>
    have h3 : S.size < 3 := by rcases h with h | h; cases h; exact h
    have t3 : decide ((S.size : Int) < 3) = true := decide_eq_true (by omega)
    clear h h3
    go_enter Try.func15, Try.ntmps15
    go_wp2_with (first
      | (go_at_call 16; (with_reducible refine (hop _).mono ?_); rintro e w1 ⟨rfl, hB1⟩; have HB1 := hid (below_next (below_al w _) hB1); have HZ1 := hid (heap_keep HZ.out hB1); clear hB1 hop HZ)
      | (refine wpList_store_row rfl _ _ _ rfl w.heap.size (fc zeroF) rfl rfl 27 (fc zeroF) ?_ (frSize _) rfl (oneF zeroF rfl) ?_; (focus exact HZ1.out)))
    ((try simp only [Exit.inBlock, Exit.then]); refine bodyPost_ret (results_row_tmp rfl _ _ w.heap.size 27 (fc zeroF) (0, 0) _ _ rfl rfl (setRow_heap _ _ _ _ _ _ HZ1.out) Try.underlying27 rfl (frSize _)) rfl ?_)
    exact ⟨zeroF, [], 5, rfl, HBAD.out, OpsV.nil _, below_row HB1.out (Nat.le_refl _) _⟩

theorem drop3 (T : ByteArray) : (T.extract 3 T.size).data.toList = T.data.toList.drop 3 := S.ext_drop T 3
theorem ref_GetF (b : ByteArray) (hb : b.size ≤ 1000000) (w : World) :
    Calls Try.prog 15 #[.string b] w
      fun e w' => ∃ f l e', e = .returned (.tuple #[.agg (fc f), .int .i64 e']) ∧ GetR b.data.toList f l e' ∧ OpsV w' f.ops l ∧ Below w.heap.size w w' := by
  have hop := fun W => S.ref_Open b hb W
  have hbody := body_ba b
  have hSm : (S.bodyB b).size ≤ 1000000 := by
    have h1 : (S.bodyB b).size = (S.bodyB b).data.toList.length := by simp
    rw [h1, hbody]
    have h2 : b.data.toList.length = b.size := by simp
    unfold Crc.body
    split
    · rw [List.length_take]; omega
    · simp
  generalize S.bodyB b = S at hop hbody hSm
  by_cases hs : Crc.isSealed b.data.toList = true
  · rw [hs] at hop
    by_cases h3 : S.size < 3
    · refine getF_short b S true (.inr h3) hb hSm hop ?_ w
      refine .inr ⟨rfl, rfl, rfl, fun f' l' hf hl hm e => ?_⟩
      rw [e, Crc.body_sealed] at hbody
      have h1 : S.size = S.data.toList.length := by simp
      rw [hbody, (encF_lead hm).1] at h1
      simp only [List.length_cons] at h1
      omega
    · have hR : ∃ R, S.extract 3 S.size = R := ⟨_, rfl⟩
      obtain ⟨R, hR⟩ := hR
      have hRl : R.data.toList = S.data.toList.drop 3 := by rw [← hR]; exact drop3 S
      have hRs : Small (some R.data.toList) := by
        show R.data.toList.length ≤ 1000000
        rw [hRl, List.length_drop]
        have h1 : S.size = S.data.toList.length := by simp
        omega
      obtain ⟨x0, x1, x2, x3, x4, x5, x6, x7, hv8⟩ := list8 (takeVec (some R.data.toList)).1 (takeVec_len _)
      obtain ⟨s1, h1⟩ : ∃ s, takeVec (some R.data.toList) = ([x0, x1, x2, x3, x4, x5, x6, x7], s) := ⟨_, Prod.ext hv8 rfl⟩
      obtain ⟨n, s2, h2⟩ : ∃ n s, takeNum s1 64 = (n, s) := ⟨_, _, rfl⟩
      have hs1 : Small s1 := by have := small_takeVec hRs; rw [h1] at this; exact this
      have hs2 : Small s2 := by have := small_takeNum hs1 64; rw [h2] at this; exact this
      have hn : n ≤ 64 := by have := takeNum_le s1 64; rw [h2] at this; exact this
      have hlt : ∀ y ∈ [x0, x1, x2, x3, x4, x5, x6, x7], y < 4294967296 := by have := takeVec_lt (some R.data.toList); rw [h1] at this; exact this
      have hvec := fun W => ref_TakeVector (some R.data.toList) hRs W
      rw [h1, show rcells (some R.data.toList) = #[.string R, .bool true] from by show (#[.string (ba R.data.toList), .bool true] : Array Value) = _; rw [ba_of]] at hvec
      have hnum := fun W => ref_TakeNum s1 hs1 64 W
      rw [h2] at hnum
      refine getF_walk b S R hb _ _ _ n x0 x1 x2 x3 x4 x5 x6 x7 s1 s2 (HF b.data.toList S[0].toNat S[1].toNat S[2].toNat n [x0, x1, x2, x3, x4, x5, x6, x7]) (by omega) hSm rfl rfl rfl hR hop hvec hnum hn hs2
        (fun v => ⟨UInt8.toNat_lt _, UInt8.toNat_lt _, UInt8.toNat_lt _, okV_vecOf rfl hlt⟩) ?_ (fun i st l u h hi _ _ => h.step hi u) (fun i st l h hi _ hE => h.fine hi hE) (fun i st l v h hi hp => h.end rfl v hi hp) (fun l v hok h1 h2 => putF_good hok h1 h2) w
      intro f' l' hf hl hm e
      rw [e, Crc.body_sealed] at hbody
      obtain ⟨hE, l1, l2, l3, l4⟩ := encF_lead hm
      rw [hE] at hbody
      rw [hbody] at hRl
      have hRl' : R.data.toList = encV (vl f'.hv) ++ (enc l'.length ++ encOps l') := hRl
      rw [hRl', takeV_enc hf.hv] at h1
      have hv : vl f'.hv = [x0, x1, x2, x3, x4, x5, x6, x7] := congrArg Prod.fst h1
      have hst1 : some (enc l'.length ++ encOps l') = s1 := congrArg Prod.snd h1
      rw [← hst1, takeNum_enc l4 (by omega)] at h2
      have hnn : l'.length = n := congrArg Prod.fst h2
      have hst2 : some (encOps l') = s2 := congrArg Prod.snd h2
      have hat : ∀ (i : Nat) (hi : i < S.size) (hj : i < S.data.toList.length), S[i] = S.data.toList[i] := fun i hi hj => by simp [ByteArray.getElem_eq_getElem_data]
      have hlen : S.data.toList.length = S.size := by simp
      have q0 : S[0].toNat = f'.kd := by rw [hat 0 (by omega) (by omega)]; simp only [hbody]; exact Wire.u8_ofNat (by omega)
      have q1 : S[1].toNat = f'.fr := by rw [hat 1 (by omega) (by omega)]; simp only [hbody]; exact Wire.u8_ofNat (by omega)
      have q2 : S[2].toNat = f'.rt := by rw [hat 2 (by omega) (by omega)]; simp only [hbody]; exact Wire.u8_ofNat (by omega)
      exact ⟨q0.symm, q1.symm, q2.symm, hv, hnn.symm, rfl, hst2.symm⟩
  · have hs' : Crc.isSealed b.data.toList = false := by simpa using hs
    rw [hs'] at hop
    refine getF_short b S false (.inl rfl) hb hSm hop ?_ w
    refine .inr ⟨rfl, rfl, rfl, fun f' l' hf hl hm e => ?_⟩
    rw [e, Crc.isSealed_sealed] at hs'
    cases hs'
end Go.Proofs.Ytagjgknkkbkjgaa.V

/-
  Frames that are the same; the laws' helpers bad and great.
-/
namespace Go.Proofs.Ytagjgknkkbkjgaa.V
set_option linter.unusedVariables false
set_option linter.unusedSimpArgs false
set_option maxRecDepth 100000
open Go Go.RowKit Go.Maps Wire

theorem fine_of {w : World} {f : FrM} {l : List OC} (hv : OpsV w f.ops l) (hm : mayF f l = true) : ∀ x ∈ l, FineO x := fun x hx =>
  ⟨(hv.all x hx).1, ClaimsV.all (hv.all x hx).2, (mayF_iff.1 hm).2.2.2.2.2.2 x hx⟩
theorem core_enc {x y : OC} (h : core x = core y) : encO x.1 x.2 = encO y.1 y.2 := by
  have h1 : encO (core x).1 (core x).2 = encO x.1 x.2 := rfl
  have h2 : encO (core y).1 (core y).2 = encO y.1 y.2 := rfl
  rw [← h1, h, h2]
theorem sameO_core {x y : OC} (hx : FineO x) (hy : FineO y) (h : core x = core y) : sameO x y = true := by
  unfold sameO
  rw [same_enc hx.1 hy.1 hx.2.1 hy.2.1 hx.2.2 hy.2.2]
  exact decide_eq_true (core_enc h)
theorem sameL_core : ∀ {l m : List OC}, (∀ x ∈ l, FineO x) → (∀ x ∈ m, FineO x) → l.map core = m.map core → sameL l m = true
  | [], [], _, _, _ => rfl
  | [], _ :: _, _, _, h => by simp at h
  | _ :: _, [], _, _, h => by simp at h
  | x :: r, y :: s, hx, hy, h => by
    simp only [List.map_cons, List.cons.injEq] at h
    simp only [sameL, Bool.and_eq_true]
    exact ⟨sameO_core (hx x (List.mem_cons_self ..)) (hy y (List.mem_cons_self ..)) h.1, sameL_core (fun z hz => hx z (List.mem_cons_of_mem _ hz)) (fun z hz => hy z (List.mem_cons_of_mem _ hz)) h.2⟩
theorem sameL_enc : ∀ {l m : List OC}, (∀ x ∈ l, FineO x) → (∀ x ∈ m, FineO x) → sameL l m = true → encOps l = encOps m ∧ l.length = m.length
  | [], [], _, _, _ => ⟨rfl, rfl⟩
  | [], _ :: _, _, _, h => by simp [sameL] at h
  | _ :: _, [], _, _, h => by simp [sameL] at h
  | x :: r, y :: s, hx, hy, h => by
    simp only [sameL, Bool.and_eq_true] at h
    obtain ⟨e1, e2⟩ := sameL_enc (fun z hz => hx z (List.mem_cons_of_mem _ hz)) (fun z hz => hy z (List.mem_cons_of_mem _ hz)) h.2
    have h1 := h.1
    have fx := hx x (List.mem_cons_self ..)
    have fy := hy y (List.mem_cons_self ..)
    unfold sameO at h1
    rw [same_enc fx.1 fy.1 fx.2.1 fy.2.1 fx.2.2 fy.2.2] at h1
    exact ⟨by rw [encOps_cons, encOps_cons, of_decide_eq_true h1, e1], by simp [e2]⟩
/-- Frames that may be put are the same just when their bytes are. -/
theorem same_frame {f g : FrM} {l m : List OC} (hf : okF f) (hg : okF g) (hl : ∀ x ∈ l, FineO x) (hm : ∀ x ∈ m, FineO x) (h1 : mayF f l = true) (h2 : mayF g m = true) : sameFr f g l m = decide (encF f l = encF g m) := by
  by_cases e : encF f l = encF g m
  · rw [decide_eq_true e]
    have t1 := takeF_enc hf hl h1
    rw [e, takeF_enc hg hm h2] at t1
    simp only [Prod.mk.injEq] at t1
    obtain ⟨⟨a1, a2, a3, a4⟩, a5, _⟩ := t1
    unfold sameFr
    simp only [Bool.and_eq_true, beq_iff_eq]
    refine ⟨⟨⟨⟨by rw [a1], by rw [a2]⟩, by rw [a3]⟩, (eqV_iff hf.hv hg.hv).2 ?_⟩, sameL_core hl hm a5.symm⟩
    rw [← vecOf_vl hf.hv, ← a4, vecOf_vl hg.hv]
  · rw [decide_eq_false e]
    cases hs : sameFr f g l m
    · rfl
    · unfold sameFr at hs
      simp only [Bool.and_eq_true, beq_iff_eq, Int.natCast_inj] at hs
      obtain ⟨⟨⟨⟨b1, b2⟩, b3⟩, b4⟩, b5⟩ := hs
      obtain ⟨e1, e2⟩ := sameL_enc hl hm b5
      refine absurd ?_ e
      unfold encF
      rw [e1, e2, encFh_same b1 b2 b3 (by rw [(eqV_iff hf.hv hg.hv).1 b4])]
theorem sealed_inj {a b : List UInt8} (h : Crc.sealed a = Crc.sealed b) : a = b := by
  rw [← Crc.body_sealed a, h, Crc.body_sealed]

set_option maxHeartbeats 1000000 in
theorem law_bad (f : FrM) (hok : okF f) (l : List OC) (w : World) (hv : OpsV w f.ops l) (hm : mayF f l = false) :
    Calls Try.prog 17 #[.agg (fc f)] w fun e w' => e = .returned (.bool true) ∧ Below w.heap.size w w' := by
  have HE := hid (below_al w (.cells (fc f) 27))
  have HFR := hid (frAt_new w f)
  have HV := hid (hv.keep HE.out)
  have hput := frame_Put f hok l _ HV.out
  rw [show putF f l = ([], 2) from by unfold putF; rw [hm]; rfl] at hput
  dsimp only at hput
  have hp2 : ∀ W, Below (w.alloc (.cells (fc f) 27)).heap.size (w.alloc (.cells (fc f) 27)) W → Calls Try.prog 10 #[.agg (fc f)] W fun e w' => e = .returned (.bool false) ∧ Below W.heap.size W w' := fun W hB => by
    have := frame_May f l W (HV.out.keep hB)
    rw [hm] at this
    exact this
  have hput' : Calls Try.prog 8 #[.agg (fc f)] (w.alloc (.cells (fc f) 27)) fun e w' => e = .returned (.tuple #[.string ⟨#[]⟩, .int .i64 2]) ∧ Below (w.alloc (.cells (fc f) 27)).heap.size (w.alloc (.cells (fc f) 27)) w' := hput
  have HP2 := hid hp2
  clear hput hp2 hv hm hok
  go_enter Try.func17, Try.ntmps17
  go_wp2_with (first
    | (refine load_fr _ rfl (by kernel_rfl) w.heap.size rfl _ HFR.out ?_)
    | (refine load_fr _ rfl (by kernel_rfl) w.heap.size rfl _ HF1.out ?_)
    | (go_at_call 8; (with_reducible refine hput'.mono ?_); rintro e w1 ⟨rfl, hB1⟩; have HB1 := hid hB1; have HF1 := hid (HFR.out.keep hB1); clear hB1)
    | (go_at_call 10; (with_reducible refine (HP2.out _ HB1.out).mono ?_); rintro e w2 ⟨rfl, hB2⟩; have HB2 := hid hB2; clear hB2))
  go_ret
  exact ⟨rfl, below_next HE.out (below_next HB1.out HB2.out)⟩

/-- Some answer. -/
def SomeBool (e : Ending) : Prop := ∃ b, e = .returned (.bool b)
set_option maxHeartbeats 1000000 in
theorem law_great (f : FrM) (l : List OC) (w : World) (hv : OpsV w f.ops l) :
    Calls Try.prog 6 #[.agg (fc f)] w fun e w' => SomeBool e ∧ Below w.heap.size w w' := by
  have HE := hid (below_al w (.cells (fc f) 27))
  have HFR := hid (frAt_new w f)
  have HV := hid (hv.keep HE.out)
  obtain ⟨ad, n, cap, hlv, hI⟩ := HV.out
  have HI := hid hI
  have HLV := hid hlv
  have hnm : n ≤ maxLen := Nat.le_trans hI.2.1 hI.2.2.1
  have hnM : n ≤ 9223372036854775807 := by unfold maxLen at hnm; omega
  clear hv hlv hI hnm
  go_enter Try.func6, Try.ntmps6
  go_upto_region 3 with (fail)
  generalize w.alloc (.cells (fc f) 27) = W at HE HFR HV HI ⊢
  have c11 := HFR.out.c11.trans (congrArg some HLV.out)
  go_loopw [3, 4] (fun s i wr => ∃ (k : Nat) (z : Int), k ≤ n ∧ i = .int .i64 k ∧ s = .int .i64 z ∧ wr = W) (fun _ i _ => n - (intOf i).toNat)
  case atStart => exact ⟨0, 0, by omega, rfl, rfl, rfl⟩
  case round =>
    obtain ⟨k, z, hk, rfl, rfl, rfl⟩ := hrel
    by_cases hlt : k < n
    · cases ad with
      | none => have := HI.out.none_len; omega
      | some ad =>
        obtain ⟨o, lc, hx, hoo, hc, hin⟩ := HI.out.at k hlt
        obtain ⟨ca, cn, cc, hcv, hci⟩ := hc
        have hln := hin.lines
        rw [hcv] at hln
        have hln2 : wr.cell? ⟨(ad.add (k * 29)).block, (ad.add (k * 29)).off + 28, none⟩ = some (.slice ca cn cc) := hln
        clear hln
        clear hci hin hx
        go_wp2_with (fail)
        refine ⟨⟨k + 1, _, by omega, by go_num, rfl, trivial⟩, ?_⟩
        simp [intOf]
        omega
    · obtain rfl : k = n := by omega
      go_wp2_with (fail)
      all_goals (go_ret; exact ⟨⟨_, rfl⟩, HE.out⟩)
end Go.Proofs.Ytagjgknkkbkjgaa.V

/-
  The laws' helper head.
-/
namespace Go.Proofs.Ytagjgknkkbkjgaa.V
set_option linter.unusedVariables false
set_option linter.unusedSimpArgs false
set_option maxRecDepth 100000
open Go Go.RowKit Go.Maps Wire

theorem open_sealed (l : List UInt8) (h : l.length ≤ 900000) (W : World) : Calls Try.prog 16 #[.string (ba (Crc.sealed l))] W fun e w' => e = .returned (.tuple #[.string (ba l), .bool true]) ∧ Below W.heap.size W w' := by
  have h1 := S.ref_Open (ba (Crc.sealed l)) (by rw [ba_size, Crc.sealed_length]; omega) W
  have e : S.bodyB (ba (Crc.sealed l)) = ba l := toList_inj (by rw [body_ba, ba_list, ba_list, Crc.body_sealed])
  rw [e, ba_list, Crc.isSealed_sealed] at h1
  exact h1
theorem okZ : okV (fun _ => 0 : Vec) := ⟨fun i => Nat.zero_lt_succ _, fun i _ => rfl⟩
theorem ops_made (W : World) : OpsV (W.alloc (.cells (oc zeroO) 50)) (.slice (some ⟨W.heap.size, 0, none⟩) 1 1) [(zeroO, [])] := by
  refine ⟨_, _, _, rfl, rfl, Nat.le_refl _, by unfold maxLen; omega, ?_, ?_⟩
  · intro x hx
    rw [List.mem_singleton] at hx
    subst hx
    exact ⟨by refine ⟨okZ, ?_, ?_, ?_, ?_, ?_, ?_, ?_, ?_, ?_, ?_, ?_, ?_, ?_, ?_, ?_, ?_, ?_, ?_, ?_, ?_⟩ <;> exact Nat.zero_lt_succ _, ClaimsV.nil _⟩
  · intro i x hx k hk
    have hi := (List.getElem?_eq_some_iff.1 hx).1
    obtain rfl : i = 0 := by simpa using hi
    simp at hx
    subst hx
    have e1 : ((⟨W.heap.size, 0, none⟩ : Addr).add (0 * 29)).add k = ⟨W.heap.size, k, none⟩ := by
      unfold Addr.add
      split <;> split <;> simp_all
    rw [e1]
    exact cell_of_heap (heap_alloc_last' W _)
def F1 : FrM := ⟨0, 1, 2, vecOf [3, 0, 0, 0, 0, 0, 0, 0], .slice none 0 0⟩
def F2 : FrM := ⟨1, 0, 1, fun _ => 0, .slice none 0 0⟩
def F3 : FrM := ⟨0, 1, 1, fun _ => 0, .slice none 0 0⟩
def F4 : FrM := ⟨2, 0, 1, fun _ => 0, .slice none 0 0⟩
def F5 (v : Value) : FrM := ⟨0, 0, 1, fun _ => 0, v⟩

theorem mk_zeros (n : Nat) (hn : n ≤ 1000000) (W : World) : (Instr.makeSlice 42 (.int .i64 (n : Int)) (.int .i64 (n : Int))).run Try.prog W = .ok (.slice (some ⟨W.heap.size, 0, none⟩) n n) (W.alloc (.cells (Array.replicate n (.int .u8 0)) 5)) := by
  have := make_row n hn (fun _ => 0) W
  rw [row0] at this
  exact this
theorem mk_op (W : World) : (Instr.makeSlice 25 (.int .i64 1) (.int .i64 1)).run Try.prog W = .ok (.slice (some ⟨W.heap.size, 0, none⟩) 1 1) (W.alloc (.cells (oc zeroO) 50)) := by
  obtain ⟨i0, hi, hz0, hz1, hz2⟩ := info_parts infoOp
  have h := run_makeSlice (P := Try.prog) W 25 50 i0 (.agg (oc zeroO)) Try.underlying25 hi hz0 .i64 .i64 1 1 (by omega) (Int.le_refl _) (by rw [hz1]; decide) (by rw [hz2]; decide) (by omega)
  rw [hz1] at h
  refine h.trans ?_
  exact congrArg (fun z => Result.ok (Value.slice (some ⟨W.heap.size, 0, none⟩) 1 1) (W.alloc (.cells z 50))) (by kernel_rfl)
theorem put_F1 : putF F1 [] = (Crc.sealed [0, 1, 2, 3, 0, 0, 0, 0, 0, 0, 0, 0], 0) := by
  unfold putF
  rw [show mayF F1 [] = true from by decide, if_pos rfl]
  exact congrArg (fun z => (Crc.sealed z, (0 : Int))) (by kernel_rfl)
theorem put_F2 : putF F2 [] = (Crc.sealed [1, 0, 1, 0, 0, 0, 0, 0, 0, 0, 0, 0], 0) := by
  unfold putF
  rw [show mayF F2 [] = true from by decide, if_pos rfl]
  exact congrArg (fun z => (Crc.sealed z, (0 : Int))) (by kernel_rfl)

set_option maxHeartbeats 2000000 in
theorem law_head (w : World) : Calls Try.prog 7 #[] w fun e w' => e = .returned (.bool true) ∧ Below w.heap.size w w' := by
  have p1 : ∀ W, Calls Try.prog 8 #[.agg #[.int .u8 0, .int .u8 1, .int .u8 2, .int .u32 3, .int .u32 0, .int .u32 0, .int .u32 0, .int .u32 0, .int .u32 0, .int .u32 0, .int .u32 0, .slice none 0 0]] W fun e w' => e = .returned (.tuple #[.string (ba (Crc.sealed [0, 1, 2, 3, 0, 0, 0, 0, 0, 0, 0, 0])), .int .i64 0]) ∧ Below W.heap.size W w' := fun W => by
    have := frame_Put F1 ⟨by decide, by decide, by decide, okV_vecOf rfl (by decide)⟩ [] W (OpsV.nil W)
    rw [put_F1] at this
    exact this
  have p2 : ∀ W, Calls Try.prog 8 #[.agg #[.int .u8 1, .int .u8 0, .int .u8 1, .int .u32 0, .int .u32 0, .int .u32 0, .int .u32 0, .int .u32 0, .int .u32 0, .int .u32 0, .int .u32 0, .slice none 0 0]] W fun e w' => e = .returned (.tuple #[.string (ba (Crc.sealed [1, 0, 1, 0, 0, 0, 0, 0, 0, 0, 0, 0])), .int .i64 0]) ∧ Below W.heap.size W w' := fun W => by
    have := frame_Put F2 ⟨by decide, by decide, by decide, okZ⟩ [] W (OpsV.nil W)
    rw [put_F2] at this
    exact this
  have o1 := fun W => open_sealed [0, 1, 2, 3, 0, 0, 0, 0, 0, 0, 0, 0] (by decide) W
  have o2 := fun W => open_sealed [1, 0, 1, 0, 0, 0, 0, 0, 0, 0, 0, 0] (by decide) W
  generalize ba (Crc.sealed [0, 1, 2, 3, 0, 0, 0, 0, 0, 0, 0, 0]) = q1 at p1 o1
  generalize ba (Crc.sealed [1, 0, 1, 0, 0, 0, 0, 0, 0, 0, 0, 0]) = q2 at p2 o2
  have b1 : ∀ W, Calls Try.prog 17 #[.agg #[.int .u8 0, .int .u8 1, .int .u8 1, .int .u32 0, .int .u32 0, .int .u32 0, .int .u32 0, .int .u32 0, .int .u32 0, .int .u32 0, .int .u32 0, .slice none 0 0]] W fun e w' => e = .returned (.bool true) ∧ Below W.heap.size W w' := fun W => law_bad F3 ⟨by decide, by decide, by decide, okZ⟩ [] W (OpsV.nil W) (by decide)
  have b2 : ∀ W, Calls Try.prog 17 #[.agg #[.int .u8 2, .int .u8 0, .int .u8 1, .int .u32 0, .int .u32 0, .int .u32 0, .int .u32 0, .int .u32 0, .int .u32 0, .int .u32 0, .int .u32 0, .slice none 0 0]] W fun e w' => e = .returned (.bool true) ∧ Below W.heap.size W w' := fun W => law_bad F4 ⟨by decide, by decide, by decide, okZ⟩ [] W (OpsV.nil W) (by decide)
  have b3 : ∀ W v, OpsV W v [(zeroO, [])] → Calls Try.prog 17 #[.agg #[.int .u8 0, .int .u8 0, .int .u8 1, .int .u32 0, .int .u32 0, .int .u32 0, .int .u32 0, .int .u32 0, .int .u32 0, .int .u32 0, .int .u32 0, v]] W fun e w' => e = .returned (.bool true) ∧ Below W.heap.size W w' := fun W v h => law_bad (F5 v) ⟨show (0 : Nat) < 256 by decide, show (0 : Nat) < 256 by decide, show (1 : Nat) < 256 by decide, okZ⟩ [(zeroO, [])] W h rfl
  have HB := hid (And.intro b1 (And.intro b2 b3))
  clear b1 b2 b3
  go_enter Try.func7, Try.ntmps7
  go_upto_region 5 with (first
    | (go_at_call 8; (with_reducible refine (p1 _).mono ?_); rintro e w1 ⟨rfl, hB1⟩; have HB1 := hid hB1; clear hB1 p1)
    | (go_at_call 8; (with_reducible refine (p2 _).mono ?_); rintro e w2 ⟨rfl, hB2⟩; have HB2 := hid (below_next HB1.out hB2); clear hB2 p2)
    | (go_at_call 16; (with_reducible refine (o1 _).mono ?_); rintro e w3 ⟨rfl, hB3⟩; have HB3 := hid (below_next HB2.out hB3); clear hB3 o1)
    | (go_at_call 16; (with_reducible refine (o2 _).mono ?_); rintro e w4 ⟨rfl, hB4⟩; have HB4 := hid (below_next HB3.out hB4); clear hB4 o2))
  have m8 : ∀ W : World, (Instr.makeSlice 42 (.int .i64 8) (.int .i64 8)).run Try.prog W = .ok (.slice (some ⟨W.heap.size, 0, none⟩) 8 8) (W.alloc (.cells (Array.replicate 8 (.int .u8 0)) 5)) := fun W => mk_zeros 8 (by omega) W
  have m9 : ∀ W : World, (Instr.makeSlice 42 (.int .i64 9) (.int .i64 9)).run Try.prog W = .ok (.slice (some ⟨W.heap.size, 0, none⟩) 9 9) (W.alloc (.cells (Array.replicate 9 (.int .u8 0)) 5)) := fun W => mk_zeros 9 (by omega) W
  have m1 := fun W => mk_op W
  have v8 : ∀ W : World, (convert 42 9 (.slice (some ⟨W.heap.size, 0, none⟩) 8 8)).run Try.prog (W.alloc (.cells (Array.replicate 8 (.int .u8 0)) 5)) = .ok (.string (ba [0, 0, 0, 0, 0, 0, 0, 0])) (W.alloc (.cells (Array.replicate 8 (.int .u8 0)) 5)) := fun W => conv_zeros 8 _ _ _ _ (heap_alloc_last' _ _)
  have v9 : ∀ (W : World) (o : Obj), (convert 42 9 (.slice (some ⟨W.heap.size + 1, 0, none⟩) 9 9)).run Try.prog ((W.alloc o).alloc (.cells (Array.replicate 9 (.int .u8 0)) 5)) = .ok (.string (ba [0, 0, 0, 0, 0, 0, 0, 0, 0])) ((W.alloc o).alloc (.cells (Array.replicate 9 (.int .u8 0)) 5)) := fun W o => conv_zeros 9 _ _ _ _ (last2 W _ _)
  have s8 : ¬ 9223372036854775807 < 4 + (ba [0, 0, 0, 0, 0, 0, 0, 0]).size := by rw [ba_size]; decide
  have s9 : ¬ 9223372036854775807 < 3 + (ba [0, 0, 0, 0, 0, 0, 0, 0, 0]).size := by rw [ba_size]; decide
  have a8 : (⟨#[0, 1, 2, 3]⟩ : ByteArray) ++ ba [0, 0, 0, 0, 0, 0, 0, 0] = ba [0, 1, 2, 3, 0, 0, 0, 0, 0, 0, 0, 0] := ba_append [0, 1, 2, 3] [0, 0, 0, 0, 0, 0, 0, 0]
  have a9 : (⟨#[1, 0, 1]⟩ : ByteArray) ++ ba [0, 0, 0, 0, 0, 0, 0, 0, 0] = ba [1, 0, 1, 0, 0, 0, 0, 0, 0, 0, 0, 0] := ba_append [1, 0, 1] [0, 0, 0, 0, 0, 0, 0, 0, 0]
  have mO : ∀ (W : World) (o p : Obj), OpsV (((W.alloc o).alloc p).alloc (.cells (oc zeroO) 50)) (.slice (some ⟨W.heap.size + 1 + 1, 0, none⟩) 1 1) [(zeroO, [])] := fun W o p => by
    have := ops_made ((W.alloc o).alloc p)
    simpa using this
  go_wp2_with (first
    | (go_at_call 17; (with_reducible refine (HB.out.1 _).mono ?_); rintro e w5 ⟨rfl, hB5⟩; have HB5 := hid hB5; clear hB5)
    | (go_at_call 17; (with_reducible refine (HB.out.2.1 _).mono ?_); rintro e w6 ⟨rfl, hB6⟩; have HB6 := hid hB6; clear hB6)
    | (go_at_call 17; (refine (HB.out.2.2 _ _ (ops_made _)).mono ?_); rintro e w7 ⟨rfl, hB7⟩; have HB7 := hid hB7; clear hB7))
  go_ret
  exact ⟨rfl, below_next HB4.out (below_next (below_al2 w4 _ _) (below_next HB5.out (below_next HB6.out (below_next (below_al w6 _) HB7.out))))⟩
end Go.Proofs.Ytagjgknkkbkjgaa.V
