/-
  The document's Get.
-/
import Derived.Test.YtagjgknkkbkjgaaOZ
import Derived.Test.YtagjgknkkbkjgaaJX
namespace Go.Proofs.Ytagjgknkkbkjgaa.V
set_option linter.unusedVariables false
set_option linter.unusedSimpArgs false
set_option maxRecDepth 100000
open Go Go.RowKit Go.Maps Wire

set_option maxRecDepth 100000
set_option linter.unusedVariables false
set_option linter.unusedSimpArgs false
theorem ClaimsF.al {w w1 : World} {o : Obj} {v : Value} {l : List Claim} (h : ClaimsF (w.alloc o).heap.size w1 v l) : ClaimsF (w.heap.size + 1) w1 v l :=
  ⟨h.1, fun a n c e => by have h2 := h.2 a n c e; simp at h2; omega⟩
theorem ClaimsF.keep {B : Nat} {w w' : World} {v : Value} {l : List Claim} (h : ClaimsF B w v l) (hb : Below w.heap.size w w') : ClaimsF B w' v l := ⟨h.1.keep hb, h.2⟩
theorem add_block (a : Addr) (k : Nat) : (a.add k).block = a.block := by unfold Addr.add; split <;> rfl
theorem ClaimsF.setRow {b : Nat} {w : World} {v : Value} {l : List Claim} (h : ClaimsF (b + 1) w v l) (cs : Array Value) : ClaimsT (w.setRow b cs) v l := by
  obtain ⟨⟨⟨a, len, cap, rfl, h1, h2, h3, h4, h5⟩, ht⟩, hf⟩ := h
  refine ⟨⟨a, len, cap, rfl, h1, h2, h3, h4, ?_⟩, fun ad n c e => by obtain ⟨cs2, hc⟩ := ht ad n c e; have hb := hf ad n c e; exact ⟨cs2, row_ne hc (by omega)⟩⟩
  cases a with
  | none => exact h5
  | some ad =>
    have hb := hf ad len cap rfl
    intro i x hx k hk
    rw [← h5 i x hx k hk]
    exact World.cell?_of_block (row_ne rfl (by rw [add_block, add_block]; omega))
def GF (w w1 V : World) (O : OpM) (v : Value) (L : List Claim) (a b : Value) : Prop :=
  V.heap[w.heap.size]? = some (.cells (oc zeroO) 50 (0, 0)) ∧ V.heap[w1.heap.size + 1]? = some (.cells #[a, b] 78 (0, 0)) ∧ V.heap[w1.heap.size]? = some (.cells (oc (setL O v)) 50 (0, 0)) ∧ ClaimsF (w.heap.size + 1) w1 v L ∧ (Below w.heap.size w V ∧ Below w1.heap.size w1 V ∧ w.heap.size < w1.heap.size)
theorem get_facts {w : World} (w1 : World) (hB : Below w.heap.size w w1) (hR : w1.heap[w.heap.size]? = some (.cells (oc zeroO) 50 (0, 0))) (O : OpM) (v : Value) (L : List Claim) (hV : ClaimsF (w.heap.size + 1) w1 v L) :
    GF w w1 (((w1.alloc (.cells (oc zeroO) 50)).alloc (.cells (rcells none) 78)).setRow w1.heap.size (oc (setL O v))) O v L (.string ⟨#[]⟩) (.bool false) :=
  have hl : w.heap.size < w1.heap.size := lt_of_heap hR
  ⟨row_ne (heap_al (heap_al hR _) _) (by omega), row_ne (last2 _ _ _) (by omega), setRow_heap _ _ _ _ _ _ (heap_al (heap_alloc_last' _ _) _), hV, below_row (below_next hB (below_al2 w1 _ _)) (by omega) _, below_row (below_al2 w1 _ _) (Nat.le_refl _) _, hl⟩
theorem get_set {w w1 V : World} {O : OpM} {v : Value} {L : List Claim} {a b : Value} (h : GF w w1 V O v L a b) (a' b' : Value) :
    GF w w1 ((V.setCell ⟨w1.heap.size + 1, 0, none⟩ a').setCell ⟨w1.heap.size + 1, 1, none⟩ b') O v L a' b' := by
  obtain ⟨h1, h2, h3, h4, h5, h6, h7⟩ := h
  exact ⟨heap_n (heap_n h1 (by omega)) (by omega), heap_s (heap_s h2), heap_n (heap_n h3 (by omega)) (by omega), h4, (h5.setCell (by show w.heap.size ≤ w1.heap.size + 1; omega) _).setCell (by show w.heap.size ≤ w1.heap.size + 1; omega) _, (h6.setCell (by show w1.heap.size ≤ w1.heap.size + 1; omega) _).setCell (by show w1.heap.size ≤ w1.heap.size + 1; omega) _, h7⟩

set_option maxHeartbeats 400000 in
theorem ref_Get (b : ByteArray) (hb : b.size ≤ 1000000) (w : World) :
    Calls Try.prog 45 #[.string b] w
      fun e w' => ∃ v, e = .returned (.tuple #[.agg (oc (setL (getO b.data.toList) v)), .int .i64 (getE b.data.toList)]) ∧ ClaimsT w' v (getL b.data.toList) ∧ Below w.heap.size w w' := by
  obtain ⟨s0, hs0⟩ : ∃ s : St, some b.data.toList = s := ⟨_, rfl⟩
  have hsm : Small s0 := by rw [← hs0]; unfold Small; simpa using hb
  have hE : getE b.data.toList = endOf (tkS s0) := by rw [← hs0]; rfl
  have hO : getO b.data.toList = if endOf (tkS s0) = 0 then (takeH s0).1 else zeroO := by rw [← hs0]; rfl
  have hL : getL b.data.toList = if endOf (tkS s0) = 0 then (takeT (takeH s0).2).1 else [] := by rw [← hs0]; rfl
  have hr0 : rcells s0 = #[.string b, .bool true] := by rw [← hs0]; show (#[.string (ba b.data.toList), .bool true] : Array Value) = _; rw [ba_of]
  have hT := fun W => ref_Take s0 hsm W
  rw [hr0] at hT
  rw [hE, hO, hL]
  have HE := hid (below_al w (.cells (oc zeroO) 50))
  have HR0 := hid (heap_alloc_last' w (.cells (oc zeroO) 50))
  clear hE hO hL hr0 hs0 hsm hb
  obtain ⟨st, hst⟩ : ∃ st, tkS s0 = st := ⟨_, rfl⟩
  match st, hst with
  | none, hst =>
      rw [hst, show endOf (none : St) = 5 from by simp [endOf], if_neg (by decide), if_neg (by decide)]
      rw [hst, show rcells (none : St) = #[.string ⟨#[]⟩, .bool false] from rfl] at hT
      generalize tkO s0 = O at *
      generalize tkL s0 = L at *
      clear hst
      try clear hOO hLL
      go_enter Try.func45, Try.ntmps45
      go_upto_region 2 with (first
        | (go_at_call 70; (with_reducible refine (hT _).mono ?_); rintro e w1 ⟨v, rfl, hV1, hB1⟩; have HV1 := hid (ClaimsF.al hV1); have HB1 := hid (below_next HE.out hB1); have HR1 := hid (heap_keep HR0.out hB1); clear hV1 hB1 hT)
        | (refine wpList_store_row rfl _ _ _ rfl w1.heap.size (oc (setL O v)) rfl rfl 50 (oc zeroO) ?_ (opSize _) rfl (oneO _ (ClaimsV.one HV1.out.1.1)) ?_; (focus exact heap_al (heap_alloc_last' _ _) _); have F1 := (show GF w w1 (((w1.alloc (.cells #[.int .u8 0, .int .u32 0, .int .u32 0, .int .u32 0, .int .u32 0, .int .u32 0, .int .u32 0, .int .u32 0, .int .u32 0, .int .u32 0, .int .u64 0, .int .u32 0, .int .u8 0, .int .u32 0, .int .u8 0, .int .u8 0, .int .u32 0, .int .u32 0, .int .u8 0, .int .u8 0, .int .u64 0, .int .u8 0, .int .u32 0, .int .u8 0, .int .u32 0, .int .u32 0, .int .u32 0, .int .u32 0, .slice none 0 0] 50)).alloc (.cells #[.string ⟨#[]⟩, .bool false] 78)).setRow w1.heap.size (oc (setL O v))) O v L (.string ⟨#[]⟩) (.bool false) from get_facts (w := w) w1 HB1.out HR1.out O v L HV1.out); generalize (((w1.alloc (.cells #[.int .u8 0, .int .u32 0, .int .u32 0, .int .u32 0, .int .u32 0, .int .u32 0, .int .u32 0, .int .u32 0, .int .u32 0, .int .u32 0, .int .u64 0, .int .u32 0, .int .u8 0, .int .u32 0, .int .u8 0, .int .u8 0, .int .u32 0, .int .u32 0, .int .u8 0, .int .u8 0, .int .u64 0, .int .u8 0, .int .u32 0, .int .u8 0, .int .u32 0, .int .u32 0, .int .u32 0, .int .u32 0, .slice none 0 0] 50)).alloc (.cells #[.string ⟨#[]⟩, .bool false] 78)).setRow w1.heap.size (oc (setL O v))) = V at F1 ⊢; have z5 := fun j => freeV F1.2.1 j; have d0 := (cells2 F1.2.1).1; have d1 := (cells2 F1.2.1).2; have HF := hid F1; clear F1 HR1 HB1))
      have HG := hid (get_set HF.out (.string ⟨#[]⟩) (.bool false))
      clear HF z5 d0 d1 HV1
      generalize ((V.setCell ⟨w1.heap.size + 1, 0, none⟩ (.string ⟨#[]⟩)).setCell ⟨w1.heap.size + 1, 1, none⟩ (.bool false)) = W2 at HG ⊢
      have HRW := HG.out.2.1
      have c0 := (cells2 HRW).1
      have c1 := (cells2 HRW).2
      have hrs := HG.out.1
      clear HRW
      have HONE := hid (oneO zeroO rfl)
      go_wp2_with (first
        | (refine wpList_store_row rfl _ _ _ rfl w.heap.size (oc zeroO) rfl rfl 50 (oc zeroO) ?_ (opSize _) rfl HONE.out ?_; (focus exact hrs)))
      exact bodyPost_ret (results_row_tmp rfl _ _ w.heap.size 50 (oc zeroO) (0, 0) _ _ rfl rfl (setRow_heap _ _ _ _ _ _ hrs) Try.underlying50 rfl (opSize _)) rfl ⟨.slice none 0 0, rfl, ClaimsT.nil _, below_row HG.out.2.2.2.2.1 (Nat.le_refl _) _⟩
  | some (c :: r), hst =>
      rw [hst, show endOf ((some (c :: r)) : St) = 5 from by simp [endOf], if_neg (by decide), if_neg (by decide)]
      rw [hst, show rcells ((some (c :: r)) : St) = #[.string (ba (c :: r)), .bool true] from rfl] at hT
      have t1 : decide (0 < (ba (c :: r)).size) = true := decide_eq_true (by rw [ba_size, List.length_cons]; omega)
      generalize ba (c :: r) = X at hT t1
      generalize tkO s0 = O at *
      generalize tkL s0 = L at *
      clear hst
      try clear hOO hLL
      go_enter Try.func45, Try.ntmps45
      go_upto_region 2 with (first
        | (go_at_call 70; (with_reducible refine (hT _).mono ?_); rintro e w1 ⟨v, rfl, hV1, hB1⟩; have HV1 := hid (ClaimsF.al hV1); have HB1 := hid (below_next HE.out hB1); have HR1 := hid (heap_keep HR0.out hB1); clear hV1 hB1 hT)
        | (refine wpList_store_row rfl _ _ _ rfl w1.heap.size (oc (setL O v)) rfl rfl 50 (oc zeroO) ?_ (opSize _) rfl (oneO _ (ClaimsV.one HV1.out.1.1)) ?_; (focus exact heap_al (heap_alloc_last' _ _) _); have F1 := (show GF w w1 (((w1.alloc (.cells #[.int .u8 0, .int .u32 0, .int .u32 0, .int .u32 0, .int .u32 0, .int .u32 0, .int .u32 0, .int .u32 0, .int .u32 0, .int .u32 0, .int .u64 0, .int .u32 0, .int .u8 0, .int .u32 0, .int .u8 0, .int .u8 0, .int .u32 0, .int .u32 0, .int .u8 0, .int .u8 0, .int .u64 0, .int .u8 0, .int .u32 0, .int .u8 0, .int .u32 0, .int .u32 0, .int .u32 0, .int .u32 0, .slice none 0 0] 50)).alloc (.cells #[.string ⟨#[]⟩, .bool false] 78)).setRow w1.heap.size (oc (setL O v))) O v L (.string ⟨#[]⟩) (.bool false) from get_facts (w := w) w1 HB1.out HR1.out O v L HV1.out); generalize (((w1.alloc (.cells #[.int .u8 0, .int .u32 0, .int .u32 0, .int .u32 0, .int .u32 0, .int .u32 0, .int .u32 0, .int .u32 0, .int .u32 0, .int .u32 0, .int .u64 0, .int .u32 0, .int .u8 0, .int .u32 0, .int .u8 0, .int .u8 0, .int .u32 0, .int .u32 0, .int .u8 0, .int .u8 0, .int .u64 0, .int .u8 0, .int .u32 0, .int .u8 0, .int .u32 0, .int .u32 0, .int .u32 0, .int .u32 0, .slice none 0 0] 50)).alloc (.cells #[.string ⟨#[]⟩, .bool false] 78)).setRow w1.heap.size (oc (setL O v))) = V at F1 ⊢; have z5 := fun j => freeV F1.2.1 j; have d0 := (cells2 F1.2.1).1; have d1 := (cells2 F1.2.1).2; have HF := hid F1; clear F1 HR1 HB1))
      have HG := hid (get_set HF.out (.string X) (.bool true))
      clear HF z5 d0 d1 HV1
      generalize ((V.setCell ⟨w1.heap.size + 1, 0, none⟩ (.string X)).setCell ⟨w1.heap.size + 1, 1, none⟩ (.bool true)) = W2 at HG ⊢
      have HRW := HG.out.2.1
      have c0 := (cells2 HRW).1
      have c1 := (cells2 HRW).2
      have hrs := HG.out.1
      clear HRW
      have HONE := hid (oneO zeroO rfl)
      go_wp2_with (first
        | (refine wpList_store_row rfl _ _ _ rfl w.heap.size (oc zeroO) rfl rfl 50 (oc zeroO) ?_ (opSize _) rfl HONE.out ?_; (focus exact hrs)))
      exact bodyPost_ret (results_row_tmp rfl _ _ w.heap.size 50 (oc zeroO) (0, 0) _ _ rfl rfl (setRow_heap _ _ _ _ _ _ hrs) Try.underlying50 rfl (opSize _)) rfl ⟨.slice none 0 0, rfl, ClaimsT.nil _, below_row HG.out.2.2.2.2.1 (Nat.le_refl _) _⟩
  | some [], hst =>
      have hOO : tkO s0 = (takeH s0).1 := by unfold tkO; rw [hst]; rfl
      have hLL : tkL s0 = (takeT (takeH s0).2).1 := by unfold tkL; rw [hst]; rfl
      rw [hst, show endOf (some ([] : List UInt8)) = 0 from rfl, if_pos rfl, if_pos rfl, ← hOO, ← hLL]
      rw [hst, show rcells ((some []) : St) = #[.string (ba []), .bool true] from rfl] at hT
      have t1 : decide (0 < (ba []).size) = false := rfl
      generalize ba [] = X at hT t1
      generalize tkO s0 = O at *
      generalize tkL s0 = L at *
      clear hst
      try clear hOO hLL
      go_enter Try.func45, Try.ntmps45
      go_upto_region 2 with (first
        | (go_at_call 70; (with_reducible refine (hT _).mono ?_); rintro e w1 ⟨v, rfl, hV1, hB1⟩; have HV1 := hid (ClaimsF.al hV1); have HB1 := hid (below_next HE.out hB1); have HR1 := hid (heap_keep HR0.out hB1); clear hV1 hB1 hT)
        | (refine wpList_store_row rfl _ _ _ rfl w1.heap.size (oc (setL O v)) rfl rfl 50 (oc zeroO) ?_ (opSize _) rfl (oneO _ (ClaimsV.one HV1.out.1.1)) ?_; (focus exact heap_al (heap_alloc_last' _ _) _); have F1 := (show GF w w1 (((w1.alloc (.cells #[.int .u8 0, .int .u32 0, .int .u32 0, .int .u32 0, .int .u32 0, .int .u32 0, .int .u32 0, .int .u32 0, .int .u32 0, .int .u32 0, .int .u64 0, .int .u32 0, .int .u8 0, .int .u32 0, .int .u8 0, .int .u8 0, .int .u32 0, .int .u32 0, .int .u8 0, .int .u8 0, .int .u64 0, .int .u8 0, .int .u32 0, .int .u8 0, .int .u32 0, .int .u32 0, .int .u32 0, .int .u32 0, .slice none 0 0] 50)).alloc (.cells #[.string ⟨#[]⟩, .bool false] 78)).setRow w1.heap.size (oc (setL O v))) O v L (.string ⟨#[]⟩) (.bool false) from get_facts (w := w) w1 HB1.out HR1.out O v L HV1.out); generalize (((w1.alloc (.cells #[.int .u8 0, .int .u32 0, .int .u32 0, .int .u32 0, .int .u32 0, .int .u32 0, .int .u32 0, .int .u32 0, .int .u32 0, .int .u32 0, .int .u64 0, .int .u32 0, .int .u8 0, .int .u32 0, .int .u8 0, .int .u8 0, .int .u32 0, .int .u32 0, .int .u8 0, .int .u8 0, .int .u64 0, .int .u8 0, .int .u32 0, .int .u8 0, .int .u32 0, .int .u32 0, .int .u32 0, .int .u32 0, .slice none 0 0] 50)).alloc (.cells #[.string ⟨#[]⟩, .bool false] 78)).setRow w1.heap.size (oc (setL O v))) = V at F1 ⊢; have z5 := fun j => freeV F1.2.1 j; have d0 := (cells2 F1.2.1).1; have d1 := (cells2 F1.2.1).2; have HF := hid F1; clear F1 HR1 HB1))
      have HG := hid (get_set HF.out (.string X) (.bool true))
      clear HF z5 d0 d1 HV1
      generalize ((V.setCell ⟨w1.heap.size + 1, 0, none⟩ (.string X)).setCell ⟨w1.heap.size + 1, 1, none⟩ (.bool true)) = W2 at HG ⊢
      have HRW := HG.out.2.1
      have c0 := (cells2 HRW).1
      have c1 := (cells2 HRW).2
      have hrs := HG.out.1
      clear HRW
      have hop : OpAt W2 w1.heap.size (setL O v) := HG.out.2.2.1
      have HONE := hid (oneO (setL O v) (ClaimsV.one HG.out.2.2.2.1.1.1))
      go_wp2_with (first
        | (refine load_op rfl _ rfl w1.heap.size rfl _ hop ?_)
        | (refine wpList_store_row rfl _ _ _ rfl w.heap.size (oc (setL O v)) rfl rfl 50 (oc zeroO) ?_ (opSize _) rfl HONE.out ?_; (focus exact hrs)))
      exact bodyPost_ret (results_row_tmp rfl _ _ w.heap.size 50 (oc (setL O v)) (0, 0) _ _ rfl rfl (setRow_heap _ _ _ _ _ _ hrs) Try.underlying50 rfl (opSize _)) rfl ⟨v, rfl, ClaimsF.setRow (HG.out.2.2.2.1.keep HG.out.2.2.2.2.2.1) _, below_row HG.out.2.2.2.2.1 (Nat.le_refl _) _⟩
end Go.Proofs.Ytagjgknkkbkjgaa.V
