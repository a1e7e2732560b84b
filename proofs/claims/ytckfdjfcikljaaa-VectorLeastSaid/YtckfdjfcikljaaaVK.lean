/-
  Vectors as keys of maps; sets of them.
-/
import Derived.Test.YtckfdjfcikljaaaVT
import Derived.DeepKeys4
import Derived.Maps.OwnSet
namespace Go.Proofs.Ytckfdjfcikljaaa
set_option linter.unusedVariables false
set_option linter.unusedSimpArgs false
open Go Go.RowKit Go.Maps

theorem laidOut : laidOutB Try.prog = true := by kernel_rfl
theorem vecRow : (24 : TypeId) < Try.prog.types.size := of_decide_eq_true (by kernel_rfl)
theorem vecCells : Try.prog.cellsOf 24 = 8 := by kernel_rfl
theorem vecWide : (match Try.prog.underlying 24 with | some (.array _ _) | some (.struct _) => true | _ => false) = true := by kernel_rfl
theorem vecKeyed : Keyed Try.prog 24 := Keyed.of_law (deep_law_laid laidOut (m := 2) (by omega) vecRow (by kernel_rfl) vecWide)
theorem vecKeyType : Try.prog.keyType 24 = true := by kernel_rfl
theorem cellsU32 : Try.prog.cellsOf 22 = 1 := by kernel_rfl

def vk (v : Vec) : Lit := .string (keyBytes [.int .u32 (v 0 : Int), .int .u32 (v 1 : Int), .int .u32 (v 2 : Int), .int .u32 (v 3 : Int), .int .u32 (v 4 : Int), .int .u32 (v 5 : Int), .int .u32 (v 6 : Int), .int .u32 (v 7 : Int)])

theorem wf_u32 {n : Nat} (h : n < 4294967296) : (Lit.int .u32 (n : Int)).wf = true := by simp [Lit.wf, IntKind.min, IntKind.max, IntKind.signed, IntKind.bits]; omega

theorem keyLits_u32 (D : Nat) {n : Nat} (h : n < 4294967296) : Try.prog.keyLits (D + 1) 22 [.int .u32 (n : Int)] = some [.int .u32 (n : Int)] := by
  unfold Program.keyLits
  rw [Try.underlying22]
  simp [wf_u32 h]

theorem keyLits_vec (D : Nat) {v : Vec} (h : okV v) : Try.prog.keyLits (D + 2) 24 (vc v).toList = some [.int .u32 (v 0 : Int), .int .u32 (v 1 : Int), .int .u32 (v 2 : Int), .int .u32 (v 3 : Int), .int .u32 (v 4 : Int), .int .u32 (v 5 : Int), .int .u32 (v 6 : Int), .int .u32 (v 7 : Int)] := by
  have k := fun i => keyLits_u32 D (h.1 i)
  unfold Program.keyLits
  rw [Try.underlying24]
  simp [vecCells, cellsU32, vc, List.range_succ, k]

theorem typesSize : ∃ D, Try.prog.types.size + 1 = D + 2 := ⟨Try.prog.types.size - 1, by have h : (24 : Nat) < Try.prog.types.size := vecRow; omega⟩

theorem keyOf_vec {v : Vec} (h : okV v) : keyOf Try.prog 24 (.agg #[.int .u32 (v 0 : Int), .int .u32 (v 1 : Int), .int .u32 (v 2 : Int), .int .u32 (v 3 : Int), .int .u32 (v 4 : Int), .int .u32 (v 5 : Int), .int .u32 (v 6 : Int), .int .u32 (v 7 : Int)]) = some (vk v) := by
  obtain ⟨D, hD⟩ := typesSize
  unfold keyOf
  rw [Try.underlying24]
  have hf : (Value.agg #[.int .u32 (v 0 : Int), .int .u32 (v 1 : Int), .int .u32 (v 2 : Int), .int .u32 (v 3 : Int), .int .u32 (v 4 : Int), .int .u32 (v 5 : Int), .int .u32 (v 6 : Int), .int .u32 (v 7 : Int)]).formed Try.prog 24 = true := by simp [Value.formed, Try.underlying24, vecCells]
  simp only [vecKeyType, hf, Bool.and_self, if_true, hD]
  show (Try.prog.keyLits (D + 2) 24 (vc v).toList).map _ = _
  rw [keyLits_vec D h]
  rfl

theorem agg_inj {a b : Vec} (h : Value.agg #[.int .u32 (a 0 : Int), .int .u32 (a 1 : Int), .int .u32 (a 2 : Int), .int .u32 (a 3 : Int), .int .u32 (a 4 : Int), .int .u32 (a 5 : Int), .int .u32 (a 6 : Int), .int .u32 (a 7 : Int)] = .agg #[.int .u32 (b 0 : Int), .int .u32 (b 1 : Int), .int .u32 (b 2 : Int), .int .u32 (b 3 : Int), .int .u32 (b 4 : Int), .int .u32 (b 5 : Int), .int .u32 (b 6 : Int), .int .u32 (b 7 : Int)]) : ∀ i, i < 8 → a i = b i := by
  simp at h
  rw [all8 fun i => a i = b i]
  omega
theorem vk_inj {a b : Vec} (ha : okV a) (hb : okV b) (h : vk a = vk b) : a = b :=
  ext8 ha hb (agg_inj (vecKeyed.inj (keyOf_vec ha) (h ▸ keyOf_vec hb)))
theorem vk_key {a : Vec} (ha : okV a) : WideAt.IsKeyLit (vk a) := vecKeyed.key (keyOf_vec ha)

abbrev Dat := DataW Unit
/-- A map's keys are just these vectors. -/
def KeysAre (D : Dat) (l : List Vec) : Prop := IsMap D ∧ (∀ d ∈ l, okV d) ∧ ∀ d : Vec, okV d → (Maps.has D (vk d) = true ↔ d ∈ l)
theorem keysAre_nil : KeysAre (.map []) [] := ⟨isMap_empty, by simp, fun d _ => by simp [Maps.has]⟩
theorem KeysAre.put {D : Dat} {l : List Vec} (h : KeysAre D l) {x : Vec} (hx : okV x) (z : Dat) : KeysAre (D.put (vk x) z) (l ++ [x]) := by
  refine ⟨h.1.put _ _, fun d hd => ?_, fun d hd => ?_⟩
  · rcases List.mem_append.1 hd with hd | hd
    · exact h.2.1 d hd
    · simp at hd; subst hd; exact hx
  · by_cases e : d = x
    · subst e; simp [has_put_same h.1 (vk_key hx)]
    · rw [has_put_other (fun e' => e (vk_inj hd hx e'))]
      simp [h.2.2 d hd, e]
theorem KeysAre.again {D : Dat} {l : List Vec} (h : KeysAre D l) {x : Vec} (hx : x ∈ l) : KeysAre D (l ++ [x]) := by
  refine ⟨h.1, fun d hd => ?_, fun d hd => ?_⟩
  · rcases List.mem_append.1 hd with hd | hd
    · exact h.2.1 d hd
    · simp at hd; subst hd; exact h.2.1 _ hx
  · rw [h.2.2 d hd, List.mem_append]
    constructor
    · exact .inl
    · rintro (hd | hd)
      · exact hd
      · simp at hd; subst hd; exact hx
theorem KeysAre.memB {D : Dat} {l : List Vec} (h : KeysAre D l) {x : Vec} (hx : okV x) : Maps.has D (vk x) = memB l x := by
  rw [Bool.eq_iff_iff, h.2.2 x hx, memB_iff h.2.1 hx]

/-- Block b is a map whose keys are just the vectors of l. -/
def SetV (w : World) (b : Nat) (l : List Vec) : Prop := ∃ (n : Nat) (D : Dat), w.ownsMap Try.prog 24 unitElem b n D ∧ n ≤ l.length ∧ KeysAre D l
theorem SetV.lt {w : World} {b : Nat} {l : List Vec} (h : SetV w b l) : b < w.heap.size := by obtain ⟨n, D, h, _⟩ := h; exact h.lt
theorem SetV.block {w w' : World} {b : Nat} {l : List Vec} (h : SetV w b l) (hb : w'.heap[b]? = w.heap[b]?) : SetV w' b l := by
  obtain ⟨n, D, ⟨es, clock, h1, h2⟩, r⟩ := h
  exact ⟨n, D, ⟨es, clock, hb.trans h1, h2⟩, r⟩
theorem SetV.keep {w w' : World} {b : Nat} {l : List Vec} (h : SetV w b l) {B : Nat} (hB : Below B w w') (hb : b < B) : SetV w' b l := h.block (hB.block b hb)
theorem SetV.again {w : World} {b : Nat} {l : List Vec} (h : SetV w b l) {x : Vec} (hx : x ∈ l) : SetV w b (l ++ [x]) := by
  obtain ⟨n, D, h, hn, hk⟩ := h
  exact ⟨n, D, h, by simp; omega, hk.again hx⟩
theorem SetV.store {w1 : World} {b n : Nat} {D : Dat} {l : List Vec} (hn : n ≤ l.length) (hk : KeysAre D l) {x : Vec} (hx : okV x) (h : w1.ownsMap Try.prog 24 unitElem b (n + 1) (D.put (vk x) (.agg []))) : SetV w1 b (l ++ [x]) :=
  ⟨_, _, h, by simp; omega, hk.put hx _⟩

end Go.Proofs.Ytckfdjfcikljaaa
