/-
  Dots as keys of maps: what a dot reads as; sets of them.
-/
import Derived.Test.YtdhdfngaldfdjaaDoorVVec
import Derived.DeepKeys4
import Derived.Maps.OwnSet
namespace Go.Proofs.YtdhdfngaldfdjaaDoor.V
set_option linter.unusedVariables false
set_option linter.unusedSimpArgs false
set_option maxRecDepth 100000
open Go Go.RowKit Go.Maps

theorem laidOut : laidOutB Tryd.prog = true := by kernel_rfl
theorem dotRow : (24 : TypeId) < Tryd.prog.types.size := of_decide_eq_true (by kernel_rfl)
theorem dotCells : Tryd.prog.cellsOf 24 = 2 := by kernel_rfl
theorem dotWide : (match Tryd.prog.underlying 24 with | some (.array _ _) | some (.struct _) => true | _ => false) = true := by kernel_rfl
theorem dotKeyed : Keyed Tryd.prog 24 := Keyed.of_law (deep_law_laid laidOut (m := 2) (by omega) dotRow (by kernel_rfl) dotWide)
theorem dotKeyType : Tryd.prog.keyType 24 = true := by kernel_rfl
theorem cellsU8 : Tryd.prog.cellsOf 5 = 1 := by kernel_rfl
theorem cellsU32 : Tryd.prog.cellsOf 22 = 1 := by kernel_rfl

/-- A dot's value. -/
def dv (d : Dot) : Value := .agg #[.int .u8 (d.1 : Int), .int .u32 (d.2 : Int)]
/-- What a dot reads as, as a key. -/
def dk (d : Dot) : Lit := .string (keyBytes [.int .u8 (d.1 : Int), .int .u32 (d.2 : Int)])

theorem wf_u8 {n : Nat} (h : n < 256) : (Lit.int .u8 (n : Int)).wf = true := by simp [Lit.wf, IntKind.min, IntKind.max, IntKind.signed, IntKind.bits]; omega
theorem wf_u32 {n : Nat} (h : n < 4294967296) : (Lit.int .u32 (n : Int)).wf = true := by simp [Lit.wf, IntKind.min, IntKind.max, IntKind.signed, IntKind.bits]; omega
theorem nat8 {n : Int} (h : (Lit.int .u8 n).wf = true) : ∃ m : Nat, n = m ∧ m < 256 := by
  have hx : 0 ≤ n ∧ n ≤ 255 := by simpa [Lit.wf, IntKind.min, IntKind.max, IntKind.signed, IntKind.bits] using h
  exact ⟨n.toNat, by omega, by omega⟩
theorem nat32 {n : Int} (h : (Lit.int .u32 n).wf = true) : ∃ m : Nat, n = m ∧ m < 4294967296 := by
  have hx : 0 ≤ n ∧ n ≤ 4294967295 := by simpa [Lit.wf, IntKind.min, IntKind.max, IntKind.signed, IntKind.bits] using h
  exact ⟨n.toNat, by omega, by omega⟩

theorem keyLits_dot (D : Nat) (c0 c1 : Value) (ls : List Lit) : Tryd.prog.keyLits (D + 2) 24 [c0, c1] = some ls ↔ ∃ d : Dot, d.ok ∧ c0 = .int .u8 (d.1 : Int) ∧ c1 = .int .u32 (d.2 : Int) ∧ ls = [.int .u8 (d.1 : Int), .int .u32 (d.2 : Int)] := by
  have e0 : ∀ c, Tryd.prog.keyLits (D + 1) 5 [c] = match c with | .int q n => if q = .u8 ∧ (Lit.int .u8 n).wf = true then some [.int .u8 n] else none | _ => none := fun c => by
    unfold Program.keyLits
    rw [Tryd.underlying5]
    cases c <;> rfl
  have e1 : ∀ c, Tryd.prog.keyLits (D + 1) 22 [c] = match c with | .int q n => if q = .u32 ∧ (Lit.int .u32 n).wf = true then some [.int .u32 n] else none | _ => none := fun c => by
    unfold Program.keyLits
    rw [Tryd.underlying22]
    cases c <;> rfl
  unfold Program.keyLits
  rw [Tryd.underlying24]
  simp [dotCells, cellsU8, cellsU32, e0, e1]
  constructor
  · intro h
    cases c0 <;> try (simp at h; done)
    rename_i q n
    by_cases h0 : q = .u8 ∧ (Lit.int .u8 n).wf = true
    · simp only [if_pos h0] at h
      cases c1 <;> try (simp at h; done)
      rename_i q' n'
      by_cases h1 : q' = .u32 ∧ (Lit.int .u32 n').wf = true
      · simp only [if_pos h1] at h
        obtain ⟨rfl, w0⟩ := h0
        obtain ⟨rfl, w1⟩ := h1
        obtain ⟨r, rfl, hr⟩ := nat8 w0
        obtain ⟨m, rfl, hm⟩ := nat32 w1
        exact ⟨r, m, ⟨hr, hm⟩, rfl, rfl, by simpa using h.symm⟩
      · simp [if_neg h1] at h
    · simp [if_neg h0] at h
  · rintro ⟨a, b, ⟨ha, hb⟩, rfl, rfl, rfl⟩
    simp [wf_u8 ha, wf_u32 hb]

theorem typesSize : ∃ D, Tryd.prog.types.size + 1 = D + 2 := ⟨Tryd.prog.types.size - 1, by have h : (24 : Nat) < Tryd.prog.types.size := dotRow; omega⟩

theorem keyOf_dot {d : Dot} (h : d.ok) : keyOf Tryd.prog 24 (dv d) = some (dk d) := by
  obtain ⟨D, hD⟩ := typesSize
  unfold keyOf dv
  rw [Tryd.underlying24]
  have hf : (Value.agg #[.int .u8 (d.1 : Int), .int .u32 (d.2 : Int)]).formed Tryd.prog 24 = true := by simp [Value.formed, Tryd.underlying24, dotCells]
  simp only [dotKeyType, hf, Bool.and_self, if_true, hD]
  show (Tryd.prog.keyLits (D + 2) 24 [.int .u8 (d.1 : Int), .int .u32 (d.2 : Int)]).map _ = _
  rw [(keyLits_dot D _ _ _).2 ⟨d, h, rfl, rfl, rfl⟩]
  rfl

theorem keyOf_inv {v : Value} {kl : Lit} (h : keyOf Tryd.prog 24 v = some kl) : ∃ d : Dot, d.ok ∧ v = dv d ∧ kl = dk d := by
  obtain ⟨D, hD⟩ := typesSize
  unfold keyOf at h
  rw [Tryd.underlying24] at h
  simp only [dotKeyType, Bool.true_and] at h
  by_cases hf : v.formed Tryd.prog 24 = true
  · rw [if_pos hf, hD] at h
    obtain ⟨ls, h1, h2⟩ := Option.map_eq_some_iff.1 h
    cases v <;> try (simp [Value.formed, Tryd.underlying24] at hf; done)
    rename_i cs
    simp [Value.formed, Tryd.underlying24, dotCells] at hf
    obtain ⟨l⟩ := cs
    match l, hf with
    | [c0, c1], _ =>
      obtain ⟨d, hd, rfl, rfl, rfl⟩ := (keyLits_dot D c0 c1 ls).1 h1
      exact ⟨d, hd, rfl, h2.symm⟩
  · rw [if_neg hf] at h
    cases h

theorem dv_inj {a b : Dot} (h : dv a = dv b) : a = b := by
  obtain ⟨r, n⟩ := a
  obtain ⟨s, m⟩ := b
  simp [dv] at h
  obtain ⟨h1, h2⟩ := h
  have e1 : r = s := by omega
  have e2 : n = m := by omega
  rw [e1, e2]

theorem dk_inj {a b : Dot} (ha : a.ok) (hb : b.ok) (h : dk a = dk b) : a = b :=
  dv_inj (dotKeyed.inj (keyOf_dot ha) (h ▸ keyOf_dot hb))

theorem dk_key {a : Dot} (ha : a.ok) : WideAt.IsKeyLit (dk a) := dotKeyed.key (keyOf_dot ha)

/-! ### sets -/
abbrev Dat := DataW Unit
/-- A map's keys are just these dots. -/
def KeysAre (D : Dat) (l : List Dot) : Prop := IsMap D ∧ (∀ d ∈ l, d.ok) ∧ ∀ d : Dot, d.ok → (Maps.has D (dk d) = true ↔ d ∈ l)

theorem keysAre_nil : KeysAre (.map []) [] := ⟨isMap_empty, by simp, fun d _ => by simp [Maps.has]⟩
theorem KeysAre.put {D : Dat} {l : List Dot} (h : KeysAre D l) {x : Dot} (hx : x.ok) (z : Dat) : KeysAre (D.put (dk x) z) (l ++ [x]) := by
  refine ⟨h.1.put _ _, fun d hd => ?_, fun d hd => ?_⟩
  · rcases List.mem_append.1 hd with hd | hd
    · exact h.2.1 d hd
    · simp at hd; subst hd; exact hx
  · by_cases e : d = x
    · subst e; simp [has_put_same h.1 (dk_key hx)]
    · rw [has_put_other (fun e' => e (dk_inj hd hx e'))]
      simp [h.2.2 d hd, e]

/-- Block b is a map whose keys are just the dots of l. -/
def SetAt (w : World) (b : Nat) (l : List Dot) : Prop := ∃ (n : Nat) (D : Dat), w.ownsMap Tryd.prog 24 unitElem b n D ∧ n ≤ l.length ∧ KeysAre D l
theorem SetAt.lt {w : World} {b : Nat} {l : List Dot} (h : SetAt w b l) : b < w.heap.size := by obtain ⟨n, D, h, _⟩ := h; exact h.lt
theorem SetAt.keep {w w' : World} {b : Nat} {l : List Dot} (h : SetAt w b l) {B : Nat} (hB : Below B w w') (hb : b < B) : SetAt w' b l := by
  obtain ⟨n, D, ⟨es, clock, h1, h2⟩, r⟩ := h
  exact ⟨n, D, ⟨es, clock, (hB.block b hb).trans h1, h2⟩, r⟩
theorem SetAt.grown {w w' : World} {b : Nat} {l : List Dot} (h : SetAt w b l) {row : Option Nat} (hg : w.grownBy w' row) (hne : some b ≠ row) : SetAt w' b l := by
  obtain ⟨n, D, h, r⟩ := h
  exact ⟨n, D, h.kept hg hne, r⟩

end Go.Proofs.YtdhdfngaldfdjaaDoor.V
