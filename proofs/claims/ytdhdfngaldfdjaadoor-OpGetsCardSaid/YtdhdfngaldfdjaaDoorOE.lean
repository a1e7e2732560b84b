/-
  Rows of claims (two dots each) in memory.
-/
import Derived.Test.YtdhdfngaldfdjaaDoorOC
namespace Go.Proofs.YtdhdfngaldfdjaaDoor.V
set_option linter.unusedVariables false
set_option linter.unusedSimpArgs false
set_option maxRecDepth 100000
open Go Go.RowKit Go.Maps Go.Sort

abbrev Claim := Dot × Dot
def Claim.ok (x : Claim) : Prop := x.1.ok ∧ x.2.ok
def cl (x : Claim) : Array Value := #[.int .u8 (x.1.1 : Int), .int .u32 (x.1.2 : Int), .int .u8 (x.2.1 : Int), .int .u32 (x.2.2 : Int)]
theorem cl_size (x : Claim) : (cl x).size = 4 := rfl
theorem cl_get (x : Claim) {k : Nat} (hk : k < 4) : ∃ v, (cl x)[k]? = some v := ⟨_, Array.getElem?_eq_getElem (by rw [cl_size]; exact hk)⟩

/-- A slice that reads as these claims. -/
def IsClaims (w : World) (a : Option Addr) (len cap : Nat) (xs : List Claim) : Prop :=
  xs.length = len ∧ len ≤ cap ∧ cap ≤ maxLen ∧ (∀ x ∈ xs, Claim.ok x) ∧
    match a with
    | none => len = 0 ∧ cap = 0
    | some ad => ∀ i x, xs[i]? = some x → ∀ k, k < 4 → w.cell? ((ad.add (i * 4)).add k) = (cl x)[k]?
theorem cell_lt4 {w : World} {p : Addr} {v : Value} (h : w.cell? p = some v) : p.block < w.heap.size := cell_lt h
theorem IsClaims.keep {w w' : World} {a : Option Addr} {len cap : Nat} {xs : List Claim} (h : IsClaims w a len cap xs) (hb : Below w.heap.size w w') : IsClaims w' a len cap xs := by
  obtain ⟨h1, h2, h3, h4, h5⟩ := h
  refine ⟨h1, h2, h3, h4, ?_⟩
  cases a with
  | none => exact h5
  | some ad =>
    intro i x hx k hk
    obtain ⟨v, hv⟩ := cl_get x hk
    have h := h5 i x hx k hk
    rw [hv] at h ⊢
    exact cell_keep hb h
theorem IsClaims.at {w : World} {ad : Addr} {len cap : Nat} {xs : List Claim} (h : IsClaims w (some ad) len cap xs) (i : Nat) (hi : i < len) :
    ∃ (x : Claim) (B O : Nat) (sp : Option Nat), xs[i]? = some x ∧ Claim.ok x ∧ ad.add (i * 4) = ⟨B, O, sp⟩ ∧ w.cell? ⟨B, O, sp⟩ = some (.int .u8 (x.1.1 : Int)) ∧ w.cell? ⟨B, O + 1, none⟩ = some (.int .u32 (x.1.2 : Int)) ∧ w.cell? ⟨B, O + 2, none⟩ = some (.int .u8 (x.2.1 : Int)) ∧ w.cell? ⟨B, O + 3, none⟩ = some (.int .u32 (x.2.2 : Int)) := by
  obtain ⟨h1, h2, h3, h4, h5⟩ := h
  have hx : xs[i]? = some (xs[i]'(by omega)) := List.getElem?_eq_getElem (by omega)
  have hc := h5 i _ hx
  have hok := h4 _ (List.mem_of_getElem? hx)
  generalize xs[i]'(by omega) = x at hx hc hok
  obtain ⟨A, hA⟩ : ∃ A, A = ad.add (i * 4) := ⟨_, rfl⟩
  rw [← hA] at hc
  obtain ⟨B, O, sp⟩ := A
  have e : ∀ k, 0 < k → k < 4 → w.cell? ⟨B, O + k, none⟩ = (cl x)[k]? := fun k h0 hk => by
    have h := hc k hk
    unfold Addr.add at h
    rw [if_neg (by omega)] at h
    exact h
  exact ⟨x, B, O, sp, hx, hok, hA.symm, hc 0 (by omega), e 1 (by omega) (by omega), e 2 (by omega) (by omega), e 3 (by omega) (by omega)⟩
theorem IsClaims.none_len {w : World} {len cap : Nat} {xs : List Claim} (h : IsClaims w none len cap xs) : len = 0 := h.2.2.2.2.1

def ClaimsV (w : World) (v : Value) (l : List Claim) : Prop := ∃ a len cap, v = .slice a len cap ∧ IsClaims w a len cap l
theorem ClaimsV.keep {w w' : World} {v : Value} {l : List Claim} (h : ClaimsV w v l) (hb : Below w.heap.size w w') : ClaimsV w' v l := by
  obtain ⟨a, len, cap, e, h⟩ := h
  exact ⟨a, len, cap, e, h.keep hb⟩
theorem ClaimsV.nil (w : World) : ClaimsV w (.slice none 0 0) [] := ⟨none, 0, 0, rfl, rfl, Nat.le_refl _, by unfold maxLen; omega, by simp, rfl, rfl⟩
theorem take_snocC {α : Type} {l : List α} {k : Nat} {x : α} (hx : l[k]? = some x) : l.take k ++ [x] = l.take (k + 1) := by
  rw [List.take_succ_eq_append_getElem (List.getElem?_eq_some_iff.1 hx).1, (List.getElem?_eq_some_iff.1 hx).2]

/-- May these be a submit's lines? -/
def okL (v : Vec) (l : List Claim) : Prop := 1 ≤ l.length ∧ l.length ≤ 16 ∧ (∀ x ∈ l, covB v x.1 = true ∧ covB v x.2 = true) ∧ (l.map Prod.fst).Nodup
/-- The first k of them do. -/
def OkTo (v : Vec) (l : List Claim) (k : Nat) : Prop := (∀ x ∈ l.take k, covB v x.1 = true ∧ covB v x.2 = true) ∧ ((l.take k).map Prod.fst).Nodup
theorem OkTo.zero (v : Vec) (l : List Claim) : OkTo v l 0 := by constructor <;> simp
theorem OkTo.succ {v : Vec} {l : List Claim} {k : Nat} {x : Claim} (h : OkTo v l k) (hx : l[k]? = some x) (h1 : covB v x.1 = true) (h2 : covB v x.2 = true) (hn : x.1 ∉ (l.take k).map Prod.fst) : OkTo v l (k + 1) := by
  unfold OkTo
  rw [← take_snocC hx]
  refine ⟨fun y hy => ?_, ?_⟩
  · rcases List.mem_append.1 hy with hy | hy
    · exact h.1 y hy
    · simp at hy; subst hy; exact ⟨h1, h2⟩
  · rw [List.map_append, List.nodup_append]
    refine ⟨h.2, by simp, ?_⟩
    intro a ha b hb
    simp at hb
    subst hb
    intro e
    subst e
    exact hn ha
theorem not_okL_cov {v : Vec} {l : List Claim} {k : Nat} {x : Claim} (hx : l[k]? = some x) (h : covB v x.1 = false ∨ covB v x.2 = false) : ¬ okL v l := by
  rintro ⟨_, _, h1, _⟩
  have := h1 x (List.mem_of_getElem? hx)
  rcases h with h | h
  · rw [h] at this; exact absurd this.1 (by decide)
  · rw [h] at this; exact absurd this.2 (by decide)
theorem not_okL_dup {v : Vec} {l : List Claim} {k : Nat} {x : Claim} (hx : l[k]? = some x) (h : x.1 ∈ (l.take k).map Prod.fst) : ¬ okL v l := by
  rintro ⟨_, _, _, hn⟩
  have h2 : ((l.take (k + 1)).map Prod.fst).Nodup := by
    rw [List.map_take]
    exact hn.sublist (List.take_sublist _ _)
  rw [← take_snocC hx, List.map_append, List.nodup_append] at h2
  exact h2.2.2 _ h _ (by simp) rfl
theorem okL_of {v : Vec} {l : List Claim} {k : Nat} (hk : l.length ≤ k) (h1 : 1 ≤ l.length) (h16 : l.length ≤ 16) (h : OkTo v l k) : okL v l := by
  unfold OkTo at h
  rw [List.take_of_length_le hk] at h
  exact ⟨h1, h16, h.1, h.2⟩
instance (v : Vec) (l : List Claim) : Decidable (okL v l) := inferInstanceAs (Decidable (_ ∧ _ ∧ _ ∧ _))
def okLB (v : Vec) (l : List Claim) : Bool := decide (okL v l)
theorem okLB_true {v : Vec} {l : List Claim} (h : okL v l) : okLB v l = true := decide_eq_true h
theorem okLB_false {v : Vec} {l : List Claim} (h : ¬ okL v l) : okLB v l = false := decide_eq_false h

end Go.Proofs.YtdhdfngaldfdjaaDoor.V
