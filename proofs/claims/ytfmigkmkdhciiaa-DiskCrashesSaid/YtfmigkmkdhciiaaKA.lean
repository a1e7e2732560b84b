/-
  Disks: maps of files in memory; what of memory belongs to whom.
-/
import Derived.Test.YtfmigkmkdhciiaaProg
import Derived.Test.YtfmigkmkdhciiaaKM
import Derived.Test.YtfmigkmkdhciiaaLater
import Derived.WalkKit
import Derived.Outline
import Derived.Maps.OwnSet
import Derived.Maps.RangeWalk
import Derived.Sort.KeysCollected
import Derived.Lib.Hide
namespace Go.Proofs.Ytfmigkmkdhciiaa.K
set_option linter.unusedVariables false
set_option linter.unusedSimpArgs false
open Go Go.RowKit Go.Maps Go.MapKept Go.ChangeMaps

abbrev strV (l : Str) : Value := .string ⟨l.toArray⟩
/-- An element reads as itself. -/
def hv (v : Value) : Option (DataW Value × List MemPlace) := some (.held v, [])
theorem strK : Keyed Try.prog 9 := string_keyed Try.underlying9
theorem keyS {s : Str} (h : s.length ≤ maxLen) : keyOf Try.prog 9 (strV s) = some (.string s) := by
  have h2 : (⟨s.toArray⟩ : ByteArray).size ≤ maxLen := by simpa [ByteArray.size] using h
  unfold keyOf
  rw [Try.underlying9]
  simp [mapKey, Try.underlying9, h2]
theorem isKey {s : Str} (h : s.length ≤ maxLen) : WideAt.IsKeyLit (.string s) := strK.key (keyS h)

/-- Block m is a map of at most n files; f tells of each name which slice it has. -/
def MapAt (w : World) (m n : Nat) (f : Str → Option Value) : Prop :=
  ∃ D : DataW Value, w.ownsMap Try.prog 9 hv m n D ∧ ∀ s : Str, s.length ≤ maxLen → (f s = none → Maps.has D (.string s) = false) ∧ ∀ v, f s = some v → Maps.has D (.string s) = true ∧ ∀ z, D.atKey (.string s) z = .held v

theorem zeroS (w : World) : (zeroValue 68).run Try.prog w = .ok (.slice none 0 0) w := Try.zeroValue68 w

theorem MapAt.lt {w : World} {m n : Nat} {f : Str → Option Value} (h : MapAt w m n f) : m < w.heap.size := by obtain ⟨D, h, _⟩ := h; exact h.lt
theorem MapAt.mono {w : World} {m n n' : Nat} {f : Str → Option Value} (h : MapAt w m n f) (hn : n ≤ n') : MapAt w m n' f := by obtain ⟨D, h, h2⟩ := h; exact ⟨D, h.mono hn, h2⟩
theorem MapAt.keep {w w' : World} {m n : Nat} {f : Str → Option Value} (h : MapAt w m n f) (hb : w'.heap[m]? = w.heap[m]?) : MapAt w' m n f := by
  obtain ⟨D, ⟨es, clock, h1, h2⟩, r⟩ := h
  exact ⟨D, ⟨es, clock, hb.trans h1, h2⟩, r⟩
theorem MapAt.congr {w : World} {m n : Nat} {f g : Str → Option Value} (h : MapAt w m n f) (hfg : ∀ s, s.length ≤ maxLen → f s = g s) : MapAt w m n g := by
  obtain ⟨D, h1, h2⟩ := h
  exact ⟨D, h1, fun s hs => by rw [← hfg s hs]; exact h2 s hs⟩
theorem map_made (w : World) : MapAt (w.alloc (.map #[] 0)) w.heap.size 0 (fun _ => none) :=
  ⟨.map [], World.ownsMap_made _ _ _ _, fun s _ => ⟨fun _ => by simp [Maps.has], fun v h => by cases h⟩⟩

theorem MapAt.look_ok {w : World} {m n : Nat} {f : Str → Option Value} (h : MapAt w m n f) {s : Str} (hs : s.length ≤ maxLen) :
    (Instr.lookup 43 (.map (some m)) (strV s) true).run Try.prog w = .ok (.tuple #[(f s).getD (.slice none 0 0), .bool (f s).isSome]) w := by
  obtain ⟨D, h1, h2⟩ := h
  obtain ⟨v, ps, hr, hv⟩ := h1.look_ok strK Try.underlying43 (zeroS w) (zd := .held (.slice none 0 0)) (zp := []) rfl (keyS hs)
  rw [hr]
  cases hf : f s with
  | none =>
    have h3 := (h2 s hs).1 hf
    rw [atKey_of_not_has h3] at hv
    have : v = .slice none 0 0 := (show v = .slice none 0 0 ∧ ps = [] by simpa [K.hv] using hv).1
    rw [this, h3]; rfl
  | some c =>
    obtain ⟨h3, h4⟩ := (h2 s hs).2 c hf
    rw [h4] at hv
    have : v = c := (show v = c ∧ ps = [] by simpa [K.hv] using hv).1
    rw [this, h3]; rfl
theorem MapAt.look {w : World} {m n : Nat} {f : Str → Option Value} (h : MapAt w m n f) {s : Str} (hs : s.length ≤ maxLen) :
    (Instr.lookup 43 (.map (some m)) (strV s) false).run Try.prog w = .ok ((f s).getD (.slice none 0 0)) w := by
  obtain ⟨D, h1, h2⟩ := h
  obtain ⟨v, ps, hr, hv⟩ := h1.lookup strK Try.underlying43 (zeroS w) (zd := .held (.slice none 0 0)) (zp := []) rfl (keyS hs)
  rw [hr]
  cases hf : f s with
  | none =>
    have h3 := (h2 s hs).1 hf
    rw [atKey_of_not_has h3] at hv
    have : v = .slice none 0 0 := (show v = .slice none 0 0 ∧ ps = [] by simpa [K.hv] using hv).1
    rw [this]; rfl
  | some c =>
    obtain ⟨h3, h4⟩ := (h2 s hs).2 c hf
    rw [h4] at hv
    have : v = c := (show v = c ∧ ps = [] by simpa [K.hv] using hv).1
    rw [this]; rfl

def upd (f : Str → Option Value) (s : Str) (v : Value) : Str → Option Value := fun t => if t = s then some v else f t
def strike (f : Str → Option Value) (s : Str) : Str → Option Value := fun t => if t = s then none else f t

theorem MapAt.store {w : World} {m n : Nat} {f : Str → Option Value} (h : MapAt w m n f) (hn : n < maxLen) {s : Str} (hs : s.length ≤ maxLen) (v : Value) :
    ∃ w', (Instr.mapUpdate 43 (.map (some m)) (strV s) v).run Try.prog w = .ok () w' ∧ MapAt w' m (n + 1) (upd f s v) ∧ w.mapTurned w' m := by
  obtain ⟨D, h1, h2⟩ := h
  obtain ⟨w', hr, h3, h4⟩ := h1.store (d := .held v) (ps := []) strK Try.underlying43 hn (keyS hs) rfl
  refine ⟨w', hr, ⟨_, h3, fun t ht => ?_⟩, h4⟩
  unfold upd
  by_cases e : t = s
  · subst e
    rw [if_pos rfl]
    exact ⟨fun h => (by cases h), fun u hu => by cases hu; exact ⟨has_put_same h1.isMap (isKey ht) _, fun z => atKey_put_same h1.isMap (isKey ht) _ _⟩⟩
  · rw [if_neg e]
    have e' : (Lit.string t) ≠ .string s := fun h => e (by injection h)
    rw [has_put_other e']
    exact ⟨(h2 t ht).1, fun u hu => ⟨((h2 t ht).2 u hu).1, fun z => by rw [atKey_put_other e']; exact ((h2 t ht).2 u hu).2 z⟩⟩
theorem MapAt.drop {w : World} {m n : Nat} {f : Str → Option Value} (h : MapAt w m n f) {s : Str} (hs : s.length ≤ maxLen) (ty : TypeId) :
    ∃ w', (Builtin.delete_ #[43, 9] ty #[.map (some m), strV s]).run Try.prog w = .ok (.tuple #[]) w' ∧ MapAt w' m n (strike f s) ∧ w.mapTurned w' m := by
  obtain ⟨D, h1, h2⟩ := h
  obtain ⟨w', hr, h3, h4⟩ := h1.drop strK Try.underlying43 (keyS hs) ty
  refine ⟨w', hr, ⟨_, h3, fun t ht => ?_⟩, h4⟩
  unfold strike
  by_cases e : t = s
  · subst e
    rw [if_pos rfl]
    exact ⟨fun _ => has_del_same, fun u hu => by cases hu⟩
  · rw [if_neg e]
    have e' : (Lit.string t) ≠ .string s := fun h => e (by injection h)
    rw [has_del_other e']
    exact ⟨(h2 t ht).1, fun u hu => ⟨((h2 t ht).2 u hu).1, fun z => by rw [atKey_del_other e']; exact ((h2 t ht).2 u hu).2 z⟩⟩

/-- The names that a map has are those of the files. -/
def Same (f : Str → Option Value) (fs : Fs) : Prop := (∀ p ∈ fs, p.1.length ≤ 1099511627776) ∧ ∀ s, s.length ≤ maxLen → (f s).isSome = (get fs s).isSome
theorem names_nodup {fs : Fs} (hs : Sorted fs) : (names fs).Nodup :=
  List.pairwise_map.2 (hs.imp (fun {a b} h (e : a.1 = b.1) => lt_irrefl b.1 (by rw [e] at h; exact h)))
theorem mem_names {fs : Fs} {s : Str} : s ∈ names fs ↔ (get fs s).isSome = true := by
  rw [Option.isSome_iff_exists]
  constructor
  · intro h
    obtain ⟨p, hp, rfl⟩ := List.mem_map.1 h
    cases hg : get fs p.1 with
    | none => exact absurd hp (get_none.1 hg p.2)
    | some c => exact ⟨c, rfl⟩
  · rintro ⟨c, hc⟩
    exact List.mem_map.2 ⟨_, get_mem hc, rfl⟩
theorem MapAt.keys {w : World} {m n : Nat} {D : DataW Value} (h1 : w.ownsMap Try.prog 9 hv m n D) {f : Str → Option Value}
    (h2 : ∀ s : Str, s.length ≤ maxLen → (f s = none → Maps.has D (.string s) = false) ∧ ∀ v, f s = some v → Maps.has D (.string s) = true ∧ ∀ z, D.atKey (.string s) z = .held v)
    {fs : Fs} (hs : Sorted fs) (hf : Same f fs) : (names fs).Perm (strKeys D) := by
  have hle := strKeys_le h1 Try.underlying9
  obtain ⟨es, rfl, hp, hk⟩ := h1.entries strK
  obtain ⟨es', e, hk'⟩ := h1.keysOf
  cases e
  have hkS : ∀ p ∈ es, ∃ x, p.1 = .string x ∧ x.length ≤ maxLen := fun p hp => by
    obtain ⟨v, hv⟩ := hk' p hp
    obtain ⟨x, _, hx, hx2⟩ := Maps.keyOf_str Try.underlying9 hv
    exact ⟨x, hx, hx2⟩
  refine perm_strKeys hp (fun p hp => by obtain ⟨x, hx, _⟩ := hkS p hp; exact ⟨x, hx⟩) (names_nodup hs) (fun x => ?_)
  rw [mem_names]
  constructor
  · intro hg
    obtain ⟨c, hc⟩ := Option.isSome_iff_exists.1 hg
    have hx : x.length ≤ maxLen := Nat.le_trans (hf.1 _ (get_mem hc)) (by unfold maxLen; omega)
    have h3 := hf.2 x hx
    rw [hg] at h3
    obtain ⟨v, hv⟩ := Option.isSome_iff_exists.1 h3
    exact ((h2 x hx).2 v hv).1
  · intro hh
    rw [Maps.has_eq, List.any_eq_true] at hh
    obtain ⟨p, hp1, hp2⟩ := hh
    obtain ⟨y, hy, hyl⟩ := hkS p hp1
    have e : p.1 = .string x := WideAt.sameKey_eq hp2
    rw [hy] at e
    obtain rfl : y = x := by injection e
    cases hfx : f y with
    | none =>
      have := (h2 y hyl).1 hfx
      rw [Maps.has_eq] at this
      have h5 := List.any_eq_false.1 this p hp1
      rw [hp2] at h5
      exact absurd rfl h5
    | some v => rw [← hf.2 y hyl, hfx]; rfl
theorem size_keys (D : DataW Value) : Maps.size D = (strKeys D).length := by cases D <;> simp [Maps.size, strKeys]
/-- The bound is how many files there are. -/
theorem MapAt.tight {w : World} {m n : Nat} {f : Str → Option Value} (h : MapAt w m n f) {fs : Fs} (hs : Sorted fs) (hf : Same f fs) : MapAt w m fs.length f := by
  obtain ⟨D, h1, h2⟩ := h
  have hp := MapAt.keys h1 h2 hs hf
  have hl : fs.length = Maps.size D := by rw [size_keys, ← hp.length_eq, names, List.length_map]
  refine ⟨D, ?_, h2⟩
  obtain ⟨es, clock, hb, F, _, hD⟩ := h1
  refine ⟨es, clock, hb, F, ?_, hD⟩
  rw [hl, hD]
  simp [Maps.size, length_sorted]

theorem grown_of_turned {w w' : World} {m : Nat} (h : w.mapTurned w' m) : w'.os = w.os ∧ w'.tape = w.tape ∧ w'.output = w.output ∧ w'.heap.size = w.heap.size ∧ ∀ b, b ≠ m → w'.heap[b]? = w.heap[b]? := by
  obtain ⟨es, clock, es', clock', hb, rfl⟩ := h
  exact ⟨rfl, rfl, rfl, by simp [setBlock], fun b hne => heap_setBlock_other hb _ hne⟩

/-! ### what belongs to whom -/
/-- A block is free, or stays as it is for good, or is somebody's, who changes no cell below g. -/
inductive Cls where
  | free
  | fixed
  | own (t g : Nat)
abbrev Gh := Nat → Cls

/-- New blocks are nobody's; tags are below twice the count of blocks. -/
def Dom (A : Gh) (w : World) : Prop := (∀ b, A b ≠ .free → b < w.heap.size) ∧ ∀ b t g, A b = .own t g → t < 2 * w.heap.size
/-- Whoever has the tags T works: only blocks of these tags change, and new ones come; X: blocks that change besides. -/
structure Ext (T X : Nat → Prop) (A : Gh) (w : World) (A' : Gh) (w' : World) : Prop where
  os : w'.os = w.os
  tape : w'.tape = w.tape
  output : w'.output = w.output
  size : w.heap.size ≤ w'.heap.size
  keep : ∀ b, b < w.heap.size → ¬ X b → (∀ t g, A b = .own t g → ¬ T t) → w'.heap[b]? = w.heap[b]?
  gh : ∀ b, b < w.heap.size → (∀ t g, A b = .own t g → ¬ T t) → A' b = A b
  own : ∀ b t g, b < w.heap.size → A b = .own t g → T t → ∃ g', g ≤ g' ∧ A' b = .own t g' ∧ ∀ i, i < g → w'.cell? ⟨b, i, none⟩ = w.cell? ⟨b, i, none⟩
  dom : Dom A w → Dom A' w'

abbrev noX : Nat → Prop := fun _ => False

theorem Ext.refl (T X : Nat → Prop) (A : Gh) (w : World) : Ext T X A w A w :=
  ⟨rfl, rfl, rfl, Nat.le_refl _, fun _ _ _ _ => rfl, fun _ _ _ => rfl, fun b t g _ h _ => ⟨g, Nat.le_refl _, h, fun _ _ => rfl⟩, fun h => h⟩
theorem Ext.trans {T X : Nat → Prop} {A B C : Gh} {a b c : World} (h : Ext T X A a B b) (k : Ext T X B b C c) : Ext T X A a C c := by
  have e1 : ∀ i, i < a.heap.size → (∀ t g, A i = .own t g → ¬ T t) → (∀ t g, B i = .own t g → ¬ T t) := fun i hi hA t g hB => hA t g ((h.gh i hi hA) ▸ hB)
  refine ⟨k.os.trans h.os, k.tape.trans h.tape, k.output.trans h.output, Nat.le_trans h.size k.size, fun i hi hx hA => ?_, fun i hi hA => ?_, fun i t g hi hA hT => ?_, fun hd => k.dom (h.dom hd)⟩
  · exact (k.keep i (Nat.lt_of_lt_of_le hi h.size) hx (e1 i hi hA)).trans (h.keep i hi hx hA)
  · exact (k.gh i (Nat.lt_of_lt_of_le hi h.size) (e1 i hi hA)).trans (h.gh i hi hA)
  · obtain ⟨g1, hg1, hB, hc1⟩ := h.own i t g hi hA hT
    obtain ⟨g2, hg2, hC, hc2⟩ := k.own i t g1 (Nat.lt_of_lt_of_le hi h.size) hB hT
    exact ⟨g2, Nat.le_trans hg1 hg2, hC, fun j hj => (hc2 j (by omega)).trans (hc1 j hj)⟩
theorem Ext.mono {T T' X X' : Nat → Prop} {A B : Gh} {a b : World} (h : Ext T X A a B b) (hT : ∀ t, T t → T' t) (hX : ∀ i, X i → X' i) (hf : ∀ i, X i → ∀ t g, A i ≠ .own t g) : Ext T' X' A a B b := by
  refine ⟨h.os, h.tape, h.output, h.size, fun i hi hx hA => h.keep i hi (fun hx' => hx (hX i hx')) (fun t g e ht => hA t g e (hT t ht)), fun i hi hA => h.gh i hi (fun t g e ht => hA t g e (hT t ht)), fun i t g hi hA hT' => ?_, h.dom⟩
  by_cases ht : T t
  · exact h.own i t g hi hA ht
  · have hn : ∀ t' g', A i = .own t' g' → ¬ T t' := fun t' g' e => by rw [hA] at e; cases e; exact ht
    exact ⟨g, Nat.le_refl _, (h.gh i hi hn).trans hA, fun j _ => World.cell?_of_block (a := ⟨i, j, none⟩) (h.keep i hi (fun hx => hf i hx t g hA) hn)⟩
theorem Ext.mono0 {T T' X' : Nat → Prop} {A B : Gh} {a b : World} (h : Ext T noX A a B b) (hT : ∀ t, T t → T' t) : Ext T' X' A a B b := h.mono hT (fun _ h => h.elim) (fun _ h => h.elim)
theorem Ext.of_below {T X : Nat → Prop} {A : Gh} {w w' : World} (h : Below w.heap.size w w') : Ext T X A w A w' :=
  ⟨h.os, h.tape, h.output, h.size, fun b hb _ _ => h.block b hb, fun _ _ _ => rfl, fun b t g hb hA _ => ⟨g, Nat.le_refl _, hA, fun i _ => h.cell (p := ⟨b, i, none⟩) hb⟩, fun hd => ⟨fun b hb => Nat.lt_of_lt_of_le (hd.1 b hb) h.size, fun b t g e => by have := hd.2 b t g e; have := h.size; omega⟩⟩
/-- Nobody's blocks changed. -/
theorem Ext.below {T : Nat → Prop} {A B : Gh} {w w' : World} {N : Nat} (h : Ext T noX A w B w') (hN : N ≤ w.heap.size) (hf : ∀ b, b < N → ∀ t g, A b = .own t g → ¬ T t) : Below N w w' :=
  ⟨h.os, h.tape, h.output, h.size, fun b hb => h.keep b (by omega) (fun x => x) (hf b hb)⟩

/-- The cells of block b below n stay as they are, whoever works. -/
def Lies (A : Gh) (b n : Nat) : Prop := A b ≠ .free ∧ ∀ t g, A b = .own t g → n ≤ g
theorem Lies.cell {T X : Nat → Prop} {A B : Gh} {w w' : World} (h : Ext T X A w B w') (hX : ∀ i, X i → A i = .free) {b n : Nat} (hl : Lies A b n) (hb : b < w.heap.size) : (∀ i, i < n → w'.cell? ⟨b, i, none⟩ = w.cell? ⟨b, i, none⟩) ∧ Lies B b n := by
  by_cases ht : ∃ t g, A b = .own t g ∧ T t
  · obtain ⟨t, g, hA, hT⟩ := ht
    obtain ⟨g', hg, hB, hc⟩ := h.own b t g hb hA hT
    have := hl.2 t g hA
    exact ⟨fun i hi => hc i (by omega), by rw [hB]; simp, fun t' g'' e => by rw [hB] at e; cases e; omega⟩
  · have hn : ∀ t g, A b = .own t g → ¬ T t := fun t g hA hT => ht ⟨t, g, hA, hT⟩
    have e := h.gh b hb hn
    refine ⟨fun i _ => World.cell?_of_block (a := ⟨b, i, none⟩) (h.keep b hb (fun hx => hl.1 (hX b hx)) hn), ?_, ?_⟩
    · rw [e]; exact hl.1
    · rw [e]; exact hl.2
/-- A block that is not T's is as it was. -/
theorem Ext.same {T X : Nat → Prop} {A B : Gh} {w w' : World} (h : Ext T X A w B w') (hX : ∀ i, X i → A i = .free) {b : Nat} (hb : b < w.heap.size) (hf : A b ≠ .free) (hn : ∀ t g, A b = .own t g → ¬ T t) : w'.heap[b]? = w.heap[b]? ∧ B b = A b :=
  ⟨h.keep b hb (fun hx => hf (hX b hx)) hn, h.gh b hb hn⟩

/-! ### slices of bytes -/
/-- A slice has these bytes; nobody changes them. -/
def BytesV (A : Gh) (w : World) (v : Value) (c : Str) : Prop :=
  (v = .slice none 0 0 ∧ c = []) ∨ ∃ g cap, v = .slice (some ⟨g, 0, none⟩) c.length cap ∧ 0 < c.length ∧ c.length ≤ cap ∧ cap ≤ maxLen ∧ g < w.heap.size ∧ Lies A g c.length ∧ ∀ i (x : UInt8), c[i]? = some x → w.cell? ⟨g, i, none⟩ = some (.int .u8 (x.toNat : Int))
/-- What lies behind the bytes of a slice is t's. -/
def OwnV (t : Nat) (A : Gh) (w : World) (v : Value) : Prop :=
  ∀ g n cap, v = .slice (some ⟨g, 0, none⟩) n cap → n < cap → A g = .own t n ∧ ∃ cur : Array Value, w.heap[g]? = some (.cells cur 5 (0, 0)) ∧ cur.size = cap
theorem BytesV.ext {T X : Nat → Prop} {A B : Gh} {w w' : World} (h : Ext T X A w B w') (hX : ∀ i, X i → A i = .free) {v : Value} {c : Str} (hv : BytesV A w v c) : BytesV B w' v c := by
  rcases hv with hv | ⟨g, cap, e, h0, h1, h2, h3, h4, h5⟩
  · exact .inl hv
  · obtain ⟨hc, hl⟩ := h4.cell h hX h3
    exact .inr ⟨g, cap, e, h0, h1, h2, Nat.lt_of_lt_of_le h3 h.size, hl, fun i x hx => (hc i (List.getElem?_eq_some_iff.1 hx).1).trans (h5 i x hx)⟩
theorem OwnV.ext {T X : Nat → Prop} {A B : Gh} {w w' : World} {t : Nat} (h : Ext T X A w B w') (hX : ∀ i, X i → A i = .free) (hT : ¬ T t) {v : Value} (hv : OwnV t A w v) : OwnV t B w' v := by
  intro g n cap e hn
  obtain ⟨h1, cur, h2, h3⟩ := hv g n cap e hn
  have hg := (Array.getElem?_eq_some_iff.1 h2).1
  obtain ⟨h4, h5⟩ := h.same hX hg (by rw [h1]; simp) (fun t' g' e' => by rw [h1] at e'; cases e'; exact hT)
  exact ⟨h5.trans h1, cur, h4.trans h2, h3⟩
theorem BytesV.len {A : Gh} {w : World} {v : Value} {c : Str} (h : BytesV A w v c) : c.length ≤ maxLen := by
  rcases h with ⟨_, rfl⟩ | ⟨g, cap, _, _, h1, h2, _⟩
  · simp
  · omega

/-- The slices of a map have these files' bytes. -/
def Holds (A : Gh) (w : World) (f : Str → Option Value) (fs : Fs) : Prop := ∀ s c, get fs s = some c → ∃ v, f s = some v ∧ BytesV A w v c
/-- The map at block m has the files; what lies behind them is t's, each its own. -/
structure Files (t : Nat) (A : Gh) (w : World) (m : Nat) (fs : Fs) (f : Str → Option Value) : Prop where
  sorted : Sorted fs
  map : MapAt w m fs.length f
  same : Same f fs
  holds : Holds A w f fs
  own : ∀ s v, s.length ≤ maxLen → f s = some v → OwnV t A w v
  alone : ∀ s s' g n cap n' cap', s.length ≤ maxLen → s'.length ≤ maxLen → f s = some (.slice (some ⟨g, 0, none⟩) n cap) → f s' = some (.slice (some ⟨g, 0, none⟩) n' cap') → n < cap → n' < cap' → s = s'
theorem Files.ext {T X : Nat → Prop} {A B : Gh} {w w' : World} {t m : Nat} {fs : Fs} {f : Str → Option Value} (hF : Files t A w m fs f) (h : Ext T X A w B w') (hX : ∀ i, X i → A i = .free) (hT : ¬ T t) (hm : A m ≠ .free) (hmT : ∀ t g, A m = .own t g → ¬ T t) : Files t B w' m fs f :=
  ⟨hF.sorted, hF.map.keep (h.same hX hF.map.lt hm hmT).1, hF.same, fun s c hc => by obtain ⟨v, h1, h2⟩ := hF.holds s c hc; exact ⟨v, h1, h2.ext h hX⟩, fun s v hs hv => (hF.own s v hs hv).ext h hX hT, hF.alone⟩
end Go.Proofs.Ytfmigkmkdhciiaa.K
