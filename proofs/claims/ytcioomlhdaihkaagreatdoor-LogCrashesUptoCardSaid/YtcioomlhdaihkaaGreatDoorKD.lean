/-
  Disks in memory.
-/
import Derived.Test.YtcioomlhdaihkaaGreatDoorWK5
import Derived.Test.YtcioomlhdaihkaaGreatDoorKL
namespace Go.Proofs.YtcioomlhdaihkaaGreatDoor.K
set_option linter.unusedVariables false
set_option linter.unusedSimpArgs false
set_option maxRecDepth 100000
open Go Go.RowKit Go.Maps Go.MapKept Go.ChangeMaps

set_option maxRecDepth 100000
set_option linter.unusedVariables false
set_option linter.unusedSimpArgs false
/-- A string in a box that stays as it is. -/
def StrFix (A : Gh) (w : World) (p : Value) (n : Str) : Prop := n.length ≤ 1099511627776 ∧ ∃ b, p = .pointer (some ⟨b, 0, none⟩) ∧ w.cell? ⟨b, 0, none⟩ = some (strV n) ∧ A b = .fixed
def UnitFix (A : Gh) (w : World) (x : Value) : U → Prop
  | .mk n => False
  | .byte n c => False
  | .del n => ∃ p, x = .func (.func 116) #[] #[p] ∧ StrFix A w p n
  | .ren n k => ∃ p q, x = .func (.func 90) #[] #[p, q] ∧ StrFix A w p n ∧ StrFix A w q k
theorem fixed_nown {A : Gh} {b : Nat} (h : A b = .fixed) : nown A b := fun t g e => by rw [h] at e; cases e
theorem StrFix.at {A : Gh} {w : World} {p : Value} {n : Str} (h : StrFix A w p n) : StrAt A w p n := by
  obtain ⟨h1, b, e, hc, hf⟩ := h
  exact ⟨h1, b, e, hc, fixed_nown hf⟩
theorem UnitFix.at {A : Gh} {w : World} {x : Value} {u : U} (h : UnitFix A w x u) : UnitAt A w x u := by
  cases u with
  | mk n => exact h.elim
  | byte n c => exact h.elim
  | del n => obtain ⟨p, e, hs⟩ := h; exact ⟨p, e, hs.at⟩
  | ren n k => obtain ⟨p, q, e, hs, hq⟩ := h; exact ⟨p, q, e, hs.at, hq.at⟩
theorem fix_ext {T : Nat → Prop} {A B : Gh} {w w' : World} (h : Ext T noX A w B w') {b : Nat} {v : Value} (hc : w.cell? ⟨b, 0, none⟩ = some v) (hf : A b = .fixed) : w'.cell? ⟨b, 0, none⟩ = some v ∧ B b = .fixed := by
  have hb : b < w.heap.size := World.block_lt_of_cell? w _ hc
  have hn : ∀ t g, A b = .own t g → ¬ T t := fun t g e => by rw [hf] at e; cases e
  exact ⟨(World.cell?_of_block (a := ⟨b, 0, none⟩) (h.keep b hb (fun h => h) hn)).trans hc, (h.gh b hb hn).trans hf⟩
theorem StrFix.ext {T : Nat → Prop} {A B : Gh} {w w' : World} (h : Ext T noX A w B w') {p : Value} {n : Str} (hs : StrFix A w p n) : StrFix B w' p n := by
  obtain ⟨h1, b, e, hc, hf⟩ := hs
  obtain ⟨i1, i2⟩ := fix_ext h hc hf
  exact ⟨h1, b, e, i1, i2⟩
theorem UnitFix.ext {T : Nat → Prop} {A B : Gh} {w w' : World} (h : Ext T noX A w B w') {x : Value} {u : U} (hu : UnitFix A w x u) : UnitFix B w' x u := by
  cases u with
  | mk n => exact hu.elim
  | byte n c => exact hu.elim
  | del n => obtain ⟨p, e, hs⟩ := hu; exact ⟨p, e, hs.ext h⟩
  | ren n k => obtain ⟨p, q, e, hs, hq⟩ := hu; exact ⟨p, q, e, hs.ext h, hq.ext h⟩
/-- A step that is kept: a function value, and its units. -/
def StepAt (A : Gh) (w : World) (x : Value) (us : List U) : Prop :=
  (∃ be ex p q n c, x = .func (.func 81) #[] #[.pointer (some ⟨be, 0, none⟩), p, q] ∧ w.cell? ⟨be, 0, none⟩ = some (.bool ex) ∧ A be = .fixed ∧ StrFix A w p n ∧ StrFix A w q c ∧ us = appendUs n c ex) ∨
  (∃ b y u, x = .func (.func 117) #[] #[.pointer (some ⟨b, 0, none⟩)] ∧ w.cell? ⟨b, 0, none⟩ = some y ∧ A b = .fixed ∧ UnitFix A w y u ∧ us = [u])
theorem StepAt.ext {T : Nat → Prop} {A B : Gh} {w w' : World} (h : Ext T noX A w B w') {x : Value} {us : List U} (hs : StepAt A w x us) : StepAt B w' x us := by
  rcases hs with ⟨be, ex, p, q, n, c, e, h1, h2, h3, h4, h5⟩ | ⟨b, y, u, e, h1, h2, h3, h4⟩
  · obtain ⟨i1, i2⟩ := fix_ext h h1 h2
    exact .inl ⟨be, ex, p, q, n, c, e, i1, i2, h3.ext h, h4.ext h, h5⟩
  · obtain ⟨i1, i2⟩ := fix_ext h h1 h2
    exact .inr ⟨b, y, u, e, i1, i2, h3.ext h, h4⟩
theorem StepAt.seq {A : Gh} {w : World} {x : Value} {us : List U} (hs : StepAt A w x us) (T : Nat → Prop) : SeqU T A w x us := by
  rcases hs with ⟨be, ex, p, q, n, c, rfl, h1, h2, h3, h4, rfl⟩ | ⟨b, y, u, rfl, h1, h2, h3, rfl⟩
  · exact seq_append h1 (fixed_nown h2) h3.at h4.at h4.1
  · exact seq_single h1 (fixed_nown h2) h3.at
theorem StepAt.func {A : Gh} {w : World} {x : Value} {us : List U} (hs : StepAt A w x us) : x.oneCell' = true := by
  rcases hs with ⟨be, ex, p, q, n, c, rfl, _⟩ | ⟨b, y, u, rfl, _⟩ <;> rfl

theorem StepAt.isFunc {A : Gh} {w : World} {x : Value} {us : List U} (hs : StepAt A w x us) : ∃ f a b, x = .func f a b := by
  rcases hs with ⟨be, ex, p, q, n, c, rfl, _⟩ | ⟨b, y, u, rfl, _⟩ <;> exact ⟨_, _, _, rfl⟩
/-- The row of the steps that are kept. -/
def RowAt (t : Nat) (A : Gh) (w : World) (vs : Value) (xs : List Value) : Prop :=
  (vs = .slice none 0 0 ∧ xs = []) ∨ ∃ r cap, ∃ cur : Array Value, vs = .slice (some ⟨r, 0, none⟩) xs.length cap ∧ w.heap[r]? = some (.cells cur 70 (0, 0)) ∧ cur.size = cap ∧ cap ≤ maxLen ∧ (0 < xs.length ∧ xs.length ≤ cap) ∧ A r = .own t 0 ∧ ∀ (i : Nat) (x : Value), xs[i]? = some x → cur[i]? = some x
theorem own_keep {T : Nat → Prop} {A B : Gh} {w w' : World} (h : Ext T noX A w B w') {b t g : Nat} (hb : b < w.heap.size) (hA : A b = .own t g) (hT : ¬ T t) : w'.heap[b]? = w.heap[b]? ∧ B b = .own t g := by
  have hn : ∀ t' g', A b = .own t' g' → ¬ T t' := fun t' g' e => by rw [hA] at e; cases e; exact hT
  exact ⟨h.keep b hb (fun h => h) hn, (h.gh b hb hn).trans hA⟩
theorem RowAt.ext {T : Nat → Prop} {A B : Gh} {w w' : World} (h : Ext T noX A w B w') {t : Nat} (hT : ¬ T t) {vs : Value} {xs : List Value} (hr : RowAt t A w vs xs) : RowAt t B w' vs xs := by
  rcases hr with hr | ⟨r, cap, cur, e, h1, h2, h3, h4, h5, h6⟩
  · exact .inl hr
  · obtain ⟨i1, i2⟩ := own_keep h (Array.getElem?_eq_some_iff.1 h1).1 h5 hT
    exact .inr ⟨r, cap, cur, e, i1.trans h1, h2, h3, h4, i2, h6⟩

/-- What a disk's object is made of. -/
structure Dk where
  ms : Nat
  mv : Nat
  vs : Value
  xs : List Value
  fS : Str → Option Value
  fV : Str → Option Value
/-- No slice has room behind it. -/
def Clip (f : Str → Option Value) : Prop := ∀ s v, f s = some v → ∀ g n cap, v = .slice (some ⟨g, 0, none⟩) n cap → ¬ n < cap
theorem Files.retag {t t' : Nat} {A : Gh} {w : World} {m : Nat} {fs : Fs} {f : Str → Option Value} (h : Files t A w m fs f) (hc : Clip f) : Files t' A w m fs f :=
  ⟨h.sorted, h.map, h.same, h.holds, fun s v hs hv g n cap e hn => absurd hn (hc s v hv g n cap e), h.alone⟩
theorem Files.extC {T : Nat → Prop} {A B : Gh} {w w' : World} {t m : Nat} {fs : Fs} {f : Str → Option Value} (hF : Files t A w m fs f) (hc : Clip f) (h : Ext T noX A w B w') (hm : A m = .fixed) : Files t B w' m fs f := by
  by_cases ht : T t
  · by_cases h0 : ∃ t', ¬ T t'
    · obtain ⟨t', ht'⟩ := h0
      exact (Files.ext (hF.retag (t' := t') hc) h (fun _ h => h.elim) ht' (by rw [hm]; simp) (fun t g e => by rw [hm] at e; cases e)).retag hc
    · have hmn : ∀ t g, A m = .own t g → ¬ T t := fun t g e => by rw [hm] at e; cases e
      exact ⟨hF.sorted, hF.map.keep (h.same (fun _ h => h.elim) hF.map.lt (by rw [hm]; simp) hmn).1, hF.same, fun s c hc' => by obtain ⟨v, h1, h2⟩ := hF.holds s c hc'; exact ⟨v, h1, h2.ext h (fun _ h => h.elim)⟩, fun s v hs hv g n cap e hn => absurd hn (hc s v hv g n cap e), hF.alone⟩
  · exact hF.ext h (fun _ h => h.elim) ht (by rw [hm]; simp) (fun t g e => by rw [hm] at e; cases e)

/-- What a disk's object leads to. -/
structure Parts (A : Gh) (w : World) (p : Nat) (synced seen : Fs) (steps : List (List U)) (k : Dk) : Prop where
  own : A p = .own (2 * p + 1) 0
  ms : A k.ms = .fixed
  mv : ∃ g, A k.mv = .own (2 * p) g
  clip : Clip k.fS
  synced : Files (2 * p) A w k.ms synced k.fS
  seen : Files (2 * p) A w k.mv seen k.fV
  row : RowAt (2 * p + 1) A w k.vs k.xs
  len : k.xs.length = steps.length
  steps : ∀ (i : Nat) (x : Value) (us : List U), k.xs[i]? = some x → steps[i]? = some us → StepAt A w x us
structure DiskIn (A : Gh) (w : World) (p : Nat) (s : St) (k : Dk) : Prop where
  cells : w.heap[p]? = some (.cells (dcells s.room (.map (some k.ms)) (.map (some k.mv)) k.vs s.units s.left s.down) 53 (0, 0))
  parts : Parts A w p s.synced s.seen s.steps k
  ok : s.ok
  left : s.left ≤ noFuse
  room : s.room ≤ 16777216
  units : s.units ≤ 1099511627776
def DiskAt (A : Gh) (w : World) (p : Nat) (s : St) : Prop := ∃ k, DiskIn A w p s k
abbrev Tp (p : Nat) : Nat → Prop := fun t => t = 2 * p ∨ t = 2 * p + 1

theorem fixed_keep {T : Nat → Prop} {A B : Gh} {w w' : World} (h : Ext T noX A w B w') {b : Nat} (hb : b < w.heap.size) (hA : A b = .fixed) : B b = .fixed := (h.gh b hb (fun t g e => by rw [hA] at e; cases e)).trans hA
theorem Parts.ext {T : Nat → Prop} {A B : Gh} {w w' : World} (h : Ext T noX A w B w') {p : Nat} {fs fv : Fs} {ss : List (List U)} {k : Dk} (hd : Parts A w p fs fv ss k) (hp : p < w.heap.size) (h0 : ¬ T (2 * p)) (h1 : ¬ T (2 * p + 1)) : Parts B w' p fs fv ss k := by
  obtain ⟨i1, i2⟩ := own_keep h hp hd.own h1
  obtain ⟨gv, hgv⟩ := hd.mv
  obtain ⟨_, j2⟩ := own_keep h hd.seen.map.lt hgv h0
  exact ⟨i2, fixed_keep h hd.synced.map.lt hd.ms, ⟨gv, j2⟩, hd.clip, hd.synced.extC hd.clip h hd.ms,
    hd.seen.ext h (fun _ h => h.elim) h0 (by rw [hgv]; simp) (fun t g e => by rw [hgv] at e; cases e; exact h0),
    hd.row.ext h h1, hd.len, fun i x us hx hus => (hd.steps i x us hx hus).ext h⟩
theorem DiskIn.ext {T : Nat → Prop} {A B : Gh} {w w' : World} (h : Ext T noX A w B w') {p : Nat} {s : St} {k : Dk} (hd : DiskIn A w p s k) (h0 : ¬ T (2 * p)) (h1 : ¬ T (2 * p + 1)) : DiskIn B w' p s k := by
  have hp := (Array.getElem?_eq_some_iff.1 hd.cells).1
  obtain ⟨i1, i2⟩ := own_keep h hp hd.parts.own h1
  exact ⟨i1.trans hd.cells, hd.parts.ext h hp h0 h1, hd.ok, hd.left, hd.room, hd.units⟩
theorem DiskAt.ext {T : Nat → Prop} {A B : Gh} {w w' : World} (h : Ext T noX A w B w') {p : Nat} {s : St} (hd : DiskAt A w p s) (h0 : ¬ T (2 * p)) (h1 : ¬ T (2 * p + 1)) : DiskAt B w' p s := by
  obtain ⟨k, hk⟩ := hd
  exact ⟨k, hk.ext h h0 h1⟩
theorem DiskAt.below {A : Gh} {w w' : World} (h : Below w.heap.size w w') {p : Nat} {s : St} (hd : DiskAt A w p s) : DiskAt A w' p s := hd.ext (T := fun _ => False) (Ext.of_below h) (fun h => h) (fun h => h)
theorem DiskIn.below {A : Gh} {w w' : World} (h : Below w.heap.size w w') {p : Nat} {s : St} {k : Dk} (hd : DiskIn A w p s k) : DiskIn A w' p s k := hd.ext (T := fun _ => False) (Ext.of_below h) (fun h => h) (fun h => h)
/-- The disk does something: other disks are as they were. -/
theorem DiskAt.other {A B : Gh} {w w' : World} {p q : Nat} (h : Ext (Tp p) noX A w B w') (hne : q ≠ p) {s : St} (hd : DiskAt A w q s) : DiskAt B w' q s :=
  hd.ext h (fun h => by rcases h with h | h <;> omega) (fun h => by rcases h with h | h <;> omega)

/-- The disk's own cells are written. -/
theorem Parts.set {A : Gh} {w w' : World} {p : Nat} {fs fv : Fs} {ss : List (List U)} {k : Dk} (hd : Parts A w p fs fv ss k) {cs : Array Value} (hcs : w.heap[p]? = some (.cells cs 53 (0, 0)))
    (hos : w'.os = w.os) (htp : w'.tape = w.tape) (hop : w'.output = w.output) (hsz : w'.heap.size = w.heap.size) (hb : ∀ b, b ≠ p → w'.heap[b]? = w.heap[b]?) : Ext (· = 2 * p + 1) noX A w A w' ∧ Parts A w' p fs fv ss k := by
  have hg := hd.own
  have hp := (Array.getElem?_eq_some_iff.1 hcs).1
  have hE : Ext (· = 2 * p + 1) noX A w A w' := by
    have := Ext.turn (X := noX) (T := (· = 2 * p + 1)) hg rfl (Nat.le_refl 0) hos htp hop hsz hp hb (fun i hi => absurd hi (Nat.not_lt_zero _))
    rwa [setG_eq hg] at this
  have h0 : ¬ (2 * p = 2 * p + 1) := by omega
  obtain ⟨gv, hgv⟩ := hd.mv
  refine ⟨hE, hd.own, hd.ms, hd.mv, hd.clip, hd.synced.extC hd.clip hE hd.ms, hd.seen.ext hE (fun _ h => h.elim) h0 (by rw [hgv]; simp) (fun t g e => by rw [hgv] at e; cases e; omega), ?_, hd.len, fun i x us hx hus => (hd.steps i x us hx hus).ext hE⟩
  rcases hd.row with hr | ⟨r, cap, cur, e, i1, i2, i3, i4, i5, i6⟩
  · exact .inl hr
  · have hne : r ≠ p := fun e => by
      rw [e, hcs] at i1
      have := Option.some.inj i1
      injection this with _ ht
      exact absurd ht (by decide)
    exact .inr ⟨r, cap, cur, e, (hb r hne).trans i1, i2, i3, i4, i5, i6⟩
theorem DiskIn.set {A : Gh} {w w' : World} {p : Nat} {s s' : St} {k : Dk} (hd : DiskIn A w p s k) (hos : w'.os = w.os) (htp : w'.tape = w.tape) (hop : w'.output = w.output) (hsz : w'.heap.size = w.heap.size) (hb : ∀ b, b ≠ p → w'.heap[b]? = w.heap[b]?)
    (hc : w'.heap[p]? = some (.cells (dcells s'.room (.map (some k.ms)) (.map (some k.mv)) k.vs s'.units s'.left s'.down) 53 (0, 0)))
    (h1 : s'.synced = s.synced) (h2 : s'.seen = s.seen) (h3 : s'.steps = s.steps) (hok : s'.ok) (hl : s'.left ≤ noFuse) (hr : s'.room ≤ 16777216) (hu : s'.units ≤ 1099511627776) : Ext (· = 2 * p + 1) noX A w A w' ∧ DiskIn A w' p s' k := by
  obtain ⟨hE, hP⟩ := hd.parts.set hd.cells hos htp hop hsz hb
  exact ⟨hE, hc, by rw [h1, h2, h3]; exact hP, hok, hl, hr, hu⟩
/-- Other files are seen. -/
theorem Parts.turn {A B : Gh} {w w' : World} {p : Nat} {fs fv fv' : Fs} {ss : List (List U)} {k : Dk} {f' : Str → Option Value} (hd : Parts A w p fs fv ss k) (hp : p < w.heap.size) (hE : Ext (· = 2 * p) noX A w B w') (hF : Files (2 * p) B w' k.mv fv' f') : Parts B w' p fs fv' ss { k with fV := f' } := by
  obtain ⟨gv, hgv⟩ := hd.mv
  obtain ⟨g', _, h2, _⟩ := hE.own k.mv (2 * p) gv hd.seen.map.lt hgv rfl
  have h1 : ¬ (2 * p + 1 = 2 * p) := by omega
  exact ⟨(own_keep hE hp hd.own h1).2, fixed_keep hE hd.synced.map.lt hd.ms, ⟨g', h2⟩, hd.clip, hd.synced.extC hd.clip hE hd.ms, hF, hd.row.ext hE h1, hd.len, fun i x us hx hus => (hd.steps i x us hx hus).ext hE⟩
end Go.Proofs.YtcioomlhdaihkaaGreatDoor.K
