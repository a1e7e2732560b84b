/-
  Disks: units' functions, said of files.
-/
import Derived.Test.YtcioomlhdaihkaaGreatDoorKB
namespace Go.Proofs.YtcioomlhdaihkaaGreatDoor.K
set_option linter.unusedVariables false
set_option linter.unusedSimpArgs false
set_option maxRecDepth 100000
open Go Go.RowKit Go.Maps Go.MapKept Go.ChangeMaps

set_option maxRecDepth 100000
set_option linter.unusedVariables false
set_option linter.unusedSimpArgs false
theorem Ext.new {T X : Nat → Prop} {A A' : Gh} {w w' : World} (h : Below w.heap.size w w') (hA : ∀ b, b < w.heap.size → A' b = A b) (hd : ∀ b, w.heap.size ≤ b → A' b ≠ .free → A b ≠ .free ∨ b < w'.heap.size)
    (ht : ∀ b t g, w.heap.size ≤ b → A' b = .own t g → A b = .own t g ∨ t < 2 * w'.heap.size) : Ext T X A w A' w' :=
  ⟨h.os, h.tape, h.output, h.size, fun b hb _ _ => h.block b hb, fun b hb _ => hA b hb, fun b t g hb hAb _ => ⟨g, Nat.le_refl _, (hA b hb).trans hAb, fun i _ => h.cell (p := ⟨b, i, none⟩) hb⟩, fun hdm => ⟨fun b hb => by
    by_cases hlt : b < w.heap.size
    · exact Nat.lt_of_lt_of_le hlt h.size
    · rcases hd b (by omega) hb with h1 | h1
      · have := hdm.1 b h1; omega
      · exact h1, fun b t g e => by
    have hs := h.size
    by_cases hlt : b < w.heap.size
    · rw [hA b hlt] at e
      have := hdm.2 b t g e
      omega
    · rcases ht b t g (by omega) e with h1 | h1
      · have := hdm.2 b t g h1; omega
      · exact h1⟩⟩
def setG (A : Gh) (g : Nat) (c : Cls) : Gh := fun b => if b = g then c else A b
theorem setG_same (A : Gh) (g : Nat) (c : Cls) : setG A g c g = c := by simp [setG]
theorem setG_other (A : Gh) {g b : Nat} (c : Cls) (h : b ≠ g) : setG A g c b = A b := by simp [setG, h]
theorem Ext.newG {T X : Nat → Prop} {A : Gh} {w w' : World} (h : Below w.heap.size w w') {g : Nat} (hg : w.heap.size ≤ g) (hg' : g < w'.heap.size) (c : Cls) (hc : ∀ t g, c = .own t g → t < 2 * w'.heap.size) : Ext T X A w (setG A g c) w' :=
  Ext.new h (fun b hb => setG_other A c (by omega)) (fun b hb hf => by
    by_cases e : b = g
    · subst e; exact .inr hg'
    · rw [setG_other A c e] at hf; exact .inl hf) (fun b t n hb he => by
    by_cases e : b = g
    · subst e; rw [setG_same] at he; exact .inr (hc t n he)
    · rw [setG_other A c e] at he; exact .inl he)
/-- One of t's blocks changes, from cell n on. -/
theorem Ext.turn {T X : Nat → Prop} {A : Gh} {w w' : World} {t g n n' : Nat} (hA : A g = .own t n) (hT : T t) (hn : n ≤ n') (hos : w'.os = w.os) (htp : w'.tape = w.tape) (hop : w'.output = w.output) (hsz : w'.heap.size = w.heap.size) (hlt : g < w.heap.size)
    (hb : ∀ b, b ≠ g → w'.heap[b]? = w.heap[b]?) (hc : ∀ i, i < n → w'.cell? ⟨g, i, none⟩ = w.cell? ⟨g, i, none⟩) : Ext T X A w (setG A g (.own t n')) w' := by
  refine ⟨hos, htp, hop, by omega, fun b hlt _ hno => hb b (fun e => hno t n (e ▸ hA) hT), fun b hlt hno => setG_other A _ (fun e => hno t n (e ▸ hA) hT), fun b t' g' hlt hAb hT' => ?_, fun hd => ⟨fun b hb => ?_, fun b t' n2 he => ?_⟩⟩
  · by_cases e : b = g
    · subst e
      rw [hA] at hAb
      cases hAb
      exact ⟨n', hn, setG_same .., hc⟩
    · exact ⟨g', Nat.le_refl _, (setG_other A _ e).trans hAb, fun i _ => World.cell?_of_block (a := ⟨b, i, none⟩) (hb b e)⟩
  · rw [hsz]
    by_cases e : b = g
    · subst e; exact hlt
    · rw [setG_other A _ e] at hb
      exact hd.1 b hb
  · rw [hsz]
    by_cases e : b = g
    · subst e; rw [setG_same] at he; cases he; exact hd.2 b t n hA
    · rw [setG_other A _ e] at he
      exact hd.2 b t' n2 he

theorem heap_last (w : World) (o : Obj) : (w.alloc o).heap[w.heap.size]? = some o := by show (w.heap.push _)[w.heap.size]? = _; simp
theorem cell_row {w : World} {g : Nat} {cs : Array Value} {t : TypeId} {fr : Nat × Nat} (h : w.heap[g]? = some (.cells cs t fr)) (i : Nat) : w.cell? ⟨g, i, none⟩ = cs[i]? := by
  simp [World.cell?, h]
theorem cell_new (w : World) (cs : Array Value) (t : TypeId) (i : Nat) : (w.alloc (.cells cs t)).cell? ⟨w.heap.size, i, none⟩ = cs[i]? := cell_row (heap_last w _) i
def u8v (x : UInt8) : Value := .int .u8 (x.toNat : Int)
theorem add0 (g i : Nat) : (⟨g, 0, none⟩ : Addr).add i = ⟨g, i, none⟩ := by unfold Addr.add; split <;> simp_all

/-- The new row of an append. -/
theorem bytes_new (A : Gh) (w : World) (t cap : Nat) (c : Str) (rest : Array Value) (h0 : 0 < c.length) (hcap : c.length ≤ cap) (hm : cap ≤ maxLen) (hsz : (c.map u8v).length + rest.size = cap) :
    BytesV (setG A w.heap.size (.own t c.length)) (w.alloc (.cells ((c.map u8v).toArray ++ rest) 5)) (.slice (some ⟨w.heap.size, 0, none⟩) c.length cap) c ∧
    OwnV t (setG A w.heap.size (.own t c.length)) (w.alloc (.cells ((c.map u8v).toArray ++ rest) 5)) (.slice (some ⟨w.heap.size, 0, none⟩) c.length cap) := by
  refine ⟨.inr ⟨w.heap.size, cap, rfl, h0, hcap, hm, by simp, ⟨by rw [setG_same]; simp, fun t' g' e => by rw [setG_same] at e; cases e; exact Nat.le_refl _⟩, fun i x hx => ?_⟩, fun g n cap' e hn => ?_⟩
  · rw [cell_new]
    have hi := (List.getElem?_eq_some_iff.1 hx).1
    rw [Array.getElem?_append_left (by simpa using hi)]
    simp [hx, u8v]
  · cases e
    exact ⟨setG_same .., _, heap_last w _, by simpa using hsz⟩

theorem append_byte {A : Gh} {w : World} {t : Nat} {v : Value} {c : Str} (hB : BytesV A w v c) (hO : OwnV t A w v) (hlen : c.length ≤ 1099511627776) (ht : t < 2 * w.heap.size) (x : UInt8) (g0 : Nat) (hx : w.cell? ⟨g0, 0, none⟩ = some (u8v x)) :
    ∃ v' w' A', (Builtin.append_ #[83, 83] 83 #[v, .slice (some ⟨g0, 0, none⟩) 1 1]).run Tryz.prog w = .ok v' w' ∧ Ext (· = t) noX A w A' w' ∧ BytesV A' w' v' (c ++ [x]) ∧ OwnV t A' w' v' ∧
      ∃ g n cap, v' = .slice (some ⟨g, 0, none⟩) n cap ∧ (w.heap.size ≤ g ∨ ∃ n0, v = .slice (some ⟨g, 0, none⟩) n0 cap ∧ n0 < cap) ∧ ∀ b, b < w.heap.size → b ≠ g → w'.heap[b]? = w.heap[b]? ∧ A' b = A b := by
  obtain ⟨i0, hi, hz0, hz1, hz2⟩ := info_parts infoU8
  have hnews : ∀ (j : Nat) (u : Value), [u8v x][j]? = some u → w.cell? ((⟨g0, 0, none⟩ : Addr).add j) = some u := by
    intro j u hu
    cases j with
    | zero => rw [add0]; simp at hu; subst hu; exact hx
    | succ j => simp at hu
  have zc : ∀ k, (Builtin.zeroCells (Value.int IntKind.u8 0).cells k).size = k := fun k => by rw [size_zeroCells]; simp [Value.cells]
  rcases hB with ⟨rfl, rfl⟩ | ⟨g, cap, rfl, h0, hcap, hm, hg, hl, hcells⟩
  · have hr := run_append_nil (P := Tryz.prog) w 83 83 5 i0 _ Tryz.underlying83 hi hz0 ⟨g0, 0, none⟩ 1 1 [u8v x] (by rw [hz1]; rfl) hnews (by omega) (by omega) (by rw [hz2]; omega)
    have hge := grownCap_ge w 1 0 5
    obtain ⟨b1, b2⟩ := bytes_new A w.drew t (grownCap w 1 0 5) [x] (Builtin.zeroCells (Value.int IntKind.u8 0).cells (grownCap w 1 0 5 - 1)) (by simp) hge (grownCap_le_maxLen w 1 0 _ (by unfold maxLen; omega)) (by rw [zc]; simp; omega)
    exact ⟨_, _, _, hr, Ext.newG ((Below.refl _ w).drew.alloc (Nat.le_refl _) _) (Nat.le_refl _) (by simp) _ (fun t' g' e => by cases e; simp; omega), b1, b2, _, _, _, rfl, .inl (Nat.le_refl _), fun b hb _ => ⟨Below.heap_alloc w.drew _ b hb, setG_other A _ (by omega)⟩⟩
  · have holds : ∀ (j : Nat) (u : Value), (c.map u8v)[j]? = some u → w.cell? ((⟨g, 0, none⟩ : Addr).add j) = some u := by
      intro j u hu
      rw [List.getElem?_map, Option.map_eq_some_iff] at hu
      obtain ⟨y, hy, rfl⟩ := hu
      rw [add0]
      exact hcells j y hy
    by_cases hroom : c.length < cap
    · obtain ⟨hA, cur, hcur, hcs⟩ := hO g c.length cap rfl hroom
      have hr := run_append_room (P := Tryz.prog) w 83 83 5 i0 Tryz.underlying83 hi g c.length cap cur hcur ⟨g0, 0, none⟩ 1 1 [u8v x] (by rw [hz1]; rfl) hnews (fun u hu => by rw [List.mem_singleton] at hu; subst hu; rfl) (by omega) (by rw [hz1]; simp; omega)
      rw [hz1, Nat.mul_one] at hr
      have hrow := setRow_heap w g cur (cur.toList.take c.length ++ [u8v x] ++ cur.toList.drop (c.length + [u8v x].length)).toArray 5 (0, 0) hcur
      have hat : ∀ i, i < c.length → (cur.toList.take c.length ++ [u8v x] ++ cur.toList.drop (c.length + [u8v x].length)).toArray[i]? = cur[i]? := fun i hi => by
        rw [List.getElem?_toArray, List.append_assoc, List.getElem?_append_left (by simp; omega), List.getElem?_take, if_pos hi, Array.getElem?_toList]
      refine ⟨_, _, setG A g (.own t (c.length + 1)), hr, Ext.turn hA rfl (by omega) rfl rfl rfl (by simp [World.setRow]) hg (fun b hne => setRow_other w g b _ hne) (fun i hi => ?_), .inr ⟨g, cap, by simp, by simp, by simp; omega, hm, by simp [World.setRow]; exact hg, ⟨by rw [setG_same]; simp, fun t' g' e => by rw [setG_same] at e; cases e; simp⟩, fun i y hy => ?_⟩, fun g' n cap' e hn => ?_, _, _, _, rfl, .inr ⟨_, rfl, hroom⟩, fun b _ hne => ⟨setRow_other w g b _ hne, setG_other A _ hne⟩⟩
      · rw [cell_row hrow, cell_row hcur, hat i hi]
      · rw [cell_row hrow]
        by_cases hi : i < c.length
        · rw [hat i hi, ← cell_row hcur]
          rw [List.getElem?_append_left hi] at hy
          exact hcells i y hy
        · have hil := (List.getElem?_eq_some_iff.1 hy).1
          simp at hil
          obtain rfl : i = c.length := by omega
          simp at hy
          subst hy
          rw [List.getElem?_toArray, List.append_assoc, List.getElem?_append_right (List.length_take_le _ _)]
          have : (List.take c.length cur.toList).length = c.length := by simp; omega
          rw [this]
          simp [u8v]
      · cases e
        refine ⟨setG_same .., _, hrow, ?_⟩
        simp
        omega
    · have hcl : cap = c.length := by omega
      have hr := run_append_grow (P := Tryz.prog) w 83 83 5 i0 _ Tryz.underlying83 hi hz0 ⟨g, 0, none⟩ c.length cap (c.map u8v) (by rw [hz1]; simp) holds ⟨g0, 0, none⟩ 1 1 [u8v x] (by rw [hz1]; rfl) hnews (by omega) (by omega)
        (by rw [hz2]; have := nextslicecap_le (need := c.length + 1) (old := cap) (by omega); omega)
      have hge := grownCap_ge w (c.length + 1) cap 5
      have he : (c.map u8v).toArray ++ [u8v x].toArray ++ Builtin.zeroCells (Value.int IntKind.u8 0).cells (grownCap w (c.length + 1) cap 5 - (c.length + 1)) = ((c ++ [x]).map u8v).toArray ++ Builtin.zeroCells (Value.int IntKind.u8 0).cells (grownCap w (c.length + 1) cap 5 - (c.length + 1)) := by simp
      rw [he] at hr
      obtain ⟨b1, b2⟩ := bytes_new A w.drew t (grownCap w (c.length + 1) cap 5) (c ++ [x]) (Builtin.zeroCells (Value.int IntKind.u8 0).cells (grownCap w (c.length + 1) cap 5 - (c.length + 1))) (by simp) (by simp; exact hge) (grownCap_le_maxLen w _ _ _ (by unfold maxLen; omega)) (by rw [zc]; simp; omega)
      have el : (c ++ [x]).length = c.length + 1 := by simp
      rw [el] at b1 b2
      exact ⟨_, _, _, hr, Ext.newG ((Below.refl _ w).drew.alloc (Nat.le_refl _) _) (Nat.le_refl _) (by simp) _ (fun t' g' e => by cases e; simp; omega), b1, b2, _, _, _, rfl, .inl (Nat.le_refl _), fun b hb _ => ⟨Below.heap_alloc w.drew _ b hb, setG_other A _ (by omega)⟩⟩

/-! ### files, one put or struck -/
theorem map_cells {w : World} {m n g : Nat} {f : Str → Option Value} (h : MapAt w m n f) {cs : Array Value} {t : TypeId} {fr : Nat × Nat} (hg : w.heap[g]? = some (.cells cs t fr)) : g ≠ m := by
  obtain ⟨D, ⟨es, clock, h1, _⟩, _⟩ := h
  intro e
  rw [e, h1] at hg
  cases hg
theorem map_cell {w : World} {m n : Nat} {f : Str → Option Value} (h : MapAt w m n f) (i : Nat) : w.cell? ⟨m, i, none⟩ = none := by
  obtain ⟨D, ⟨es, clock, h1, _⟩, _⟩ := h
  simp [World.cell?, h1]
theorem Ext.map {T X : Nat → Prop} {A : Gh} {w w' : World} {m t g n n' : Nat} {f f' : Str → Option Value} (hA : A m = .own t g) (hT : T t) (h : w.mapTurned w' m) (h1 : MapAt w m n f) (h2 : MapAt w' m n' f') : Ext T X A w A w' := by
  obtain ⟨e1, e2, e3, e4, e5⟩ := grown_of_turned h
  have := Ext.turn (X := X) hA hT (Nat.le_refl g) e1 e2 e3 e4 h1.lt e5 (fun i _ => by rw [map_cell h1, map_cell h2])
  have e : setG A m (.own t g) = A := by
    funext b
    by_cases hb : b = m
    · subst hb; rw [setG_same, hA]
    · exact setG_other A _ hb
  rwa [e] at this

/-- As Files, but nothing is said of one name. -/
structure FilesX (s : Str) (t : Nat) (A : Gh) (w : World) (m : Nat) (fs : Fs) (f : Str → Option Value) : Prop where
  sorted : Sorted fs
  map : MapAt w m fs.length f
  same : Same f fs
  holds : ∀ s', s' ≠ s → ∀ c, get fs s' = some c → ∃ v, f s' = some v ∧ BytesV A w v c
  own : ∀ s', s' ≠ s → ∀ v, s'.length ≤ maxLen → f s' = some v → OwnV t A w v
  alone : ∀ s1 s2 g n cap n' cap', s1 ≠ s → s2 ≠ s → s1.length ≤ maxLen → s2.length ≤ maxLen → f s1 = some (.slice (some ⟨g, 0, none⟩) n cap) → f s2 = some (.slice (some ⟨g, 0, none⟩) n' cap') → n < cap → n' < cap' → s1 = s2
theorem Files.but {t : Nat} {A : Gh} {w : World} {m : Nat} {fs : Fs} {f : Str → Option Value} (h : Files t A w m fs f) (s : Str) : FilesX s t A w m fs f :=
  ⟨h.sorted, h.map, h.same, fun s' _ c hc => h.holds s' c hc, fun s' _ v hs hv => h.own s' v hs hv, fun s1 s2 g n cap n' cap' _ _ => h.alone s1 s2 g n cap n' cap'⟩
theorem Files.at {t : Nat} {A : Gh} {w : World} {m : Nat} {fs : Fs} {f : Str → Option Value} (h : Files t A w m fs f) {s : Str} (hs : s.length ≤ maxLen) : BytesV A w ((f s).getD (.slice none 0 0)) ((get fs s).getD []) ∧ OwnV t A w ((f s).getD (.slice none 0 0)) := by
  have hsame := h.same.2 s hs
  cases hg : get fs s with
  | none =>
    rw [hg] at hsame
    have hf : f s = none := by cases hf : f s with | none => rfl | some v => rw [hf] at hsame; cases hsame
    rw [hf]
    exact ⟨.inl ⟨rfl, rfl⟩, fun g n cap e => by cases e⟩
  | some c =>
    obtain ⟨v, hv, hb⟩ := h.holds s c hg
    rw [hv]
    exact ⟨hb, h.own s v hs hv⟩
theorem Files.lies {t : Nat} {A : Gh} {w : World} {m : Nat} {fs : Fs} {f : Str → Option Value} (h : Files t A w m fs f) {s : Str} (hs : s.length ≤ maxLen) {g n cap : Nat} (hf : f s = some (.slice (some ⟨g, 0, none⟩) n cap)) : g < w.heap.size ∧ n ≤ cap := by
  have hsame := h.same.2 s hs
  rw [hf] at hsame
  obtain ⟨c, hc⟩ := Option.isSome_iff_exists.1 hsame.symm
  obtain ⟨v, hv, hb⟩ := h.holds s c hc
  rw [hf] at hv
  cases hv
  rcases hb with ⟨e, _⟩ | ⟨g', cap', e, _, h2, _, h3, _⟩
  · cases e
  · cases e; exact ⟨h3, h2⟩
theorem nm {s : Str} (h : s.length ≤ 1099511627776) : s.length ≤ maxLen := by unfold maxLen; omega
theorem same_put {f : Str → Option Value} {fs : Fs} (h : Same f fs) {s : Str} (hs : s.length ≤ 1099511627776) (v : Value) (c : Str) : Same (upd f s v) (put s c fs) := by
  refine ⟨fun p hp => ?_, fun s' hs' => ?_⟩
  · rcases mem_put hp with rfl | hp
    · exact hs
    · exact h.1 p hp
  · unfold upd
    by_cases e : s' = s
    · subst e; rw [if_pos rfl, get_put_same]; rfl
    · rw [if_neg e, get_put_other (Ne.symm e)]; exact h.2 s' hs'
theorem same_del {f : Str → Option Value} {fs : Fs} (h : Same f fs) (s : Str) : Same (strike f s) (del s fs) := by
  refine ⟨fun p hp => h.1 p (List.mem_filter.1 hp).1, fun s' hs' => ?_⟩
  unfold strike
  by_cases e : s' = s
  · subst e; rw [if_pos rfl, get_del_same]; rfl
  · rw [if_neg e, get_del_other (Ne.symm e)]; exact h.2 s' hs'

theorem FilesX.put {s : Str} {t : Nat} {A : Gh} {w : World} {m g0 : Nat} {fs : Fs} {f : Str → Option Value} (h : FilesX s t A w m fs f) (hA : A m = .own t g0) (hs : s.length ≤ 1099511627776) (hn : fs.length < maxLen) {v : Value} {c : Str} (hv : BytesV A w v c) (ho : OwnV t A w v)
    (hal : ∀ s' g n cap n' cap', s' ≠ s → s'.length ≤ maxLen → f s' = some (.slice (some ⟨g, 0, none⟩) n cap) → v = .slice (some ⟨g, 0, none⟩) n' cap' → n < cap → n' < cap' → False) :
    ∃ w', (Instr.mapUpdate 50 (.map (some m)) (strV s) v).run Tryz.prog w = .ok () w' ∧ Ext (· = t) noX A w A w' ∧ Files t A w' m (K.put s c fs) (upd f s v) := by
  obtain ⟨w', hr, h1, h2⟩ := h.map.store hn (nm hs) v
  have hE : Ext (· = t) noX A w A w' := Ext.map hA rfl h2 h.map h1
  obtain ⟨_, _, _, e4, e5⟩ := grown_of_turned h2
  have hown : ∀ u, OwnV t A w u → OwnV t A w' u := fun u hu g n cap e hlt => by
    obtain ⟨i1, cur, i2, i3⟩ := hu g n cap e hlt
    exact ⟨i1, cur, (e5 g (map_cells h.map i2)).trans i2, i3⟩
  refine ⟨w', hr, hE, sorted_put h.sorted, h1.tight (sorted_put h.sorted) (same_put h.same hs v c), same_put h.same hs v c, fun s' c' hc' => ?_, fun s' v' hs' hv' => ?_, fun s1 s2 g n cap n' cap' l1 l2 f1 f2 c1 c2 => ?_⟩
  · unfold upd
    by_cases e : s' = s
    · subst e
      rw [get_put_same] at hc'
      cases hc'
      exact ⟨v, if_pos rfl, hv.ext hE (fun _ h => h.elim)⟩
    · rw [get_put_other (Ne.symm e)] at hc'
      obtain ⟨u, hu, hb⟩ := h.holds s' e c' hc'
      exact ⟨u, (if_neg e).trans hu, hb.ext hE (fun _ h => h.elim)⟩
  · unfold upd at hv'
    by_cases e : s' = s
    · rw [if_pos e] at hv'
      cases hv'
      exact hown _ ho
    · rw [if_neg e] at hv'
      exact hown _ (h.own s' e v' hs' hv')
  · unfold upd at f1 f2
    by_cases e1 : s1 = s
    · by_cases e2 : s2 = s
      · rw [e1, e2]
      · rw [if_pos e1] at f1
        rw [if_neg e2] at f2
        injection f1 with f1
        exact (hal s2 g n' cap' n cap e2 l2 f2 f1 c2 c1).elim
    · by_cases e2 : s2 = s
      · rw [if_neg e1] at f1
        rw [if_pos e2] at f2
        injection f2 with f2
        exact (hal s1 g n cap n' cap' e1 l1 f1 f2 c1 c2).elim
      · rw [if_neg e1] at f1
        rw [if_neg e2] at f2
        exact h.alone s1 s2 g n cap n' cap' e1 e2 l1 l2 f1 f2 c1 c2
theorem Files.del {s : Str} {t : Nat} {A : Gh} {w : World} {m g0 : Nat} {fs : Fs} {f : Str → Option Value} (h : Files t A w m fs f) (hA : A m = .own t g0) (hs : s.length ≤ maxLen) :
    ∃ w', (∀ ty, (Builtin.delete_ #[50, 9] ty #[.map (some m), strV s]).run Tryz.prog w = .ok (.tuple #[]) w') ∧ Ext (· = t) noX A w A w' ∧ Files t A w' m (K.del s fs) (strike f s) ∧ ∀ u, OwnV t A w u → OwnV t A w' u := by
  obtain ⟨w', hr, h1, h2⟩ := h.map.drop hs 0
  have hr' : ∀ ty, (Builtin.delete_ #[50, 9] ty #[.map (some m), strV s]).run Tryz.prog w = .ok (.tuple #[]) w' := fun ty => hr
  have hE : Ext (· = t) noX A w A w' := Ext.map hA rfl h2 h.map h1
  obtain ⟨_, _, _, e4, e5⟩ := grown_of_turned h2
  have hown : ∀ u, OwnV t A w u → OwnV t A w' u := fun u hu g n cap e hlt => by
    obtain ⟨i1, cur, i2, i3⟩ := hu g n cap e hlt
    exact ⟨i1, cur, (e5 g (map_cells h.map i2)).trans i2, i3⟩
  have back : ∀ s' v', strike f s s' = some v' → f s' = some v' := fun s' v' h => by
    unfold strike at h
    split at h
    · cases h
    · exact h
  refine ⟨w', hr', hE, ⟨sorted_del h.sorted, h1.tight (sorted_del h.sorted) (same_del h.same s), same_del h.same s, fun s' c' hc' => ?_, fun s' v' hs' hv' => hown _ (h.own s' v' hs' (back _ _ hv')), fun s1 s2 g n cap n' cap' l1 l2 f1 f2 => h.alone s1 s2 g n cap n' cap' l1 l2 (back _ _ f1) (back _ _ f2)⟩, hown⟩
  by_cases e : s' = s
  · subst e; rw [get_del_same] at hc'; cases hc'
  · rw [get_del_other (Ne.symm e)] at hc'
    obtain ⟨u, hu, hb⟩ := h.holds s' c' hc'
    exact ⟨u, by unfold strike; rw [if_neg e]; exact hu, hb.ext hE (fun _ h => h.elim)⟩

/-! ### units -/
def nown (A : Gh) (b : Nat) : Prop := ∀ t g, A b ≠ .own t g
/-- A captured string. -/
def StrAt (A : Gh) (w : World) (p : Value) (n : Str) : Prop := n.length ≤ 1099511627776 ∧ ∃ b, p = .pointer (some ⟨b, 0, none⟩) ∧ w.cell? ⟨b, 0, none⟩ = some (strV n) ∧ nown A b
/-- A function value that does what the unit says. -/
def UnitAt (A : Gh) (w : World) (x : Value) : U → Prop
  | .mk n => ∃ p, x = .func (.func 82) #[] #[p] ∧ StrAt A w p n
  | .byte n c => ∃ p b, x = .func (.func 83) #[] #[p, .pointer (some ⟨b, 0, none⟩)] ∧ StrAt A w p n ∧ w.cell? ⟨b, 0, none⟩ = some (u8v c) ∧ nown A b
  | .del n => ∃ p, x = .func (.func 116) #[] #[p] ∧ StrAt A w p n
  | .ren n k => ∃ p q, x = .func (.func 90) #[] #[p, q] ∧ StrAt A w p n ∧ StrAt A w q k

theorem cell_ext {T X : Nat → Prop} {A B : Gh} {w w' : World} (h : Ext T X A w B w') {b : Nat} {v : Value} (hc : w.cell? ⟨b, 0, none⟩ = some v) (hn : nown A b) (hX : ¬ X b) : w'.cell? ⟨b, 0, none⟩ = some v ∧ nown B b := by
  have hb : b < w.heap.size := World.block_lt_of_cell? w _ hc
  have hno : ∀ t g, A b = .own t g → ¬ T t := fun t g e => absurd e (hn t g)
  exact ⟨(World.cell?_of_block (a := ⟨b, 0, none⟩) (h.keep b hb hX hno)).trans hc, fun t g e => hn t g ((h.gh b hb hno) ▸ e)⟩
theorem StrAt.ext {T X : Nat → Prop} {A B : Gh} {w w' : World} (h : Ext T X A w B w') {p : Value} {n : Str} (hs : StrAt A w p n) (hX : ∀ b, (∃ v, w.cell? ⟨b, 0, none⟩ = some v) → ¬ X b) : StrAt B w' p n := by
  obtain ⟨hl, b, rfl, hc, hn⟩ := hs
  obtain ⟨h1, h2⟩ := cell_ext h hc hn (hX b ⟨_, hc⟩)
  exact ⟨hl, b, rfl, h1, h2⟩
theorem UnitAt.ext {T X : Nat → Prop} {A B : Gh} {w w' : World} (h : Ext T X A w B w') {x : Value} {u : U} (hu : UnitAt A w x u) (hX : ∀ b, (∃ v, w.cell? ⟨b, 0, none⟩ = some v) → ¬ X b) : UnitAt B w' x u := by
  cases u with
  | mk n => obtain ⟨p, e, hs⟩ := hu; exact ⟨p, e, hs.ext h hX⟩
  | byte n c =>
    obtain ⟨p, b, e, hs, hc, hn⟩ := hu
    obtain ⟨h1, h2⟩ := cell_ext h hc hn (hX b ⟨_, hc⟩)
    exact ⟨p, b, e, hs.ext h hX, h1, h2⟩
  | del n => obtain ⟨p, e, hs⟩ := hu; exact ⟨p, e, hs.ext h hX⟩
  | ren n k => obtain ⟨p, q, e, hs, hq⟩ := hu; exact ⟨p, q, e, hs.ext h hX, hq.ext h hX⟩

/-- What calling it does. -/
def UnitDone (t : Nat) (A : Gh) (w : World) (m : Nat) (fs : Fs) (e : Ending) (w' : World) : Prop := (∃ v, e = .returned v) ∧ ∃ A' f', Ext (· = t) noX A w A' w' ∧ Files t A' w' m fs f'

theorem files_alloc {t : Nat} {A : Gh} {w w' : World} {m : Nat} {fs : Fs} {f : Str → Option Value} (h : Files t A w m fs f) (hb : Below w.heap.size w w') (hA : ∃ g, A m = .own t g) : Files t A w' m fs f := by
  obtain ⟨g, hA⟩ := hA
  exact h.ext (T := fun _ => False) (X := noX) (Ext.of_below hb) (fun _ h => h.elim) (fun h => h) (by rw [hA]; simp) (fun _ _ _ h => h)

theorem run_mk {t : Nat} {A : Gh} {w : World} {m : Nat} {fs : Fs} {f : Str → Option Value} (hF : Files t A w m fs f) (hA : ∃ g, A m = .own t g) (hlim : wt fs ≤ 1099511627776) {n : Str} {p : Value} (hp : StrAt A w p n) :
    Calls Tryz.prog 82 #[.map (some m), p] w (UnitDone t A w m ((U.mk n).run fs)) := by
  obtain ⟨hl, b, rfl, hc, hn⟩ := hp
  obtain ⟨g, hA⟩ := hA
  have hlen := len_le_wt fs
  obtain ⟨w', hr, hE, hF'⟩ := (hF.but n).put hA hl (by unfold maxLen; omega) (v := .slice none 0 0) (c := []) (.inl ⟨rfl, rfl⟩) (fun g n cap e => by cases e) (fun _ _ _ _ _ _ _ _ _ e => by cases e)
  refine (walk_mk w w' m b n hc hr).mono ?_
  rintro e w2 ⟨hv, rfl⟩
  exact ⟨hv, A, _, hE, hF'⟩
theorem run_del {t : Nat} {A : Gh} {w : World} {m : Nat} {fs : Fs} {f : Str → Option Value} (hF : Files t A w m fs f) (hA : ∃ g, A m = .own t g) {n : Str} {p : Value} (hp : StrAt A w p n) :
    Calls Tryz.prog 116 #[.map (some m), p] w (UnitDone t A w m ((U.del n).run fs)) := by
  obtain ⟨hl, b, rfl, hc, hn⟩ := hp
  obtain ⟨g, hA⟩ := hA
  obtain ⟨w', hr, hE, hF', _⟩ := hF.del hA (nm hl)
  refine (walk_del w w' m b n hc hr).mono ?_
  rintro e w2 ⟨hv, rfl⟩
  exact ⟨hv, A, _, hE, hF'⟩
theorem run_ren {t : Nat} {A : Gh} {w : World} {m : Nat} {fs : Fs} {f : Str → Option Value} (hF : Files t A w m fs f) (hA : ∃ g, A m = .own t g) (hlim : wt fs ≤ 1099511627776) {n k : Str} {p q : Value} (hp : StrAt A w p n) (hq : StrAt A w q k) :
    Calls Tryz.prog 90 #[.map (some m), p, q] w (UnitDone t A w m ((U.ren n k).run fs)) := by
  obtain ⟨g, hA⟩ := hA
  have hlen := len_le_wt fs
  have hdl := len_le_wt (K.del n fs)
  have hdw := wt_del n fs
  obtain ⟨w1, hr, hE, hF', hown⟩ := hF.del hA (nm hp.1)
  have hq1 := hq.ext hE (fun _ _ h => h.elim)
  obtain ⟨hB, hO⟩ := hF.at (nm hp.1)
  obtain ⟨w', hr2, hE2, hF2⟩ := (hF'.but k).put hA hq.1 (by unfold maxLen; omega) (hB.ext hE (fun _ h => h.elim)) (hown _ hO) (by
    intro s' g n1 cap n' cap' hne hs' hf hv hc1 hc2
    unfold strike at hf
    split at hf
    · cases hf
    · rename_i hsn
      cases hfn : f n with
      | none => rw [hfn] at hv; cases hv
      | some v =>
        rw [hfn] at hv
        have hv' : v = _ := hv
        rw [hv'] at hfn
        exact hsn (hF.alone s' n g n1 cap n' cap' hs' (nm hp.1) hf hfn hc1 hc2))
  obtain ⟨hl, b, rfl, hc, hn⟩ := hp
  obtain ⟨hlq, b2, rfl, hc2, hn2⟩ := hq1
  refine (walk_ren w w1 w' m b b2 n k _ hc (hF.map.look (nm hl)) hr hc2 hr2).mono ?_
  rintro e w2 ⟨hv, rfl⟩
  exact ⟨hv, A, _, hE.trans hE2, hF2⟩
theorem run_byte {t : Nat} {A : Gh} {w : World} {m : Nat} {fs : Fs} {f : Str → Option Value} (hF : Files t A w m fs f) (hA : ∃ g, A m = .own t g) (hlim : wt fs ≤ 1099511627776) {n : Str} {p : Value} {b2 : Nat} {x : UInt8} (hp : StrAt A w p n)
    (hx : w.cell? ⟨b2, 0, none⟩ = some (u8v x)) (hd : Dom A w) :
    Calls Tryz.prog 83 #[.map (some m), p, .pointer (some ⟨b2, 0, none⟩)] w (UnitDone t A w m ((U.byte n x).run fs)) := by
  obtain ⟨g, hA⟩ := hA
  have hlen := len_le_wt fs
  have hb1 : Below w.heap.size w (w.drew.alloc (.cells #[u8v x] 5)) := (Below.refl _ w).drew.alloc (Nat.le_refl _) _
  have hsz1 : (w.drew.alloc (.cells #[u8v x] 5)).heap.size = w.heap.size + 1 := by simp
  have hF1 := files_alloc hF hb1 ⟨g, hA⟩
  have hc0 : (w.drew.alloc (.cells #[u8v x] 5)).cell? ⟨w.heap.size, 0, none⟩ = some (u8v x) := cell_new w.drew #[u8v x] _ 0
  obtain ⟨hB, hO⟩ := hF1.at (nm hp.1)
  have hcl : ((get fs n).getD []).length ≤ 1099511627776 := by
    cases hg : get fs n with
    | none => simp
    | some c => have := wt_mem hg; simp; omega
  obtain ⟨v', w2, A2, hr, hE, hB', hO', gg, nn, cap, hv', hg, hoth⟩ := append_byte hB hO hcl (by have := hd.2 m t g hA; omega) x w.heap.size hc0
  have hm1 : m < (w.drew.alloc (.cells #[u8v x] 5)).heap.size := hF1.map.lt
  -- the row that grew is no map
  have hgm : m ≠ gg := by
    rcases hg with hg | ⟨n0, hv, hlt⟩
    · omega
    · obtain ⟨_, cur, hcur, _⟩ := hO gg n0 cap hv hlt
      exact (map_cells hF1.map hcur).symm
  obtain ⟨hmk, hmA⟩ := hoth m hm1 hgm
  have hA2 : A2 m = .own t g := hmA.trans hA
  -- no other name has its slice there
  have hno : ∀ s', s' ≠ n → s'.length ≤ maxLen → ∀ n1 cap1, f s' = some (.slice (some ⟨gg, 0, none⟩) n1 cap1) → n1 < cap1 → False := by
    intro s' hne hs' n1 cap1 hf h1
    rcases hg with hg | ⟨n0, hv, hlt⟩
    · have := (hF1.lies hs' hf).1
      omega
    · cases hfn : f n with
      | none => rw [hfn] at hv; cases hv
      | some u =>
        rw [hfn] at hv
        have hv2 : u = _ := hv
        rw [hv2] at hfn
        exact hne (hF1.alone s' n gg n1 cap1 n0 cap hs' (nm hp.1) hf hfn h1 hlt)
  have hX : FilesX n t A2 w2 m fs f := by
    refine ⟨hF1.sorted, hF1.map.keep hmk, hF1.same, fun s' _ c hc => ?_, fun s' hne v hs' hv g1 n1 cap1 e h1 => ?_, fun s1 s2 g n1 cap1 n2 cap2 _ _ => hF1.alone s1 s2 g n1 cap1 n2 cap2⟩
    · obtain ⟨u, hu, hb⟩ := hF1.holds s' c hc
      exact ⟨u, hu, hb.ext hE (fun _ h => h.elim)⟩
    · obtain ⟨i1, cur, i2, i3⟩ := hF1.own s' v hs' hv g1 n1 cap1 e h1
      have hne2 : g1 ≠ gg := fun e2 => by
        subst e2
        subst e
        exact hno s' hne hs' n1 cap1 hv h1
      obtain ⟨j1, j2⟩ := hoth g1 (Array.getElem?_eq_some_iff.1 i2).1 hne2
      exact ⟨j2.trans i1, cur, j1.trans i2, i3⟩
  obtain ⟨w3, hr3, hE3, hF3⟩ := hX.put hA2 hp.1 (by unfold maxLen; omega) hB' hO' (by
    intro s' g1 n1 cap1 n' cap' hne hs' hf hv hc1 hc2
    rw [hv'] at hv
    cases hv
    exact hno s' hne hs' n1 cap1 hf hc1)
  have hp2 := (hp.ext (T := fun _ => False) (X := noX) (Ext.of_below hb1) (fun _ _ h => h.elim)).ext hE (fun _ _ h => h.elim)
  obtain ⟨hl, b, rfl, hc, hn⟩ := hp
  obtain ⟨_, b', e', hc2, _⟩ := hp2
  cases e'
  refine (walk_byte w w2 w3 m b b2 n x _ v' hc hx (fun W hW => (hF.map.keep hW).look (nm hl)) hF.map.lt hr hc2 hr3).mono ?_
  rintro e W ⟨hv, rfl⟩
  exact ⟨hv, A2, _, ((Ext.of_below hb1).trans hE).trans hE3, hF3⟩

/-- Calling it does what the unit says. -/
theorem unit_run {t : Nat} {A : Gh} {w : World} {m : Nat} {fs : Fs} {f : Str → Option Value} (hF : Files t A w m fs f) (hA : ∃ g, A m = .own t g) (hlim : wt fs ≤ 1099511627776) (hd : Dom A w) {x : Value} {u : U} (hu : UnitAt A w x u) :
    ∃ fn caps, x = .func (.func fn) #[] caps ∧ (∀ (args : Array Value) (w : World), (callFunc fn args).run Tryz.prog w = .ok (.enter fn args) w) ∧ Calls Tryz.prog fn (#[.map (some m)] ++ caps) w (UnitDone t A w m (u.run fs)) := by
  cases u with
  | mk n =>
    obtain ⟨p, rfl, hp⟩ := hu
    exact ⟨_, _, rfl, fun _ _ => rfl, run_mk hF hA hlim hp⟩
  | byte n c =>
    obtain ⟨p, b, rfl, hp, hc, _⟩ := hu
    exact ⟨_, _, rfl, fun _ _ => rfl, run_byte hF hA hlim hp hc hd⟩
  | del n =>
    obtain ⟨p, rfl, hp⟩ := hu
    exact ⟨_, _, rfl, fun _ _ => rfl, run_del hF hA hp⟩
  | ren n k =>
    obtain ⟨p, q, rfl, hp, hq⟩ := hu
    exact ⟨_, _, rfl, fun _ _ => rfl, run_ren hF hA hlim hp hq⟩
end Go.Proofs.YtcioomlhdaihkaaGreatDoor.K
