/-
  The name of an operation; its lines.
-/
import Derived.Test.YtfnmekmgjcjglaaDoorYMA
import Derived.Test.YtfnmekmgjcjglaaDoorYMV
import Derived.DeepKeys4
import Derived.Maps.OwnSet
import Derived.LoopTactic
namespace Go.Proofs.YtfnmekmgjcjglaaDoor.V
set_option linter.unusedVariables false
set_option linter.unusedSimpArgs false
set_option maxRecDepth 100000
open Go Go.RowKit Go.Maps Go.Sort
set_option maxRecDepth 100000
set_option linter.unusedVariables false
set_option linter.unusedSimpArgs false
set_option maxRecDepth 100000
set_option linter.unusedVariables false
set_option linter.unusedSimpArgs false
def restB (v : Vec) (n : Nat) : Bool := (List.range 8).all fun k => decide (k < n) || decide (v k = 0)
theorem restB_iff {v : Vec} {n : Nat} : restB v n = true ↔ ∀ k, k < 8 → n ≤ k → v k = 0 := by
  simp only [restB, List.all_eq_true, List.mem_range, Bool.or_eq_true, decide_eq_true_eq]
  exact ⟨fun h k hk hn => (h k hk).resolve_left (by omega), fun h k hk => by
    by_cases hn : k < n
    · exact .inl hn
    · exact .inr (h k hk (by omega))⟩
theorem restB_false {v : Vec} {n : Nat} (h : ¬ ∀ k, k < 8 → n ≤ k → v k = 0) : restB v n = false := by
  cases hb : restB v n
  · rfl
  · exact absurd (restB_iff.1 hb) h
def nameM (o : OpM) (n : Nat) : Bool := decide (o.r < n) && (decide (o.n ≠ 0) && (decide (o.dep o.r = o.n - 1) && restB o.dep n))
set_option maxHeartbeats 2000000 in
theorem op_nameFits (o : OpM) (hok : okO o) (n : Nat) (hn1 : 1 ≤ n) (hn8 : n ≤ 8) (w : World) :
    Calls Tryd.prog 42 #[.agg (oc o), .int .i64 (n : Int)] w
      fun e w' => e = .returned (.bool (nameM o n)) ∧ Below w.heap.size w w' := by
  have hr256 := hok.r
  have hn32 := hok.n
  have hd32 := hok.dep.1 o.r
  have HOK := hid hok
  clear hok
  have hw1 : IntKind.i64.wrap (o.r : Int) = (o.r : Int) := by simp [IntKind.wrap, IntKind.bits, IntKind.signed]; omega
  unfold nameM
  go_enter Tryd.func42, Tryd.ntmps42
  go_wp2
  refine wp_region_later_n (by kernel_rfl) (by kernel_rfl) ?_
  intro wd hwd
  have HW := hid (show Below w.heap.size w wd by rw [hwd]; exact ((Below.refl _ _).alloc (Nat.le_refl _) _))
  have hO : OpAt wd w.heap.size o := by rw [hwd]; exact opAt_new w o
  have f0 := fun p : Later wd.heap.size wd => (OpAt.keep hO p.ok).c0
  have f1 := fun p : Later wd.heap.size wd => (OpAt.keep hO p.ok).c1
  have HO := hid hO
  clear hwd hO
  by_cases h1 : o.r < n
  · have h1' : decide (n ≤ o.r) = false := decide_eq_false (by omega)
    have hk := fun p : Later wd.heap.size wd => (HO.out.keep p.ok).dep (show o.r < 8 by omega)
    by_cases h2 : o.n = 0
    · have h2' : ((o.n : Int) == 0) = true := by simp [h2]
      have H2 := hid h2
      clear h2
      repeat (go_big_quiet_step (fail))
      refine wpQuiet_nil ?_
      rintro _ ⟨p, rfl⟩
      have HP := hid p.ok
      generalize p.val = w2 at HP
      clear f0 f1 hk
      go_wp2
      go_ret
      exact ⟨by simp [H2.out], HW.out.trans (HP.out.mono HW.out.size)⟩
    · have h2' : ((o.n : Int) == 0) = false := by simp [h2]
      have hs : IntKind.u32.wrap ((o.n : Int) - 1) = ((o.n - 1 : Nat) : Int) := by rw [wrap_u32]; omega
      have H2 := hid h2
      clear h2
      generalize hm : o.n - 1 = m at hs ⊢
      have HM := hid hm
      clear hm
      by_cases h3 : o.dep o.r = m
      · have h3' : (((o.dep o.r : Nat) : Int) != (m : Int)) = false := by simp [h3]
        have H3 := hid h3
        clear h3
        repeat (go_big_quiet_step (fail))
        refine wpQuiet_nil ?_
        rintro _ ⟨p, rfl⟩
        have HP := hid p.ok
        generalize p.val = w2 at HP
        clear f0 f1 hk h3' h2' h1' hw1 hs
        have hO2 : OpAt w2 w.heap.size o := HO.out.keep HP.out
        have HB := hid (HW.out.trans (HP.out.mono HW.out.size))
        have HO2 := hid hO2
        clear hO2
        go_wp2
        go_loopw [5] (fun i wr => ∃ k : Nat, n ≤ k ∧ k ≤ 8 ∧ i = .int .i64 k ∧ OpAt wr w.heap.size o ∧ (∀ j, n ≤ j → j < k → o.dep j = 0) ∧ Below w.heap.size w wr) (fun i _ => 8 - (intOf i).toNat)
        case atStart => exact ⟨n, Nat.le_refl _, hn8, rfl, HO2.out, fun j hj hj' => absurd hj (by omega), HB.out⟩
        case round =>
          obtain ⟨k, hk1, hk, rfl, hx, hall, hB⟩ := hrel
          by_cases hlt : k < 8
          · have c0 := hx.dep hlt
            have HX := hid (And.intro hx hall)
            clear hx hall
            by_cases hle : o.dep k = 0
            · have c1 : (((o.dep k : Nat) : Int) != 0) = false := by simp [hle]
              have HL := hid hle
              clear hle
              go_wp2
              go_roundw
              case rel =>
                refine ⟨k + 1, by omega, by omega, by go_num, HX.out.1, fun j hj hj' => ?_, hB⟩
                by_cases hjk : j = k
                · rw [hjk]; exact HL.out
                · exact HX.out.2 j hj (by omega)
              case measure => simp [intOf]; omega
            · have c1 : (((o.dep k : Nat) : Int) != 0) = true := by simp [hle]
              have HL := hid hle
              clear hle
              go_wp2
              go_ret
              refine ⟨?_, hB⟩
              have : restB o.dep n = false := restB_false (fun h => HL.out (h k hlt hk1))
              rw [this]; simp
          · obtain rfl : k = 8 := by omega
            have HX := hid hall
            clear hall
            go_wp2
            go_ret
            refine ⟨?_, hB⟩
            have : restB o.dep n = true := restB_iff.2 (fun j hj hj' => HX.out j hj' hj)
            rw [this]
            simp [h1, H2.out, H3.out, HM.out]
      · have h3' : (((o.dep o.r : Nat) : Int) != (m : Int)) = true := by simp; omega
        have H3 := hid h3
        clear h3
        repeat (go_big_quiet_step (fail))
        refine wpQuiet_nil ?_
        rintro _ ⟨p, rfl⟩
        have HP := hid p.ok
        generalize p.val = w2 at HP
        clear f0 f1 hk
        go_wp2
        go_ret
        exact ⟨by rw [show decide (o.dep o.r = o.n - 1) = false from decide_eq_false (by rw [HM.out]; exact H3.out)]; simp, HW.out.trans (HP.out.mono HW.out.size)⟩
  · have h1' : decide (n ≤ o.r) = true := decide_eq_true (by omega)
    repeat (go_big_quiet_step (fail))
    refine wpQuiet_nil ?_
    rintro _ ⟨p, rfl⟩
    have HP := hid p.ok
    generalize p.val = w2 at HP
    clear f0 f1
    go_wp2
    go_ret
    exact ⟨by simp [h1], HW.out.trans (HP.out.mono HW.out.size)⟩
end Go.Proofs.YtfnmekmgjcjglaaDoor.V
namespace Go.Proofs.YtfnmekmgjcjglaaDoor.V
set_option linter.unusedVariables false
set_option linter.unusedSimpArgs false
set_option maxRecDepth 100000
open Go Go.RowKit Go.Maps
set_option maxRecDepth 100000
set_option linter.unusedVariables false
set_option linter.unusedSimpArgs false
set_option maxRecDepth 100000
set_option linter.unusedVariables false
set_option linter.unusedSimpArgs false
theorem laidOut : laidOutB Tryd.prog = true := by kernel_rfl
theorem dotRow : (46 : TypeId) < Tryd.prog.types.size := of_decide_eq_true (by kernel_rfl)
theorem dotCells : Tryd.prog.cellsOf 46 = 2 := by kernel_rfl
theorem dotWide : (match Tryd.prog.underlying 46 with | some (.array _ _) | some (.struct _) => true | _ => false) = true := by kernel_rfl
theorem dotKeyed : Keyed Tryd.prog 46 := Keyed.of_law (deep_law_laid laidOut (m := 2) (by omega) dotRow (by kernel_rfl) dotWide)
theorem dotKeyType : Tryd.prog.keyType 46 = true := by kernel_rfl
theorem cellsU8 : Tryd.prog.cellsOf 5 = 1 := by kernel_rfl
theorem cellsU32 : Tryd.prog.cellsOf 28 = 1 := by kernel_rfl
/-- A dot's value. -/
def dv (d : Dot) : Value := .agg #[.int .u8 (d.1 : Int), .int .u32 (d.2 : Int)]
/-- What a dot reads as, as a key. -/
def dk (d : Dot) : Lit := .string (keyBytes [.int .u8 (d.1 : Int), .int .u32 (d.2 : Int)])
theorem wf_u8 {n : Nat} (h : n < 256) : (Lit.int .u8 (n : Int)).wf = true := by simp [Lit.wf, IntKind.min, IntKind.max, IntKind.signed, IntKind.bits]; omega
theorem wf_u32 {n : Nat} (h : n < 4294967296) : (Lit.int .u32 (n : Int)).wf = true := by simp [Lit.wf, IntKind.min, IntKind.max, IntKind.signed, IntKind.bits]; omega
theorem nat8 {n : Int} (h : (Lit.int .u8 n).wf = true) : ∃ m : Nat, n = m ∧ m < 256 := by
  have hx : 0 ≤ n ∧ n ≤ 255 := by simpa [Lit.wf, IntKind.min, IntKind.max, IntKind.signed, IntKind.bits] using h
  exact ⟨n.toNat, by omega, by omega⟩
theorem nat32 {n : Int} (h : (Lit.int .u32 n).wf = true) : ∃ m : Nat, n = m ∧ m < 4294967296 := by
  have hx : 0 ≤ n ∧ n ≤ 4294967295 := by simpa [Lit.wf, IntKind.min, IntKind.max, IntKind.signed, IntKind.bits] using h
  exact ⟨n.toNat, by omega, by omega⟩
theorem keyLits_dot (D : Nat) (c0 c1 : Value) (ls : List Lit) : Tryd.prog.keyLits (D + 2) 46 [c0, c1] = some ls ↔ ∃ d : Dot, d.ok ∧ c0 = .int .u8 (d.1 : Int) ∧ c1 = .int .u32 (d.2 : Int) ∧ ls = [.int .u8 (d.1 : Int), .int .u32 (d.2 : Int)] := by
  have e0 : ∀ c, Tryd.prog.keyLits (D + 1) 5 [c] = match c with | .int q n => if q = .u8 ∧ (Lit.int .u8 n).wf = true then some [.int .u8 n] else none | _ => none := fun c => by
    unfold Program.keyLits
    rw [Tryd.underlying5]
    cases c <;> rfl
  have e1 : ∀ c, Tryd.prog.keyLits (D + 1) 28 [c] = match c with | .int q n => if q = .u32 ∧ (Lit.int .u32 n).wf = true then some [.int .u32 n] else none | _ => none := fun c => by
    unfold Program.keyLits
    rw [Tryd.underlying28]
    cases c <;> rfl
  unfold Program.keyLits
  rw [Tryd.underlying46]
  simp [dotCells, cellsU8, cellsU32, e0, e1]
  constructor
  · intro h
    cases c0 <;> try (simp at h; done)
    rename_i q n
    by_cases h0 : q = .u8 ∧ (Lit.int .u8 n).wf = true
    · simp only [if_pos h0] at h
      cases c1 <;> try (simp at h; done)
      rename_i q' n'
      by_cases h1 : q' = .u32 ∧ (Lit.int .u32 n').wf = true
      · simp only [if_pos h1] at h
        obtain ⟨rfl, w0⟩ := h0
        obtain ⟨rfl, w1⟩ := h1
        obtain ⟨r, rfl, hr⟩ := nat8 w0
        obtain ⟨m, rfl, hm⟩ := nat32 w1
        exact ⟨r, m, ⟨hr, hm⟩, rfl, rfl, by simpa using h.symm⟩
      · simp [if_neg h1] at h
    · simp [if_neg h0] at h
  · rintro ⟨a, b, ⟨ha, hb⟩, rfl, rfl, rfl⟩
    simp [wf_u8 ha, wf_u32 hb]
theorem typesSize : ∃ D, Tryd.prog.types.size + 1 = D + 2 := ⟨Tryd.prog.types.size - 1, by have h : (46 : Nat) < Tryd.prog.types.size := dotRow; omega⟩
theorem keyOf_dot {d : Dot} (h : d.ok) : keyOf Tryd.prog 46 (dv d) = some (dk d) := by
  obtain ⟨D, hD⟩ := typesSize
  unfold keyOf dv
  rw [Tryd.underlying46]
  have hf : (Value.agg #[.int .u8 (d.1 : Int), .int .u32 (d.2 : Int)]).formed Tryd.prog 46 = true := by simp [Value.formed, Tryd.underlying46, dotCells]
  simp only [dotKeyType, hf, Bool.and_self, if_true, hD]
  show (Tryd.prog.keyLits (D + 2) 46 [.int .u8 (d.1 : Int), .int .u32 (d.2 : Int)]).map _ = _
  rw [(keyLits_dot D _ _ _).2 ⟨d, h, rfl, rfl, rfl⟩]
  rfl
theorem keyOf_inv {v : Value} {kl : Lit} (h : keyOf Tryd.prog 46 v = some kl) : ∃ d : Dot, d.ok ∧ v = dv d ∧ kl = dk d := by
  obtain ⟨D, hD⟩ := typesSize
  unfold keyOf at h
  rw [Tryd.underlying46] at h
  simp only [dotKeyType, Bool.true_and] at h
  by_cases hf : v.formed Tryd.prog 46 = true
  · rw [if_pos hf, hD] at h
    obtain ⟨ls, h1, h2⟩ := Option.map_eq_some_iff.1 h
    cases v <;> try (simp [Value.formed, Tryd.underlying46] at hf; done)
    rename_i cs
    simp [Value.formed, Tryd.underlying46, dotCells] at hf
    obtain ⟨l⟩ := cs
    match l, hf with
    | [c0, c1], _ =>
      obtain ⟨d, hd, rfl, rfl, rfl⟩ := (keyLits_dot D c0 c1 ls).1 h1
      exact ⟨d, hd, rfl, h2.symm⟩
  · rw [if_neg hf] at h
    cases h
theorem dv_inj {a b : Dot} (h : dv a = dv b) : a = b := by
  obtain ⟨r, n⟩ := a
  obtain ⟨s, m⟩ := b
  simp [dv] at h
  obtain ⟨h1, h2⟩ := h
  have e1 : r = s := by omega
  have e2 : n = m := by omega
  rw [e1, e2]
theorem dk_inj {a b : Dot} (ha : a.ok) (hb : b.ok) (h : dk a = dk b) : a = b :=
  dv_inj (dotKeyed.inj (keyOf_dot ha) (h ▸ keyOf_dot hb))
theorem dk_key {a : Dot} (ha : a.ok) : WideAt.IsKeyLit (dk a) := dotKeyed.key (keyOf_dot ha)
/-! ### sets -/
abbrev Dat := DataW Unit
/-- A map's keys are just these dots. -/
def KeysAre (D : Dat) (l : List Dot) : Prop := IsMap D ∧ (∀ d ∈ l, d.ok) ∧ ∀ d : Dot, d.ok → (Maps.has D (dk d) = true ↔ d ∈ l)
theorem keysAre_nil : KeysAre (.map []) [] := ⟨isMap_empty, by simp, fun d _ => by simp [Maps.has]⟩
theorem KeysAre.put {D : Dat} {l : List Dot} (h : KeysAre D l) {x : Dot} (hx : x.ok) (z : Dat) : KeysAre (D.put (dk x) z) (l ++ [x]) := by
  refine ⟨h.1.put _ _, fun d hd => ?_, fun d hd => ?_⟩
  · rcases List.mem_append.1 hd with hd | hd
    · exact h.2.1 d hd
    · simp at hd; subst hd; exact hx
  · by_cases e : d = x
    · subst e; simp [has_put_same h.1 (dk_key hx)]
    · rw [has_put_other (fun e' => e (dk_inj hd hx e'))]
      simp [h.2.2 d hd, e]
/-- Block b is a map whose keys are just the dots of l. -/
def SetAt (w : World) (b : Nat) (l : List Dot) : Prop := ∃ (n : Nat) (D : Dat), w.ownsMap Tryd.prog 46 unitElem b n D ∧ n ≤ l.length ∧ KeysAre D l
theorem SetAt.lt {w : World} {b : Nat} {l : List Dot} (h : SetAt w b l) : b < w.heap.size := by obtain ⟨n, D, h, _⟩ := h; exact h.lt
theorem SetAt.keep {w w' : World} {b : Nat} {l : List Dot} (h : SetAt w b l) {B : Nat} (hB : Below B w w') (hb : b < B) : SetAt w' b l := by
  obtain ⟨n, D, ⟨es, clock, h1, h2⟩, r⟩ := h
  exact ⟨n, D, ⟨es, clock, (hB.block b hb).trans h1, h2⟩, r⟩
theorem SetAt.grown {w w' : World} {b : Nat} {l : List Dot} (h : SetAt w b l) {row : Option Nat} (hg : w.grownBy w' row) (hne : some b ≠ row) : SetAt w' b l := by
  obtain ⟨n, D, h, r⟩ := h
  exact ⟨n, D, h.kept hg hne, r⟩
end Go.Proofs.YtfnmekmgjcjglaaDoor.V
namespace Go.Proofs.YtfnmekmgjcjglaaDoor.V
set_option linter.unusedVariables false
set_option linter.unusedSimpArgs false
set_option maxRecDepth 100000
open Go Go.RowKit Go.Maps
set_option maxRecDepth 100000
set_option linter.unusedVariables false
set_option linter.unusedSimpArgs false
set_option maxRecDepth 100000
set_option linter.unusedVariables false
set_option linter.unusedSimpArgs false
def linesM (o : OpM) (l : List Claim) (h : Nat) : Bool := if h &&& 1024 = 0 then decide (l.length = 0) else okLB o.dep l
theorem zeroUnit (w : World) : (zeroValue 117).run Tryd.prog w = .ok (.agg #[]) w := Tryd.zeroValue117 w
theorem SetAt.store {w1 : World} {b n : Nat} {D : Dat} {l : List Dot} (hn : n ≤ l.length) (hk : KeysAre D l) {x : Dot} (hx : x.ok) (h : w1.ownsMap Tryd.prog 46 unitElem b (n + 1) (D.put (dk x) (.agg []))) : SetAt w1 b (l ++ [x]) :=
  ⟨_, _, h, by simp; omega, hk.put (x := x) hx _⟩
theorem claim_box (wr : World) (x : Claim) (o' : Obj) : ((wr.alloc (.cells #[.int .u8 (x.1.1 : Int), .int .u32 (x.1.2 : Int), .int .u8 (x.2.1 : Int), .int .u32 (x.2.2 : Int)] 94)).alloc o').heap[wr.heap.size]? = some (.cells (cl x) 94 (0, 0)) := heap_al (heap_alloc_last' _ _) _
theorem cells4 {w : World} {b : Nat} {x : Claim} {t : TypeId} {fr : Nat × Nat} (h : w.heap[b]? = some (.cells (cl x) t fr)) :
    w.cell? ⟨b, 0, none⟩ = some (.int .u8 (x.1.1 : Int)) ∧ w.cell? ⟨b, 1, none⟩ = some (.int .u32 (x.1.2 : Int)) ∧ w.cell? ⟨b, 2, none⟩ = some (.int .u8 (x.2.1 : Int)) ∧ w.cell? ⟨b, 3, none⟩ = some (.int .u32 (x.2.2 : Int)) := by
  have e : ∀ k, w.cell? ⟨b, k, none⟩ = (cl x)[k]? := fun k => by simp [World.cell?, h]
  exact ⟨(e 0).trans rfl, (e 1).trans rfl, (e 2).trans rfl, (e 3).trans rfl⟩
theorem owns_keepM {w w' : World} {B b n : Nat} {D : Dat} (h : w.ownsMap Tryd.prog 46 unitElem b n D) (hB : Below B w w') (hb : b < B) : w'.ownsMap Tryd.prog 46 unitElem b n D := by
  obtain ⟨es, clock, h1, h2⟩ := h
  exact ⟨es, clock, (hB.block b hb).trans h1, h2⟩
theorem OpAt.al2 {w : World} {b : Nat} {o : OpM} (h : OpAt w b o) (x y : Obj) : OpAt ((w.alloc x).alloc y) b o := (h.al x).al y
set_option maxHeartbeats 1000000 in
theorem op_linesFit (o : OpM) (l : List Claim) (h : Nat) (hh : h < 65536) (w : World) (hv : ClaimsV w o.lv l) :
    Calls Tryd.prog 47 #[.agg (oc o), .int .u16 (h : Int)] w
      fun e w' => e = .returned (.bool (linesM o l h)) ∧ Below w.heap.size w w' := by
  have b1 : bits .and .u16 (h : Int) 1024 = ((h &&& 1024 : Nat) : Int) := and_u16 h 1024 hh (by omega)
  obtain ⟨ad, len, cap, hlv, hI⟩ := hv
  have g28 : (oc o)[28]? = some (.slice ad len cap) := by rw [← hlv]; rfl
  have hlen := hI.1
  unfold linesM
  generalize h &&& 1024 = x1 at b1 ⊢
  have HE := hid (below_al w (.cells (oc o) 50))
  by_cases h0 : x1 = 0
  · rw [if_pos h0, hlen]
    subst h0
    have HI := hid hI
    clear hI hlv hlen
    by_cases hl : len = 0
    · rw [decide_eq_true hl]
      subst hl
      go_enter Tryd.func47, Tryd.ntmps47
      go_wp2
      go_ret
      exact ⟨rfl, HE.out⟩
    · rw [decide_eq_false hl]
      have hl' : ((len : Int) == 0) = false := by simp [hl]
      clear hl
      go_enter Tryd.func47, Tryd.ntmps47
      go_wp2
      go_ret
      exact ⟨rfl, HE.out⟩
  · rw [if_neg h0]
    have h1 : ((x1 : Int) == 0) = false := by simp [h0]
    clear h0
    by_cases hl1 : 1 ≤ len
    · have t1 : decide ((len : Int) < 1) = false := decide_eq_false (by omega)
      by_cases hl16 : len ≤ 16
      · have t2 : decide (16 < (len : Int)) = false := decide_eq_false (by omega)
        have hcap : len ≤ 9223372036854775807 := by omega
        have hmm := @run_makeMap Tryd.prog
        have HI := hid hI
        have HL := hid (And.intro hlen (And.intro hl1 hl16))
        clear hI hlv hlen hl1
        go_enter Tryd.func47, Tryd.ntmps47
        go_wp2
        have hlw := HE.out.size
        go_loopw [31] (fun i wr => ∃ k : Nat, k ≤ len ∧ i = .int .i64 k ∧ OkTo o.dep l k ∧ SetAt wr (w.heap.size + 1) ((l.take k).map Prod.fst) ∧ OpAt wr w.heap.size o ∧ Below w.heap.size w wr) (fun i _ => len - (intOf i).toNat)
        case atStart => exact ⟨0, by omega, rfl, OkTo.zero _ _, ⟨0, _, by have h := World.ownsMap_made (P := Tryd.prog) (k := 46) (R := unitElem (H := Unit)) (w.alloc (.cells (oc o) 50)); simpa using h, by simp, keysAre_nil⟩, (opAt_new w o).al _, below_al2 _ _ _⟩
        case round =>
          obtain ⟨k, hk, rfl, hto, hset, hop, hBr⟩ := hrel
          by_cases hlt : k < len
          · cases ad with
            | none => have := HI.out.none_len; omega
            | some ad =>
              obtain ⟨x, B, O, sp, hx, hxo, hA, c0, c1, c2, c3⟩ := (HI.out.keep hBr).at k hlt
              have hsl := hset.lt
              obtain ⟨nn, D, hown, hnn, hK⟩ := hset
              have hnl : nn < 1000001 := by rw [List.length_map, List.length_take] at hnn; omega
              have hkey := keyOf_dot hxo.1
              have hmem := hK.2.2 x.1 hxo.1
              have k1 := fun W => op_Covers o x.1 W
              have k2 := fun W => op_Covers o x.2 W
              have HP := hid hop
              have HX := hid (And.intro hx (And.intro hxo hto))
              have HO := hid (And.intro hown (And.intro hnn hK))
              have HKY := hid hkey
              have HSL := hid hsl
              clear hop hx hxo hto hown hnn hK hkey hsl
              by_cases hm : x.1 ∈ (l.take k).map Prod.fst
              · have hhas : Maps.has D (dk x.1) = true := hmem.2 hm
                clear hmem k1 k2
                have HM := hid hm
                clear hm
                go_wp2_with (first
                  | (at_lookup; refine wpList_lookup_own_unit _ rfl _ _ 116 rfl 46 117 dotKeyed Tryd.underlying116 (zeroUnit _) (w.heap.size + 1) nn D rfl (HO.out.1.alloc _) _ _ rfl HKY.out ?_)
                  | go_in)
                go_ret
                exact ⟨by rw [okLB_false (not_okL_dup HX.out.1 HM.out)]; rfl, hBr.trans ((below_al2 wr _ _).mono hBr.size)⟩
              · have hhas : Maps.has D (dk x.1) = false := by
                  cases hb : Maps.has D (dk x.1)
                  · rfl
                  · exact absurd (hmem.1 hb) hm
                have HM := hid hm
                clear hm hmem
                cases hc1 : covB o.dep x.1
                · rw [hc1] at k1
                  have HC1 := hid hc1
                  clear hc1 k2
                  go_wp2_with (first
                    | (at_lookup; refine wpList_lookup_own_unit _ rfl _ _ 116 rfl 46 117 dotKeyed Tryd.underlying116 (zeroUnit _) (w.heap.size + 1) nn D rfl (HO.out.1.alloc _) _ _ rfl HKY.out ?_)
                    | (refine load_op rfl _ rfl w.heap.size rfl _ (HP.out.al2 _ _) ?_)
                    | (go_at_call 65; (with_reducible refine (k1 _).mono ?_); rintro e w2 ⟨rfl, hB2⟩; have HP2 := hid ((HP.out.al2 _ _).keep hB2); have HX2 := hid (heap_keep (claim_box wr x _) hB2); obtain ⟨d0, d1, d2, d3⟩ := cells4 HX2.out; have HB2 := hid (below_next (below_al2 wr _ _) hB2); clear hB2)
                    | go_in)
                  go_ret
                  exact ⟨by rw [okLB_false (not_okL_cov HX.out.1 (.inl HC1.out))]; rfl, hBr.trans (HB2.out.mono hBr.size)⟩
                · rw [hc1] at k1
                  have HC1 := hid hc1
                  clear hc1
                  cases hc2 : covB o.dep x.2
                  · rw [hc2] at k2
                    have HC2 := hid hc2
                    clear hc2
                    go_wp2_with (first
                      | (at_lookup; refine wpList_lookup_own_unit _ rfl _ _ 116 rfl 46 117 dotKeyed Tryd.underlying116 (zeroUnit _) (w.heap.size + 1) nn D rfl (HO.out.1.alloc _) _ _ rfl HKY.out ?_)
                      | (refine load_op rfl _ rfl w.heap.size rfl _ (HP.out.al2 _ _) ?_)
                      | (refine load_op rfl _ rfl w.heap.size rfl _ (HP2.out) ?_)
                      | (go_at_call 65; (with_reducible refine (k1 _).mono ?_); rintro e w2 ⟨rfl, hB2⟩; have HP2 := hid ((HP.out.al2 _ _).keep hB2); have HX2 := hid (heap_keep (claim_box wr x _) hB2); obtain ⟨d0, d1, d2, d3⟩ := cells4 HX2.out; have HB2 := hid (below_next (below_al2 wr _ _) hB2); clear hB2)
                      | (go_at_call 65; (with_reducible refine (k2 _).mono ?_); rintro e w3 ⟨rfl, hB3⟩; have HB3 := hid (below_next HB2.out hB3); have HX3 := hid (heap_keep HX2.out hB3); have HP3 := hid (HP2.out.keep hB3); obtain ⟨f0, f1, f2, f3⟩ := cells4 HX3.out; clear hB3)
                      | go_in)
                    go_ret
                    exact ⟨by rw [okLB_false (not_okL_cov HX.out.1 (.inr HC2.out))]; rfl, hBr.trans (HB3.out.mono hBr.size)⟩
                  · rw [hc2] at k2
                    have HC2 := hid hc2
                    clear hc2
                    go_wp2_with (first
                      | (at_lookup; refine wpList_lookup_own_unit _ rfl _ _ 116 rfl 46 117 dotKeyed Tryd.underlying116 (zeroUnit _) (w.heap.size + 1) nn D rfl (HO.out.1.alloc _) _ _ rfl HKY.out ?_)
                      | (refine load_op rfl _ rfl w.heap.size rfl _ (HP.out.al2 _ _) ?_)
                      | (refine load_op rfl _ rfl w.heap.size rfl _ (HP2.out) ?_)
                      | (go_at_call 65; (with_reducible refine (k1 _).mono ?_); rintro e w2 ⟨rfl, hB2⟩; have HP2 := hid ((HP.out.al2 _ _).keep hB2); have HX2 := hid (heap_keep (claim_box wr x _) hB2); obtain ⟨d0, d1, d2, d3⟩ := cells4 HX2.out; have HB2 := hid (below_next (below_al2 wr _ _) hB2); clear hB2)
                      | (go_at_call 65; (with_reducible refine (k2 _).mono ?_); rintro e w3 ⟨rfl, hB3⟩; have HB3 := hid (below_next HB2.out hB3); have HX3 := hid (heap_keep HX2.out hB3); have HP3 := hid (HP2.out.keep hB3); obtain ⟨f0, f1, f2, f3⟩ := cells4 HX3.out; clear hB3)
                      | (at_mapUpdate; refine wpList_mapUpdate_own _ rfl _ _ _ 116 rfl 46 117 dotKeyed Tryd.underlying116 (unitElem (H := Unit)) (w.heap.size + 1) nn D rfl (owns_keepM HO.out.1 HB3.out HSL.out) (by unfold maxLen; omega) _ _ _ rfl rfl HKY.out _ [] unitElem_mk ?_; intro w4 hown4 hgrow4; have HG := hid (And.intro hown4 hgrow4); clear hown4 hgrow4)
                      | go_in)
                    go_roundw
                    case rel =>
                      have hlw3 : w.heap.size + 1 < w3.heap.size := Nat.lt_of_lt_of_le HSL.out HB3.out.size
                      refine ⟨k + 1, by omega, by go_num, HX.out.2.2.succ HX.out.1 HC1.out HC2.out HM.out, ?_, ?_, ?_⟩
                      · rw [← take_snocC HX.out.1, List.map_append]
                        exact SetAt.store HO.out.2.1 HO.out.2.2 HX.out.2.1.1 HG.out.1
                      · exact (HG.out.2.block _ (by omega) (by simp)).trans HP3.out
                      · exact (hBr.trans (HB3.out.mono hBr.size)).grown HG.out.2 (by omega) (fun k e => by cases e; omega)
                    case measure => simp [intOf]; omega
          · obtain rfl : k = len := by omega
            have HT := hid hto
            clear hto hset hop
            go_wp2
            go_ret
            exact ⟨by rw [okLB_true (okL_of (by rw [HL.out.1]; omega) (by rw [HL.out.1]; exact HL.out.2.1) (by rw [HL.out.1]; exact HL.out.2.2) HT.out)]; rfl, hBr⟩
      · rw [okLB_false (fun hk => hl16 (by rw [← hlen]; exact hk.2.1))]
        have t2 : decide (16 < (len : Int)) = true := decide_eq_true (by omega)
        have HI := hid hI
        clear hI hlv hlen hl16 hl1
        go_enter Tryd.func47, Tryd.ntmps47
        go_wp2
        go_ret
        exact ⟨rfl, HE.out⟩
    · rw [okLB_false (fun hk => hl1 (by rw [← hlen]; exact hk.1))]
      have t1 : decide ((len : Int) < 1) = true := decide_eq_true (by omega)
      have HI := hid hI
      clear hI hlv hlen hl1
      go_enter Tryd.func47, Tryd.ntmps47
      go_wp2
      go_ret
      exact ⟨rfl, HE.out⟩
end Go.Proofs.YtfnmekmgjcjglaaDoor.V
