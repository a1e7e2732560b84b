/-
  The document's Find, there, Cut.
-/
import Derived.Test.YtfnmekmgjcjglaaDoorYMG
import Derived.Test.YtfnmekmgjcjglaaDoorYMB
namespace Go.Proofs.YtfnmekmgjcjglaaDoor.V
set_option linter.unusedVariables false
set_option linter.unusedSimpArgs false
set_option maxRecDepth 100000
open Go Go.RowKit Go.Maps Wire
set_option maxRecDepth 100000
set_option linter.unusedVariables false
set_option linter.unusedSimpArgs false
/-! ### How often a dot stands in a row -/
def thereM (l : List OC) (d : Dot) : Nat := (l.filter fun x => dt x == d).length
end Go.Proofs.YtfnmekmgjcjglaaDoor.V
namespace Go.Proofs.YtfnmekmgjcjglaaDoor.V
set_option linter.unusedVariables false
set_option linter.unusedSimpArgs false
set_option maxRecDepth 100000
open Go Go.RowKit Go.Maps Wire
set_option maxRecDepth 100000
set_option linter.unusedVariables false
set_option linter.unusedSimpArgs false
theorem idx_step {l : List OC} {k : Nat} {x : OC} (hx : l[k]? = some x) (d : Dot) : idxD (l.take (k + 1)) d = if idxD (l.take k) d = -1 then (if dt x = d then (k : Int) else -1) else idxD (l.take k) d := by
  have hk : k < l.length := (List.getElem?_eq_some_iff.1 hx).1
  unfold idxD
  rw [take_snocO hx, List.findIdx?_append]
  cases h : (l.take k).findIdx? (fun x => dt x == d) with
  | some i =>
    rw [if_neg (by show ¬ (i : Int) = -1; omega)]
    rfl
  | none =>
    rw [if_pos rfl]
    by_cases e : dt x = d
    · have e' : (dt x == d) = true := by simpa using e
      rw [if_pos e]
      simp [List.findIdx?_cons, e', List.length_take, Nat.min_eq_left (Nat.le_of_lt hk)]
    · have e' : (dt x == d) = false := by simpa using e
      rw [if_neg e]
      simp [List.findIdx?_cons, e']
theorem idx_mem {l : List OC} {d : Dot} : idxD l d ≠ -1 ↔ d ∈ l.map dt := by
  unfold idxD
  cases h : l.findIdx? (fun x => dt x == d) with
  | some i =>
    obtain ⟨hk, h1, _⟩ := List.findIdx?_eq_some_iff_getElem.1 h
    refine ⟨fun _ => List.mem_map.2 ⟨l[i], List.getElem_mem _, by simpa using h1⟩, fun _ => by show (i : Int) ≠ -1; omega⟩
  | none =>
    rw [List.findIdx?_eq_none_iff] at h
    refine ⟨fun e => absurd rfl e, fun hm => ?_⟩
    obtain ⟨x, hx, e⟩ := List.mem_map.1 hm
    have := h x hx
    simp [e] at this
abbrev i64L (n : Int) : Dat := .lit (.int .i64 n)
/-- What a map of places reads as. -/
structure PlacesAre (D : Dat) (l : List OC) : Prop where
  has : ∀ d : Dot, d.ok → (Maps.has D (dk d) = true ↔ idxD l d ≠ -1)
  at_ : ∀ d : Dot, d.ok → D.atKey (dk d) (i64L 0) = i64L (if idxD l d = -1 then 0 else idxD l d)
  le : Maps.size D ≤ l.length
  all : Maps.size D = l.length ↔ (l.map dt).Nodup
theorem places_nil : PlacesAre (.map []) [] := ⟨fun d _ => by simp [Maps.has, idxD], fun d _ => rfl, Nat.le_refl _, by simp [Maps.size]⟩
theorem nodup_step {l : List OC} {k : Nat} {x : OC} (hx : l[k]? = some x) : ((l.take (k + 1)).map dt).Nodup ↔ ((l.take k).map dt).Nodup ∧ dt x ∉ (l.take k).map dt := by
  rw [take_snocO hx, List.map_append, List.nodup_append]
  simp only [List.map_cons, List.map_nil, List.nodup_cons, List.not_mem_nil, not_false_eq_true, List.nodup_nil, and_self, true_and, List.mem_singleton]
  constructor
  · rintro ⟨h1, h2⟩
    exact ⟨h1, fun hm => h2 _ hm _ rfl rfl⟩
  · rintro ⟨h1, h2⟩
    exact ⟨h1, fun a ha b hb e => h2 (by rw [← hb, ← e]; exact ha)⟩
theorem PlacesAre.old {D : Dat} {l : List OC} {k : Nat} {x : OC} (h : PlacesAre D (l.take k)) (hx : l[k]? = some x) (hm : idxD (l.take k) (dt x) ≠ -1) : PlacesAre D (l.take (k + 1)) := by
  have hk : k < l.length := (List.getElem?_eq_some_iff.1 hx).1
  have e : ∀ d, idxD (l.take (k + 1)) d = idxD (l.take k) d := fun d => by
    rw [idx_step hx]
    split
    · next h0 =>
      rw [if_neg (fun e => hm (by rw [e]; exact h0)), h0]
    · rfl
  have hle := h.le
  rw [List.length_take] at hle
  refine ⟨fun d hd => by rw [e]; exact h.has d hd, fun d hd => by rw [e]; exact h.at_ d hd, by rw [List.length_take]; omega, ?_⟩
  rw [List.length_take, nodup_step hx]
  exact ⟨fun h' => by omega, fun h' => absurd (idx_mem.1 hm) h'.2⟩
theorem PlacesAre.new {D : Dat} {l : List OC} {k : Nat} {x : OC} (h : PlacesAre D (l.take k)) (hT : Tidy D) (hx : l[k]? = some x) (hok : (dt x).ok) (hm : idxD (l.take k) (dt x) = -1) : PlacesAre (D.put (dk (dt x)) (i64L k)) (l.take (k + 1)) := by
  have hk : k < l.length := (List.getElem?_eq_some_iff.1 hx).1
  have hno : Maps.has D (dk (dt x)) = false := by
    cases hh : Maps.has D (dk (dt x))
    · rfl
    · exact absurd hm ((h.has _ hok).1 hh)
  have hle := h.le
  have hall := h.all
  rw [List.length_take] at hle hall
  refine ⟨fun d hd => ?_, fun d hd => ?_, ?_, ?_⟩
  · by_cases e : dt x = d
    · subst e
      rw [has_put_same hT.isMap (dk_key hok), idx_step hx, if_pos hm, if_pos rfl]
      exact ⟨fun _ => by omega, fun _ => rfl⟩
    · rw [has_put_other (fun e' => e (dk_inj hd hok e').symm), idx_step hx, if_neg e, h.has d hd]
      split
      · next h0 => rw [h0]
      · rfl
  · by_cases e : dt x = d
    · subst e
      rw [atKey_put_same hT.isMap (dk_key hok), idx_step hx, if_pos hm, if_pos rfl, if_neg (by omega)]
    · rw [atKey_put_other (fun e' => e (dk_inj hd hok e').symm), h.at_ d hd, idx_step hx, if_neg e]
      split
      · next h0 => first | rfl | rw [if_pos rfl] | rw [h0]; rfl
      · next h0 => first | rfl | rw [if_neg h0]
  · rw [size_put hT, hno, List.length_take]
    simp; omega
  · rw [size_put hT, hno, List.length_take, nodup_step hx]
    simp only [Bool.false_eq_true, if_false]
    have hnm : dt x ∉ (l.take k).map dt := fun hmm => idx_mem.2 hmm hm
    constructor
    · intro h'
      exact ⟨hall.1 (by omega), hnm⟩
    · intro h'
      have := hall.2 h'.1
      omega
/-- Block b is a map of the places of l. -/
def PlacesAt (w : World) (b : Nat) (l : List OC) : Prop := ∃ (n : Nat) (D : Dat), w.ownsMap Tryd.prog 46 (plainElem Tryd.prog 3) b n D ∧ n ≤ l.length ∧ PlacesAre D l
theorem PlacesAt.lt {w : World} {b : Nat} {l : List OC} (h : PlacesAt w b l) : b < w.heap.size := by obtain ⟨n, D, h, _⟩ := h; exact h.lt
theorem PlacesAt.keep {w w' : World} {b : Nat} {l : List OC} (h : PlacesAt w b l) (hB : Below w.heap.size w w') : PlacesAt w' b l := by
  have hlt := h.lt
  obtain ⟨n, D, ⟨es, clock, h1, h2⟩, r⟩ := h
  exact ⟨n, D, ⟨es, clock, (hB.block b hlt).trans h1, h2⟩, r⟩
theorem OpIn.dok {o : OpM} (h : okO o) : Dot.ok (o.r, o.n) := ⟨h.r, h.n⟩
theorem make_places (n : Int) (w : World) : (Instr.makeMap 78 (some (.int .i64 n))).run Tryd.prog w = .ok (.map (some w.heap.size)) (w.alloc (.map #[] 0)) := by
  unfold Instr.makeMap
  simp only [Sem.run_bind, run_underlying Tryd.underlying78, Result.andThen_ok]
  rfl
set_option maxHeartbeats 400000 in
theorem places_Of (v : Value) (l : List OC) (W0 : World) (hv : OpsV W0 v l) (hl : l.length ≤ 100000) :
    Calls Tryd.prog 39 #[v] W0 fun e w' => ∃ b, e = .returned (.map (some b)) ∧ W0.heap.size ≤ b ∧ PlacesAt w' b l ∧ Below W0.heap.size W0 w' := by
  obtain ⟨a, n, cp, rfl, hI⟩ := hv
  have HN := hid (show n = l.length from hI.1.symm)
  have hm : n ≤ 9223372036854775807 := Nat.le_trans hI.2.1 hI.2.2.1
  have HI := hid hI
  have HL := hid hl
  clear hI hl
  have hmm := make_places
  go_enter Tryd.func39, Tryd.ntmps39
  go_wp2
  go_loopw [13] (fun i wr => ∃ k : Nat, k ≤ n ∧ i = .int .i64 k ∧ PlacesAt wr W0.heap.size (l.take k) ∧ Below W0.heap.size W0 wr) (fun i _ => n - (intOf i).toNat)
  case atStart => exact ⟨0, by omega, rfl, ⟨0, _, World.ownsMap_made W0 Tryd.prog 46 (plainElem Tryd.prog 3), by simp, by rw [List.take_zero]; exact places_nil⟩, (Below.refl _ _).alloc (Nat.le_refl _) _⟩
  case round =>
    obtain ⟨k, hk, rfl, hp, hB⟩ := hrel
    by_cases hlt : k < n
    · cases a with
      | none => have := HI.out.none_len; omega
      | some ad =>
        obtain ⟨o, cl', hx, hok, hcl, hin⟩ := (HI.out.keep hB).at k hlt
        have hpl := hp.lt
        obtain ⟨nn, D, hown, hnn, hK⟩ := hp
        have hnl : nn < 1000001 := by
          rw [List.length_take] at hnn
          have := HL.out
          omega
        have hkey := keyOf_dot (OpIn.dok hok)
        have HX := hid (And.intro hx (And.intro hin (And.intro hok hB)))
        have HO := hid (And.intro hown (And.intro hnn hK))
        have HKY := hid hkey
        have HSL := hid hpl
        have hone := hcl.oneCell
        have h1 : (k : Int) < (n : Int) := by omega
        clear hx hcl hin hok hown hnn hK hkey hpl hB
        have hki : (Lit.int IntKind.i64 (k : Int)).wf = true := by simp [Lit.wf, IntKind.min, IntKind.max, IntKind.signed, IntKind.bits]; omega
        go_upto_region 5 with (first
          | (refine load_opIn _ rfl rfl (ad.add (k * 29)) rfl o HX.out.2.1 ?_)
          | (refine wpList_store_row rfl _ _ _ rfl wr.heap.size (oc o) rfl rfl 50 (oc zeroO) ?_ (opSize _) rfl (oneO _ hone) ?_; (focus exact heap_alloc_last' _ _); rw [World.setRow_alloc_new]))
        refine gen_code (fun W => OpAt W wr.heap.size o ∧ W.ownsMap Tryd.prog 46 (plainElem Tryd.prog 3) W0.heap.size nn D ∧ Below wr.heap.size wr W) ⟨opAt_new _ _, HO.out.1.alloc _, below_al _ _⟩ ?_
        rintro W1 ⟨g1, g2, g4⟩
        have c0 := g1.c0
        have c1 := g1.c1
        have HG := hid (And.intro g1 (And.intro g2 g4))
        clear g1 g2 g4
        have hhas := HO.out.2.2.has _ (OpIn.dok HX.out.2.2.1)
        by_cases hm' : idxD (l.take k) (o.r, o.n) = -1
        · have hf : Maps.has D (dk (o.r, o.n)) = false := by
            cases hb : Maps.has D (dk (o.r, o.n))
            · rfl
            · exact absurd hm' (hhas.1 hb)
          have HM := hid hm'
          clear hhas hm'
          go_wp2_with (first
            | (at_lookup; refine wpList_lookup_own_ok_int _ rfl _ _ 78 rfl 46 3 .i64 dotKeyed Tryd.underlying78 Tryd.underlying3 (Tryd.zeroValue3 _) W0.heap.size nn D rfl HG.out.2.1 _ _ rfl HKY.out ?_; intro c hc hwc; clear hc hwc)
            | (at_mapUpdate; refine wpList_mapUpdate_own _ rfl _ _ _ 78 rfl 46 3 dotKeyed Tryd.underlying78 (plainElem (H := Unit) Tryd.prog 3) W0.heap.size nn D rfl HG.out.2.1 (by unfold maxLen; omega) _ _ _ rfl rfl HKY.out (i64L k) [] (plainElem_int Tryd.underlying3 hki) ?_; intro w4 hown4 hgrow4; have HG4 := hid (And.intro hown4 hgrow4); clear hown4 hgrow4)
            | go_in)
          go_roundw
          case rel =>
            refine ⟨k + 1, by omega, by go_num, ⟨nn + 1, _, HG4.out.1, ?_, PlacesAre.new HO.out.2.2 (HO.out.1.tidy dotKeyed) HX.out.1 (OpIn.dok HX.out.2.2.1) HM.out⟩, ?_⟩
            · have := HO.out.2.1
              have hk' := (List.getElem?_eq_some_iff.1 HX.out.1).1
              rw [List.length_take] at this ⊢
              omega
            · exact (below_next HX.out.2.2.2 HG.out.2.2).grown HG4.out.2 (by have := HX.out.2.2.2.size; have := HG.out.2.2.size; omega) (fun k e => by cases e; exact Nat.le_refl _)
          case measure => exact meas1 hlt
        · have hf : Maps.has D (dk (o.r, o.n)) = true := hhas.2 hm'
          have HM := hid hm'
          clear hhas hm'
          go_wp2_with (first
            | (at_lookup; refine wpList_lookup_own_ok_int _ rfl _ _ 78 rfl 46 3 .i64 dotKeyed Tryd.underlying78 Tryd.underlying3 (Tryd.zeroValue3 _) W0.heap.size nn D rfl HG.out.2.1 _ _ rfl HKY.out ?_; intro c hc hwc; clear hc hwc)
            | go_in)
          go_roundw
          case rel =>
            refine ⟨k + 1, by omega, by go_num, ⟨nn, D, HG.out.2.1, ?_, PlacesAre.old HO.out.2.2 HX.out.1 HM.out⟩, below_next HX.out.2.2.2 HG.out.2.2⟩
            have := HO.out.2.1
            have hk' := (List.getElem?_eq_some_iff.1 HX.out.1).1
            rw [List.length_take] at this ⊢
            omega
          case measure => exact meas1 hlt
    · obtain rfl : k = n := by omega
      have ht : l.take k = l := List.take_of_length_le (by have := HN.out; omega)
      rw [ht] at hp
      clear ht
      have HP := hid (And.intro hp hB)
      clear hp hB
      go_wp2
      go_ret
      exact ⟨_, rfl, Nat.le_refl _, HP.out.1, HP.out.2⟩
end Go.Proofs.YtfnmekmgjcjglaaDoor.V
namespace Go.Proofs.YtfnmekmgjcjglaaDoor.V
set_option linter.unusedVariables false
set_option linter.unusedSimpArgs false
set_option maxRecDepth 100000
open Go Go.RowKit Go.Maps Wire
set_option maxRecDepth 100000
set_option linter.unusedVariables false
set_option linter.unusedSimpArgs false
/-- What one number of a Dep asks for. -/
def folF (l : List OC) (x : OC) (r : Nat) : Bool := decide (x.1.dep r = 0) || match findM l (r, x.1.dep r) with | some y => aboveB x.1.dep y.1.dep && decide (y.1.tm < x.1.tm) | none => false
def folB (l : List OC) (x : OC) : Bool := (List.range 8).all (folF l x)
theorem folB_of {l : List OC} {x : OC} (h : ∀ r, r < 8 → folF l x r = true) : folB l x = true := by
  unfold folB
  rw [List.all_eq_true]
  exact fun r hr => h r (List.mem_range.1 hr)
theorem folB_not {l : List OC} {x : OC} {r : Nat} (hr : r < 8) (h : folF l x r = false) : folB l x = false := by
  cases hb : folB l x with
  | false => rfl
  | true =>
    unfold folB at hb
    rw [List.all_eq_true] at hb
    have := hb r (List.mem_range.2 hr)
    rw [h] at this
    cases this
theorem fol_iff {l : List OC} (hn : (l.map dt).Nodup) (x : OC) : folB l x = true ↔ Follows l x := by
  unfold folB Follows
  rw [List.all_eq_true]
  constructor
  · intro h r hr h0
    have := h r (List.mem_range.2 hr)
    unfold folF at this
    rw [decide_eq_false h0, Bool.false_or] at this
    cases hf : findM l (r, x.1.dep r) with
    | none => rw [hf] at this; cases this
    | some y =>
      rw [hf] at this
      simp only [Bool.and_eq_true, decide_eq_true_eq] at this
      exact ⟨y, List.mem_of_find?_eq_some hf, by have := List.find?_some hf; simpa using this, this.1, this.2⟩
  · intro h r hr
    unfold folF
    by_cases h0 : x.1.dep r = 0
    · rw [decide_eq_true h0, Bool.true_or]
    · obtain ⟨y, hy, hd, ha, ht⟩ := h r (List.mem_range.1 hr) h0
      have hf : findM l (r, x.1.dep r) = some y := by
        have := nodup_find hn hy
        rw [hd] at this
        exact this
      rw [hf]
      simp [ha, ht]
theorem load_vecIn {ops : Array Oper} {rest : List Oper} {c : Oper} {a : Act} {w : World} {Q : Exit → Act → World → Prop} (x : Operand) (ho : c.op = .load 30 x) (hw : Region.wanted c (yielded ops a.tmps) = true)
    (p : Addr) (hx : a.eval x = .pointer (some p)) (v : Vec) (hg : ∀ k, k < 8 → w.cell? (p.add k) = some (.int .u32 (v k : Int)))
    (h : wpList Tryd.prog ops Q rest (a.put c.dst (.agg (vc v))) w) : wpList Tryd.prog ops Q (c :: rest) a w :=
  BigFrame.wpList_want hw fun K hK => by
    unfold Oper.wp execOp
    simp only [ho, hx, Instr.loadAt, Instr.sureAddr, Sem.run_bind, Sem.run_pure, Result.andThen_ok, run_loadVar_dep hg]
    exact hK _ _ h
theorem index_vc (v : Vec) (k : Nat) (hk : k < 8) (w : World) : (Instr.index 30 (.agg (vc v)) (.int .i64 (k : Int))).run Tryd.prog w = .ok (.int .u32 (v k : Int)) w := by
  match k, hk with
  | 0, _ => simp [Instr.index, vc, go_sem]
  | 1, _ => simp [Instr.index, vc, go_sem]
  | 2, _ => simp [Instr.index, vc, go_sem]
  | 3, _ => simp [Instr.index, vc, go_sem]
  | 4, _ => simp [Instr.index, vc, go_sem]
  | 5, _ => simp [Instr.index, vc, go_sem]
  | 6, _ => simp [Instr.index, vc, go_sem]
  | 7, _ => simp [Instr.index, vc, go_sem]
set_option maxHeartbeats 400000 in
theorem order_follows (x : OC) (v : Value) (l : List OC) (b : Nat) (W0 : World) (hxo : okO x.1) (hv : OpsV W0 v l) (hp : PlacesAt W0 b l) (hl : l.length ≤ 100000) :
    Calls Tryd.prog 40 #[.agg (oc x.1), v, .map (some b)] W0 fun e w' => e = .returned (.bool (folB l x)) ∧ Below W0.heap.size W0 w' := by
  obtain ⟨a, n, cp, rfl, hI⟩ := hv
  have HN := hid (show n = l.length from hI.1.symm)
  have hm : n ≤ 9223372036854775807 := Nat.le_trans hI.2.1 hI.2.2.1
  have HI := hid (And.intro hI (And.intro hp (And.intro hl hxo)))
  clear hI hp hl hxo
  have hidx := fun k (hk : k < 8) W => index_vc x.1.dep k hk W
  go_enter Tryd.func40, Tryd.ntmps40
  go_upto_region 1 with (fail)
  refine gen_code (fun W => OpAt W W0.heap.size x.1 ∧ Below W0.heap.size W0 W) ⟨opAt_new W0 x.1, below_al W0 _⟩ ?_
  rintro W ⟨h1, hB⟩
  have HW := hid (And.intro h1 hB)
  clear h1 hB
  go_wp2_with (first
    | (refine load_vecIn _ rfl rfl ⟨W0.heap.size, 2, none⟩ rfl x.1.dep (fun k hk => by rw [add88]; exact HW.out.1.dep hk) ?_))
  go_loopw [13] (fun i wr => ∃ k : Nat, k ≤ 8 ∧ i = .int .i64 k ∧ Below W.heap.size W wr ∧ Hid (∀ r, r < k → folF l x r = true)) (fun i _ => 8 - (intOf i).toNat)
  case atStart => exact ⟨0, by omega, rfl, Below.refl _ _, fun j hj => absurd hj (by omega)⟩
  case round =>
    obtain ⟨k, hk, rfl, hB, hall⟩ := hrel
    by_cases hlt : k < 8
    · have hix := hidx k hlt
      have HWr := hid (And.intro (HW.out.1.keep hB) (And.intro (below_next HW.out.2 hB) hB))
      have h1 : (k : Int) < 8 := by omega
      clear hB
      by_cases h0 : x.1.dep k = 0
      · have h0' : ((x.1.dep k : Int) == 0) = true := by simp [h0]
        have HF := hid (show folF l x k = true by unfold folF; rw [decide_eq_true h0, Bool.true_or])
        clear h0
        go_wp2
        go_roundw
        case rel =>
          refine ⟨k + 1, by omega, by go_num, HWr.out.2.2, fun r hr => ?_⟩
          by_cases e : r = k
          · rw [e]; exact HF.out
          · exact hall.out r (by omega)
        case measure => simp [intOf]; omega
      · have h0' : ((x.1.dep k : Int) == 0) = false := by simpa using h0
        have HZ := hid h0
        have hu8 : IntKind.u8.wrap (k : Int) = (k : Int) := by rw [wrap_u8]; omega
        have hnl : x.1.dep k < 4294967296 := HI.out.2.2.2.dep.1 k
        have hdk : Dot.ok (k, x.1.dep k) := ⟨by show k < 256; omega, hnl⟩
        have hkey := keyOf_dot hdk
        have hpl := HI.out.2.1.keep HWr.out.2.1
        obtain ⟨nn, D, hown, hnn, hK⟩ := hpl
        have hhas := hK.has _ hdk
        have hat := hK.at_ _ hdk
        have HO := hid (And.intro hown hkey)
        clear hown hK hkey h0 hdk hnl
        rcases idx_find l (k, x.1.dep k) with ⟨i1, i2⟩ | ⟨q, i1, i2, i3, i4⟩
        · have hf : Maps.has D (dk (k, x.1.dep k)) = false := by
            cases hb : Maps.has D (dk (k, x.1.dep k))
            · rfl
            · exact absurd i1 (hhas.1 hb)
          have HF := hid (show folF l x k = false by unfold folF; rw [decide_eq_false HZ.out, i2]; rfl)
          clear hhas i1 i2 hat
          go_wp2_with (first
            | (at_lookup; refine wpList_lookup_own_ok_int _ rfl _ _ 78 rfl 46 3 .i64 dotKeyed Tryd.underlying78 Tryd.underlying3 (Tryd.zeroValue3 _) b nn D rfl HO.out.1 _ _ rfl HO.out.2 ?_; intro c hc hwc; clear hc hwc)
            | go_in)
          go_quiet (fail)
          go_wp2
          go_ret
          exact ⟨by rw [folB_not hlt HF.out]; rfl, HWr.out.2.1.trans (below_drewN _ _ _)⟩
        · have hf : Maps.has D (dk (k, x.1.dep k)) = true := hhas.2 (by rw [i1]; omega)
          cases a with
          | none => have := HI.out.1.none_len; have := HN.out; omega
          | some ad =>
            have hqn : q < n := by have := HN.out; omega
            obtain ⟨o, cl', hx, hok, hcl, hin⟩ := (HI.out.1.keep HWr.out.2.1).at q hqn
            obtain ⟨y, hy⟩ : ∃ y : OC, y = (o, cl') := ⟨_, rfl⟩
            rw [← hy] at hx
            have hin' : OpIn wr (ad.add (q * 29)) y.1 := by rw [hy]; exact hin
            rw [i1, if_neg (by omega)] at hat
            have hF : folF l x k = (aboveB x.1.dep y.1.dep && decide (y.1.tm < x.1.tm)) := by
              unfold folF; rw [decide_eq_false HZ.out, Bool.false_or, ← i3, hx]
            have HX := hid (And.intro hin' hF)
            have HAT := hid hat
            clear hhas i1 i2 i3 i4 hat hx hok hcl hin hin' hF hy
            go_upto_region 6 with (first
              | (at_lookup; refine wpList_lookup_own_ok_int _ rfl _ _ 78 rfl 46 3 .i64 dotKeyed Tryd.underlying78 Tryd.underlying3 (Tryd.zeroValue3 _) b nn D rfl HO.out.1 _ _ rfl HO.out.2 ?_; intro c hc hwc; obtain rfl : c = (q : Int) := (by have h := hc.symm.trans HAT.out; simpa using h); clear hc hwc)
              | go_in)
            have hqi : (q : Int) < (n : Int) := by omega
            refine wp_flow (fun _ => none) (Fa.eq (.bool (true)) :: Fa.eq (.bool (!true)) :: Fa.eq (.bool (!true)) :: Fa.eq (gd (!(!true)) (.pointer (some ((⟨W0.heap.size, 0, none⟩ : Addr).add 2)))) :: Fa.eq (gd (!(!true)) (.agg (vc x.1.dep))) :: Fa.eq (gd (!(!true)) (.slice (some ad) n cp)) :: Fa.eq (gd (!(!true)) (.int .i64 ((q : Nat)))) :: Fa.eq (gd (!(!true)) (.pointer (some (ad.add (q * 29))))) :: Fa.eq (gd (!(!true)) (.pointer (some (((ad.add (q * 29)) : Addr).add 2)))) :: Fa.eq (gd (!(!true)) (.agg (vc y.1.dep))) :: Fa.eq (gd (!(!true)) (.bool (aboveB x.1.dep y.1.dep))) :: Fa.eq (gd (!(!true)) (.bool (!(aboveB x.1.dep y.1.dep)))) :: Fa.eq (.bool ((!true) || (!(aboveB x.1.dep y.1.dep)))) :: Fa.eq (.bool ((!true) || (!(aboveB x.1.dep y.1.dep)))) :: Fa.eq (gd (!((!true) || (!(aboveB x.1.dep y.1.dep)))) (.pointer (some ((⟨W0.heap.size, 0, none⟩ : Addr).add 10)))) :: Fa.eq (gd (!((!true) || (!(aboveB x.1.dep y.1.dep)))) (.int .u64 (x.1.tm : Int))) :: Fa.eq (gd (!((!true) || (!(aboveB x.1.dep y.1.dep)))) (.slice (some ad) n cp)) :: Fa.eq (gd (!((!true) || (!(aboveB x.1.dep y.1.dep)))) (.int .i64 ((q : Nat)))) :: Fa.eq (gd (!((!true) || (!(aboveB x.1.dep y.1.dep)))) (.pointer (some (ad.add (q * 29))))) :: Fa.eq (gd (!((!true) || (!(aboveB x.1.dep y.1.dep)))) (.pointer (some (((ad.add (q * 29)) : Addr).add 10)))) :: Fa.eq (gd (!((!true) || (!(aboveB x.1.dep y.1.dep)))) (.int .u64 (y.1.tm : Int))) :: Fa.eq (gd (!((!true) || (!(aboveB x.1.dep y.1.dep)))) (.bool (decide ((x.1.tm : Int) ≤ (y.1.tm : Int))))) :: Fa.eq (.bool (((!true) || (!(aboveB x.1.dep y.1.dep))) || (decide ((x.1.tm : Int) ≤ (y.1.tm : Int))))) :: []) 52 (by kernel_rfl) rfl (by kernel_rfl) rfl (by kernel_rfl) ?_ ?_ ?_
            · exact fits_plain _ _ rfl
            · refine ⟨?_, ?_, ?_, ?_, ?_, ?_, ?_, ?_, ?_, ?_, ?_, ?_, ?_, ?_, ?_, ?_, ?_, ?_, ?_, ?_, ?_, ?_, ?_, trivial⟩
              · exact v_move (.inl rfl) rfl (by kernel_rfl) True.intro (Ev.out (by kernel_rfl) rfl)
              · exact v_not rfl rfl (by kernel_rfl) True.intro (Ev.at (i := 0) (by kernel_rfl) (by kernel_rfl) rfl)
              · exact v_move (.inl rfl) rfl (by kernel_rfl) True.intro (Ev.at (i := 1) (by kernel_rfl) (by kernel_rfl) rfl)
              · exact flow_gd (!(!true)) (.pointer (some ((⟨W0.heap.size, 0, none⟩ : Addr).add 2))) 2 false (.bool (!true)) rfl (by kernel_rfl) rfl gu_f rfl (fun hg hF hj => v_faddr (u := .pointer (some ⟨W0.heap.size, 0, none⟩)) (c := .pointer (some ((⟨W0.heap.size, 0, none⟩ : Addr).add 2))) rfl (fun w => (fld_op ⟨W0.heap.size, 0, none⟩ w).2.1) hF (by kernel_rfl) (guard_of rfl (by kernel_rfl) (by kernel_rfl) hj) (Ev.out (by kernel_rfl) rfl))
              · exact flow_gd (!(!true)) (.agg (vc x.1.dep)) 2 false (.bool (!true)) rfl (by kernel_rfl) rfl gu_f rfl (fun hg hF hj => v_load (u := .pointer (some ((⟨W0.heap.size, 0, none⟩ : Addr).add 2))) (c := .agg (vc x.1.dep)) rfl (fun w hB => ldp_vec (OpIn.keep (OpIn.dr HWr.out.1.in) hB)) hF (by kernel_rfl) (guard_of rfl (by kernel_rfl) (by kernel_rfl) hj) (Ev.at (i := 3) (by kernel_rfl) (by kernel_rfl) (fe rfl (gd_t hg))))
              · exact flow_gd (!(!true)) (.slice (some ad) n cp) 2 false (.bool (!true)) rfl (by kernel_rfl) rfl gu_f rfl (fun hg hF hj => v_move (.inl rfl) hF (by kernel_rfl) (guard_of rfl (by kernel_rfl) (by kernel_rfl) hj) (Ev.out (by kernel_rfl) rfl))
              · exact flow_gd (!(!true)) (.int .i64 ((q : Nat))) 2 false (.bool (!true)) rfl (by kernel_rfl) rfl gu_f rfl (fun hg hF hj => v_move (.inl rfl) hF (by kernel_rfl) (guard_of rfl (by kernel_rfl) (by kernel_rfl) hj) (Ev.out (by kernel_rfl) rfl))
              · exact flow_gd (!(!true)) (.pointer (some (ad.add (q * 29)))) 2 false (.bool (!true)) rfl (by kernel_rfl) rfl gu_f rfl (fun hg hF hj => v_iaddr (u := .slice (some ad) n cp) (v := .int .i64 ((q : Nat))) (c := .pointer (some (ad.add (q * 29)))) rfl (fun w => idx_op ad n cp q hqn w) hF (by kernel_rfl) (guard_of rfl (by kernel_rfl) (by kernel_rfl) hj) (Ev.at (i := 5) (by kernel_rfl) (by kernel_rfl) (fe rfl (gd_t hg))) (Ev.at (i := 6) (by kernel_rfl) (by kernel_rfl) (fe rfl (gd_t hg))))
              · exact flow_gd (!(!true)) (.pointer (some (((ad.add (q * 29)) : Addr).add 2))) 2 false (.bool (!true)) rfl (by kernel_rfl) rfl gu_f rfl (fun hg hF hj => v_faddr (u := .pointer (some (ad.add (q * 29)))) (c := .pointer (some (((ad.add (q * 29)) : Addr).add 2))) rfl (fun w => (fld_op (ad.add (q * 29)) w).2.1) hF (by kernel_rfl) (guard_of rfl (by kernel_rfl) (by kernel_rfl) hj) (Ev.at (i := 7) (by kernel_rfl) (by kernel_rfl) (fe rfl (gd_t hg))))
              · exact flow_gd (!(!true)) (.agg (vc y.1.dep)) 2 false (.bool (!true)) rfl (by kernel_rfl) rfl gu_f rfl (fun hg hF hj => v_load (u := .pointer (some (((ad.add (q * 29)) : Addr).add 2))) (c := .agg (vc y.1.dep)) rfl (fun w hB => ldp_vec (OpIn.keep (OpIn.dr HX.out.1) hB)) hF (by kernel_rfl) (guard_of rfl (by kernel_rfl) (by kernel_rfl) hj) (Ev.at (i := 8) (by kernel_rfl) (by kernel_rfl) (fe rfl (gd_t hg))))
              · exact flow_gd (!(!true)) (.bool (aboveB x.1.dep y.1.dep)) 2 false (.bool (!true)) rfl (by kernel_rfl) rfl gu_f rfl (fun hg hF hj => v_call (vs := #[.agg (vc x.1.dep), .agg (vc y.1.dep)]) (c := .bool (aboveB x.1.dep y.1.dep)) rfl (fun args w => rfl) (fun w hB => vec_Above x.1.dep y.1.dep w) hF (by kernel_rfl) (guard_of rfl (by kernel_rfl) (by kernel_rfl) hj) (ev2 (Ev.at (i := 4) (by kernel_rfl) (by kernel_rfl) (fe rfl (gd_t hg))) (Ev.at (i := 9) (by kernel_rfl) (by kernel_rfl) (fe rfl (gd_t hg)))))
              · exact flow_gd (!(!true)) (.bool (!(aboveB x.1.dep y.1.dep))) 2 false (.bool (!true)) rfl (by kernel_rfl) rfl gu_f rfl (fun hg hF hj => v_not rfl hF (by kernel_rfl) (guard_of rfl (by kernel_rfl) (by kernel_rfl) hj) (Ev.at (i := 10) (by kernel_rfl) (by kernel_rfl) (fe rfl (gd_t hg))))
              · exact v_or (p := !true) (q := !(aboveB x.1.dep y.1.dep)) rfl rfl (by kernel_rfl) True.intro (Ev.at (i := 2) (by kernel_rfl) (by kernel_rfl) rfl) (fun hp => (Ev.at (i := 11) (by kernel_rfl) (by kernel_rfl) (fe rfl (gd_t (not_t hp)))))
              · exact v_move (.inl rfl) rfl (by kernel_rfl) True.intro (Ev.at (i := 12) (by kernel_rfl) (by kernel_rfl) rfl)
              · exact flow_gd (!((!true) || (!(aboveB x.1.dep y.1.dep)))) (.pointer (some ((⟨W0.heap.size, 0, none⟩ : Addr).add 10))) 13 false (.bool ((!true) || (!(aboveB x.1.dep y.1.dep)))) rfl (by kernel_rfl) rfl gu_f rfl (fun hg hF hj => v_faddr (u := .pointer (some ⟨W0.heap.size, 0, none⟩)) (c := .pointer (some ((⟨W0.heap.size, 0, none⟩ : Addr).add 10))) rfl (fun w => (fld_op ⟨W0.heap.size, 0, none⟩ w).2.2.1) hF (by kernel_rfl) (guard_of rfl (by kernel_rfl) (by kernel_rfl) hj) (Ev.out (by kernel_rfl) rfl))
              · exact flow_gd (!((!true) || (!(aboveB x.1.dep y.1.dep)))) (.int .u64 (x.1.tm : Int)) 13 false (.bool ((!true) || (!(aboveB x.1.dep y.1.dep)))) rfl (by kernel_rfl) rfl gu_f rfl (fun hg hF hj => v_load (u := .pointer (some ((⟨W0.heap.size, 0, none⟩ : Addr).add 10))) (c := .int .u64 (x.1.tm : Int)) rfl (fun w hB => ldp_tm (OpIn.keep (OpIn.dr HWr.out.1.in) hB)) hF (by kernel_rfl) (guard_of rfl (by kernel_rfl) (by kernel_rfl) hj) (Ev.at (i := 14) (by kernel_rfl) (by kernel_rfl) (fe rfl (gd_t hg))))
              · exact flow_gd (!((!true) || (!(aboveB x.1.dep y.1.dep)))) (.slice (some ad) n cp) 13 false (.bool ((!true) || (!(aboveB x.1.dep y.1.dep)))) rfl (by kernel_rfl) rfl gu_f rfl (fun hg hF hj => v_move (.inl rfl) hF (by kernel_rfl) (guard_of rfl (by kernel_rfl) (by kernel_rfl) hj) (Ev.out (by kernel_rfl) rfl))
              · exact flow_gd (!((!true) || (!(aboveB x.1.dep y.1.dep)))) (.int .i64 ((q : Nat))) 13 false (.bool ((!true) || (!(aboveB x.1.dep y.1.dep)))) rfl (by kernel_rfl) rfl gu_f rfl (fun hg hF hj => v_move (.inl rfl) hF (by kernel_rfl) (guard_of rfl (by kernel_rfl) (by kernel_rfl) hj) (Ev.out (by kernel_rfl) rfl))
              · exact flow_gd (!((!true) || (!(aboveB x.1.dep y.1.dep)))) (.pointer (some (ad.add (q * 29)))) 13 false (.bool ((!true) || (!(aboveB x.1.dep y.1.dep)))) rfl (by kernel_rfl) rfl gu_f rfl (fun hg hF hj => v_iaddr (u := .slice (some ad) n cp) (v := .int .i64 ((q : Nat))) (c := .pointer (some (ad.add (q * 29)))) rfl (fun w => idx_op ad n cp q hqn w) hF (by kernel_rfl) (guard_of rfl (by kernel_rfl) (by kernel_rfl) hj) (Ev.at (i := 16) (by kernel_rfl) (by kernel_rfl) (fe rfl (gd_t hg))) (Ev.at (i := 17) (by kernel_rfl) (by kernel_rfl) (fe rfl (gd_t hg))))
              · exact flow_gd (!((!true) || (!(aboveB x.1.dep y.1.dep)))) (.pointer (some (((ad.add (q * 29)) : Addr).add 10))) 13 false (.bool ((!true) || (!(aboveB x.1.dep y.1.dep)))) rfl (by kernel_rfl) rfl gu_f rfl (fun hg hF hj => v_faddr (u := .pointer (some (ad.add (q * 29)))) (c := .pointer (some (((ad.add (q * 29)) : Addr).add 10))) rfl (fun w => (fld_op (ad.add (q * 29)) w).2.2.1) hF (by kernel_rfl) (guard_of rfl (by kernel_rfl) (by kernel_rfl) hj) (Ev.at (i := 18) (by kernel_rfl) (by kernel_rfl) (fe rfl (gd_t hg))))
              · exact flow_gd (!((!true) || (!(aboveB x.1.dep y.1.dep)))) (.int .u64 (y.1.tm : Int)) 13 false (.bool ((!true) || (!(aboveB x.1.dep y.1.dep)))) rfl (by kernel_rfl) rfl gu_f rfl (fun hg hF hj => v_load (u := .pointer (some (((ad.add (q * 29)) : Addr).add 10))) (c := .int .u64 (y.1.tm : Int)) rfl (fun w hB => ldp_tm (OpIn.keep (OpIn.dr HX.out.1) hB)) hF (by kernel_rfl) (guard_of rfl (by kernel_rfl) (by kernel_rfl) hj) (Ev.at (i := 19) (by kernel_rfl) (by kernel_rfl) (fe rfl (gd_t hg))))
              · exact flow_gd (!((!true) || (!(aboveB x.1.dep y.1.dep)))) (.bool (decide ((x.1.tm : Int) ≤ (y.1.tm : Int)))) 13 false (.bool ((!true) || (!(aboveB x.1.dep y.1.dep)))) rfl (by kernel_rfl) rfl gu_f rfl (fun hg hF hj => v_bin (u := .int .u64 (x.1.tm : Int)) (v := .int .u64 (y.1.tm : Int)) (c := .bool (decide ((x.1.tm : Int) ≤ (y.1.tm : Int)))) rfl (fun w => (by go_simp)) hF (by kernel_rfl) (guard_of rfl (by kernel_rfl) (by kernel_rfl) hj) (Ev.at (i := 15) (by kernel_rfl) (by kernel_rfl) (fe rfl (gd_t hg))) (Ev.at (i := 20) (by kernel_rfl) (by kernel_rfl) (fe rfl (gd_t hg))))
              · exact v_or (p := (!true) || (!(aboveB x.1.dep y.1.dep))) (q := decide ((x.1.tm : Int) ≤ (y.1.tm : Int))) rfl rfl (by kernel_rfl) True.intro (Ev.at (i := 13) (by kernel_rfl) (by kernel_rfl) rfl) (fun hp => (Ev.at (i := 21) (by kernel_rfl) (by kernel_rfl) (fe rfl (gd_t (not_t hp)))))
            intro _ vs W2 hB2 hf
            have e0 : vs 0 = .bool (true) := hf 0 (by decide)
            have e1 : vs 1 = .bool (!true) := hf 1 (by decide)
            have e2 : vs 2 = .bool (!true) := hf 2 (by decide)
            have e3 : vs 3 = gd (!(!true)) (.pointer (some ((⟨W0.heap.size, 0, none⟩ : Addr).add 2))) := hf 3 (by decide)
            have e4 : vs 4 = gd (!(!true)) (.agg (vc x.1.dep)) := hf 4 (by decide)
            have e5 : vs 5 = gd (!(!true)) (.slice (some ad) n cp) := hf 5 (by decide)
            have e6 : vs 6 = gd (!(!true)) (.int .i64 ((q : Nat))) := hf 6 (by decide)
            have e7 : vs 7 = gd (!(!true)) (.pointer (some (ad.add (q * 29)))) := hf 7 (by decide)
            have e8 : vs 8 = gd (!(!true)) (.pointer (some (((ad.add (q * 29)) : Addr).add 2))) := hf 8 (by decide)
            have e9 : vs 9 = gd (!(!true)) (.agg (vc y.1.dep)) := hf 9 (by decide)
            have e10 : vs 10 = gd (!(!true)) (.bool (aboveB x.1.dep y.1.dep)) := hf 10 (by decide)
            have e11 : vs 11 = gd (!(!true)) (.bool (!(aboveB x.1.dep y.1.dep))) := hf 11 (by decide)
            have e12 : vs 12 = .bool ((!true) || (!(aboveB x.1.dep y.1.dep))) := hf 12 (by decide)
            have e13 : vs 13 = .bool ((!true) || (!(aboveB x.1.dep y.1.dep))) := hf 13 (by decide)
            have e14 : vs 14 = gd (!((!true) || (!(aboveB x.1.dep y.1.dep)))) (.pointer (some ((⟨W0.heap.size, 0, none⟩ : Addr).add 10))) := hf 14 (by decide)
            have e15 : vs 15 = gd (!((!true) || (!(aboveB x.1.dep y.1.dep)))) (.int .u64 (x.1.tm : Int)) := hf 15 (by decide)
            have e16 : vs 16 = gd (!((!true) || (!(aboveB x.1.dep y.1.dep)))) (.slice (some ad) n cp) := hf 16 (by decide)
            have e17 : vs 17 = gd (!((!true) || (!(aboveB x.1.dep y.1.dep)))) (.int .i64 ((q : Nat))) := hf 17 (by decide)
            have e18 : vs 18 = gd (!((!true) || (!(aboveB x.1.dep y.1.dep)))) (.pointer (some (ad.add (q * 29)))) := hf 18 (by decide)
            have e19 : vs 19 = gd (!((!true) || (!(aboveB x.1.dep y.1.dep)))) (.pointer (some (((ad.add (q * 29)) : Addr).add 10))) := hf 19 (by decide)
            have e20 : vs 20 = gd (!((!true) || (!(aboveB x.1.dep y.1.dep)))) (.int .u64 (y.1.tm : Int)) := hf 20 (by decide)
            have e21 : vs 21 = gd (!((!true) || (!(aboveB x.1.dep y.1.dep)))) (.bool (decide ((x.1.tm : Int) ≤ (y.1.tm : Int)))) := hf 21 (by decide)
            have e22 : vs 22 = .bool (((!true) || (!(aboveB x.1.dep y.1.dep))) || (decide ((x.1.tm : Int) ≤ (y.1.tm : Int)))) := hf 22 (by decide)
            obtain ⟨z, hz⟩ : ∃ z : Bool, (((!true) || (!(aboveB x.1.dep y.1.dep))) || (decide ((x.1.tm : Int) ≤ (y.1.tm : Int)))) = z := ⟨_, rfl⟩
            rw [hz] at e22
            have HZ2 := hid hz
            clear hz
            simp only [fill, List.setIfInBounds_toArray, List.set_cons_zero, List.set_cons_succ, e0, e1, e2, e3, e4, e5, e6, e7, e8, e9, e10, e11, e12, e13, e14, e15, e16, e17, e18, e19, e20, e21, e22]
            clear e0 e1 e2 e3 e4 e5 e6 e7 e8 e9 e10 e11 e12 e13 e14 e15 e16 e17 e18 e19 e20 e21 e22
            have HB2 := hid hB2
            clear hB2 hf
            have hz := HZ2.out
            cases z
            · have HF := hid (show folF l x k = true by
                rw [HX.out.2]
                simp only [Bool.or_eq_false_iff, Bool.not_eq_false', decide_eq_false_iff_not] at hz
                rw [hz.1.2, Bool.true_and, decide_eq_true_eq]; omega)
              clear hz
              go_wp2
              go_roundw
              case rel =>
                refine ⟨k + 1, by omega, by go_num, below_next HWr.out.2.2 HB2.out, fun r hr => ?_⟩
                by_cases e : r = k
                · rw [e]; exact HF.out
                · exact hall.out r (by omega)
              case measure => simp [intOf]; omega
            · have HF := hid (show folF l x k = false by
                rw [HX.out.2]
                simp only [Bool.or_eq_true, Bool.not_eq_true', decide_eq_true_eq, Bool.not_true, Bool.false_eq_true, false_or] at hz
                rcases hz with hz | hz
                · rw [hz, Bool.false_and]
                · rw [decide_eq_false (by omega), Bool.and_false])
              clear hz
              go_wp2
              go_ret
              exact ⟨by rw [folB_not hlt HF.out]; rfl, below_next HWr.out.2.1 HB2.out⟩
    · obtain rfl : k = 8 := by omega
      have HF := hid (folB_of hall.out)
      have HB := hid hB
      clear hB
      go_wp2
      go_ret
      exact ⟨by rw [HF.out]; rfl, below_next HW.out.2 HB.out⟩
/-! ### The whole -/
theorem check_05 (o : OpM) (c : List Claim) {n : Int} (h1 : 1 ≤ n) (h8 : n ≤ 8) : checkM o c n = 0 ∨ checkM o c n = 5 := by
  unfold checkM
  rw [if_neg (by omega), if_neg (by omega)]
  split
  · split
    · split
      · exact .inl rfl
      · exact .inr rfl
    · exact .inr rfl
  · exact .inr rfl
theorem histM_arg {n : Int} {l : List OC} (h : n < 1 ∨ 8 < n) : histM n l = 2 := by unfold histM; rw [if_pos h]
theorem histM_form {n : Int} {l : List OC} (h1 : 1 ≤ n) (h8 : n ≤ 8) (h : ¬ okAll n l) : histM n l = 5 := by unfold histM; rw [if_neg (by omega), if_neg h]
theorem histM_state {n : Int} {l : List OC} (h1 : 1 ≤ n) (h8 : n ≤ 8) (h : okAll n l) (h2 : ¬ IsHist l) : histM n l = 9 := by unfold histM; rw [if_neg (by omega), if_pos h, if_neg h2]
theorem histM_ok {n : Int} {l : List OC} (h1 : 1 ≤ n) (h8 : n ≤ 8) (h : okAll n l) (h2 : IsHist l) : histM n l = 0 := by unfold histM; rw [if_neg (by omega), if_pos h, if_pos h2]
theorem okAll_of {n : Int} {l : List OC} (h : ∀ (j : Nat) (x : OC), j < l.length → l[j]? = some x → checkM x.1 x.2 n = 0) : okAll n l := fun x hx => by
  obtain ⟨j, hj, rfl⟩ := List.mem_iff_getElem.1 hx
  exact h j _ hj (List.getElem?_eq_getElem hj)
theorem okAll_not {n : Int} {l : List OC} {k : Nat} {x : OC} (hx : l[k]? = some x) (h : checkM x.1 x.2 n ≠ 0) : ¬ okAll n l := fun hk => h (hk x (List.mem_of_getElem? hx))
theorem len_map (D : Dat) (t b nn : Nat) (W : World) (h : W.ownsMap Tryd.prog 46 (plainElem Tryd.prog 3) b nn D) : (Builtin.len_ #[78] t #[.map (some b)]).run Tryd.prog W = .ok (.int .i64 (Maps.size D)) W := h.len Tryd.underlying78 t
set_option maxHeartbeats 400000 in
theorem order_History (v : Value) (l : List OC) (nr : Int) (W0 : World) (hv : OpsV W0 v l) (hT : Tab W0) (hl : l.length ≤ 100000) :
    Calls Tryd.prog 21 #[v, .int .i64 nr] W0 fun e w' => e = .returned (.int .i64 (histM nr l)) ∧ Below W0.heap.size W0 w' := by
  by_cases h1 : nr < 1
  · rw [histM_arg (.inl h1)]
    go_enter Tryd.func21, Tryd.ntmps21
    go_wp2
    go_ret
    exact ⟨rfl, Below.refl _ _⟩
  · by_cases h8 : 8 < nr
    · rw [histM_arg (.inr h8)]
      go_enter Tryd.func21, Tryd.ntmps21
      go_wp2
      go_ret
      exact ⟨rfl, Below.refl _ _⟩
    · have t1 : decide (nr < 1) = false := decide_eq_false h1
      have t2 : decide (8 < nr) = false := decide_eq_false h8
      have hvv := hid hv
      obtain ⟨a, n, cp, rfl, hI⟩ := hv
      have HN := hid (show n = l.length from hI.1.symm)
      have hm : n ≤ 9223372036854775807 := Nat.le_trans hI.2.1 hI.2.2.1
      have HI := hid (And.intro hI (And.intro hT hl))
      have HA := hid (show 1 ≤ nr ∧ nr ≤ 8 by omega)
      have HRET := hid (fun (h : ¬ okAll nr l) => histM_form (by omega) (by omega) h)
      clear hI hl hT h1 h8
      go_enter Tryd.func21, Tryd.ntmps21
      go_wp2
      go_loopw [19] (fun i wr => ∃ k : Nat, k ≤ n ∧ i = .int .i64 k ∧ Below W0.heap.size W0 wr ∧ Hid (∀ (j : Nat) (x : OC), j < k → l[j]? = some x → checkM x.1 x.2 nr = 0)) (fun i _ => n - (intOf i).toNat)
      case atStart => exact ⟨0, by omega, rfl, Below.refl _ _, fun j x hj => absurd hj (by omega)⟩
      case round =>
        obtain ⟨k, hk, rfl, hB, hall⟩ := hrel
        by_cases hlt : k < n
        · cases a with
          | none => have := HI.out.1.none_len; omega
          | some ad =>
            obtain ⟨o, cl', hx, hok, hcl, hin⟩ := (HI.out.1.keep hB).at k hlt
            have hone := hcl.oneCell
            have hki : (k : Int) < (n : Int) := by omega
            have hcall := fun W (hb : Below wr.heap.size wr W) => op_Check o hok cl' nr W (hcl.keep hb) ((HI.out.2.1.keep hB).keep hb)
            have HX := hid (And.intro hx (And.intro hin hB))
            clear hx hcl hin hok hB
            rcases check_05 o cl' HA.out.1 HA.out.2 with hq | hq
            · rw [hq] at hcall
              have HQ := hid hq
              clear hq
              go_wp2_with (first
                | (refine load_opIn _ rfl rfl (ad.add (k * 29)) rfl o HX.out.2.1 ?_)
                | (refine wpList_store_row rfl _ _ _ rfl wr.heap.size (oc o) rfl rfl 50 (oc zeroO) ?_ (opSize _) rfl (oneO _ hone) ?_; (focus exact heap_alloc_last' _ _); rw [World.setRow_alloc_new])
                | (refine load_op rfl _ rfl wr.heap.size rfl o (opAt_new _ _) ?_)
                | (go_at_call 27; refine (hcall _ (below_al _ _)).mono ?_; rintro e w1 ⟨rfl, hB1⟩))
              go_roundw
              case rel =>
                refine ⟨k + 1, by omega, by go_num, below_next (below_next HX.out.2.2 (below_al _ _)) hB1, fun j y hj hy => ?_⟩
                by_cases e : j = k
                · subst e
                  rw [HX.out.1] at hy
                  obtain rfl := Option.some.inj hy
                  exact HQ.out
                · exact hall.out j y (by omega) hy
              case measure => exact meas1 hlt
            · rw [hq] at hcall
              have HQ := hid (HRET.out (okAll_not HX.out.1 (by show checkM o cl' nr ≠ 0; rw [hq]; decide)))
              clear hq
              go_wp2_with (first
                | (refine load_opIn _ rfl rfl (ad.add (k * 29)) rfl o HX.out.2.1 ?_)
                | (refine wpList_store_row rfl _ _ _ rfl wr.heap.size (oc o) rfl rfl 50 (oc zeroO) ?_ (opSize _) rfl (oneO _ hone) ?_; (focus exact heap_alloc_last' _ _); rw [World.setRow_alloc_new])
                | (refine load_op rfl _ rfl wr.heap.size rfl o (opAt_new _ _) ?_)
                | (go_at_call 27; refine (hcall _ (below_al _ _)).mono ?_; rintro e w1 ⟨rfl, hB1⟩))
              go_ret
              exact ⟨by rw [HQ.out]; rfl, below_next (below_next HX.out.2.2 (below_al _ _)) hB1⟩
        · obtain rfl : k = n := by omega
          have HOK := hid (okAll_of (fun j x hj hx => hall.out j x (by have := HN.out; omega) hx))
          have hpl := places_Of _ l wr (hvv.out.keep hB) HI.out.2.2
          have HB := hid hB
          clear hall hB HRET hlt hk
          by_cases hnd : (l.map dt).Nodup
          · have HND := hid hnd
            clear hnd
            go_upto_region 13 with (first
              | (go_at_call 39; refine hpl.mono ?_; rintro e w1 ⟨b, rfl, hb, hp, hB1⟩; obtain ⟨nn, D, hown, hnn, hK⟩ := id hp; have hsz : Maps.size D = k := (hK.all.2 HND.out).trans HN.out.symm; have hlm := len_map D; have hlen1 := fun t => hsz ▸ len_map D t b nn w1 hown; have HP := hid (And.intro hp hB1); clear hK hown hnn hp hB1 hb hsz hlm))
            clear hlen1
            go_wp2
            go_loopw [39] (fun i wr2 => ∃ k2 : Nat, k2 ≤ k ∧ i = .int .i64 k2 ∧ Below w1.heap.size w1 wr2 ∧ Hid (∀ (j : Nat) (x : OC), j < k2 → l[j]? = some x → folB l x = true)) (fun i _ => k - (intOf i).toNat)
            case atStart => exact ⟨0, by omega, rfl, Below.refl _ _, fun j x hj => absurd hj (by omega)⟩
            case round =>
              obtain ⟨k2, hk2, rfl, hB2, hall2⟩ := hrel
              have hB0 := below_next HB.out (below_next HP.out.2 hB2)
              by_cases hlt2 : k2 < k
              · cases a with
                | none => have := HI.out.1.none_len; omega
                | some ad =>
                  obtain ⟨o, cl', hx, hok, hcl, hin⟩ := (HI.out.1.keep hB0).at k2 hlt2
                  have hone := hcl.oneCell
                  have hki : (k2 : Int) < (k : Int) := by omega
                  have hcall := fun W (hb : Below wr.heap.size wr W) => order_follows (o, cl') _ l b W hok ((hvv.out.keep hB0).keep hb) ((HP.out.1.keep hB2).keep hb) HI.out.2.2
                  have HX := hid (And.intro hx (And.intro hin (And.intro hB2 hB0)))
                  clear hx hcl hin hok hB2 hB0
                  cases hq : folB l (o, cl')
                  · rw [hq] at hcall
                    have HQ := hid (histM_state HA.out.1 HA.out.2 HOK.out (fun hh => by
                      have := (fol_iff HND.out (o, cl')).2 (hh.2 _ (List.mem_of_getElem? HX.out.1))
                      rw [hq] at this
                      cases this))
                    clear hq
                    go_wp2_with (first
                      | (refine load_opIn _ rfl rfl (ad.add (k2 * 29)) rfl o HX.out.2.1 ?_)
                      | (refine wpList_store_row rfl _ _ _ rfl wr.heap.size (oc o) rfl rfl 50 (oc zeroO) ?_ (opSize _) rfl (oneO _ hone) ?_; (focus exact heap_alloc_last' _ _); rw [World.setRow_alloc_new])
                      | (refine load_op rfl _ rfl wr.heap.size rfl o (opAt_new _ _) ?_)
                      | (go_at_call 40; refine (hcall _ (below_al _ _)).mono ?_; rintro e w2 ⟨rfl, hB3⟩))
                    go_ret
                    exact ⟨by rw [HQ.out]; rfl, below_next (below_next HX.out.2.2.2 (below_al _ _)) hB3⟩
                  · rw [hq] at hcall
                    have HQ := hid hq
                    clear hq
                    go_wp2_with (first
                      | (refine load_opIn _ rfl rfl (ad.add (k2 * 29)) rfl o HX.out.2.1 ?_)
                      | (refine wpList_store_row rfl _ _ _ rfl wr.heap.size (oc o) rfl rfl 50 (oc zeroO) ?_ (opSize _) rfl (oneO _ hone) ?_; (focus exact heap_alloc_last' _ _); rw [World.setRow_alloc_new])
                      | (refine load_op rfl _ rfl wr.heap.size rfl o (opAt_new _ _) ?_)
                      | (go_at_call 40; refine (hcall _ (below_al _ _)).mono ?_; rintro e w2 ⟨rfl, hB3⟩))
                    go_roundw
                    case rel =>
                      refine ⟨k2 + 1, by omega, by go_num, below_next (below_next HX.out.2.2.1 (below_al _ _)) hB3, fun j y hj hy => ?_⟩
                      by_cases e : j = k2
                      · subst e
                        rw [HX.out.1] at hy
                        obtain rfl := Option.some.inj hy
                        exact HQ.out
                      · exact hall2.out j y (by omega) hy
                    case measure => exact meas1 hlt2
              · obtain rfl : k2 = k := by omega
                have HQ := hid (histM_ok HA.out.1 HA.out.2 HOK.out ⟨HND.out, fun x hx => by
                  obtain ⟨j, hj, rfl⟩ := List.mem_iff_getElem.1 hx
                  exact (fol_iff HND.out _).1 (hall2.out j _ (by have := HN.out; omega) (List.getElem?_eq_getElem hj))⟩)
                have HBB := hid hB0
                clear hB0 hB2 hall2
                go_wp2
                go_ret
                exact ⟨by rw [HQ.out]; rfl, HBB.out⟩
          · have HQ := hid (histM_state HA.out.1 HA.out.2 HOK.out (fun hh => hnd hh.1))
            have HND := hid hnd
            clear hnd
            go_wp2_with (first
              | (go_at_call 39; refine hpl.mono ?_; rintro e w1 ⟨b, rfl, hb, hp, hB1⟩; obtain ⟨nn, D, hown, hnn, hK⟩ := id hp; have hsz : ((Maps.size D : Nat) : Int) < (k : Int) := (by have h1 := hK.le; have h2 : ¬ Maps.size D = l.length := fun e => HND.out (hK.all.1 e); have h3 := HN.out; omega); have hlen1 := fun t => len_map D t b nn w1 hown; have HP := hid hB1; generalize Maps.size D = sz at hsz hlen1; clear hK hown hnn hp hB1 hb))
            go_ret
            exact ⟨by rw [HQ.out]; rfl, below_next HB.out HP.out⟩
end Go.Proofs.YtfnmekmgjcjglaaDoor.V
