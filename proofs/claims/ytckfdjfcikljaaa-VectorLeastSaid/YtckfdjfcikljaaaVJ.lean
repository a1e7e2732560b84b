/-
  slices.DeleteFunc at vectors, with Tops's function value.
-/
import Derived.Test.YtckfdjfcikljaaaVI
namespace Go.Proofs.Ytckfdjfcikljaaa
set_option linter.unusedVariables false
set_option linter.unusedSimpArgs false
open Go Go.RowKit Go.Maps

theorem RowV.isVecs {W : World} {g cap : Nat} {c : List Vec} (h : RowV W g (cap * 8) c) (hc : cap ≤ maxLen) (hok : ∀ u ∈ c, okV u) : VecsV W (.slice (some ⟨g, 0, none⟩) c.length cap) c := owns_vecsV (h.owns (B0 := 0) (Nat.zero_le _) hc) hok
theorem set8_other {w : World} {g i b : Nat} {x : Vec} {o : Obj} (hne : b ≠ g) (h : w.heap[b]? = some o) : (((((((((w.setCell ⟨g, i, none⟩ (.int .u32 (x 0 : Int))).setCell ⟨g, i + 1, none⟩ (.int .u32 (x 1 : Int))).setCell ⟨g, i + 2, none⟩ (.int .u32 (x 2 : Int))).setCell ⟨g, i + 3, none⟩ (.int .u32 (x 3 : Int))).setCell ⟨g, i + 4, none⟩ (.int .u32 (x 4 : Int))).setCell ⟨g, i + 5, none⟩ (.int .u32 (x 5 : Int))).setCell ⟨g, i + 6, none⟩ (.int .u32 (x 6 : Int))).setCell ⟨g, i + 7, none⟩ (.int .u32 (x 7 : Int)))).heap[b]? = some o :=
  heap_other hne (heap_other hne (heap_other hne (heap_other hne (heap_other hne (heap_other hne (heap_other hne (heap_other hne h)))))))
theorem below_set8 {B g i : Nat} {x : Vec} {w0 w : World} (h : Below B w0 w) (hb : B ≤ g) : Below B w0 (((((((((w.setCell ⟨g, i, none⟩ (.int .u32 (x 0 : Int))).setCell ⟨g, i + 1, none⟩ (.int .u32 (x 1 : Int))).setCell ⟨g, i + 2, none⟩ (.int .u32 (x 2 : Int))).setCell ⟨g, i + 3, none⟩ (.int .u32 (x 3 : Int))).setCell ⟨g, i + 4, none⟩ (.int .u32 (x 4 : Int))).setCell ⟨g, i + 5, none⟩ (.int .u32 (x 5 : Int))).setCell ⟨g, i + 6, none⟩ (.int .u32 (x 6 : Int))).setCell ⟨g, i + 7, none⟩ (.int .u32 (x 7 : Int)))) :=
  (((((((h.setCell (p := ⟨g, i, none⟩) hb _).setCell (p := ⟨g, i + 1, none⟩) hb _).setCell (p := ⟨g, i + 2, none⟩) hb _).setCell (p := ⟨g, i + 3, none⟩) hb _).setCell (p := ⟨g, i + 4, none⟩) hb _).setCell (p := ⟨g, i + 5, none⟩) hb _).setCell (p := ⟨g, i + 6, none⟩) hb _).setCell (p := ⟨g, i + 7, none⟩) hb _

/-- What it leaves here: the box besides. -/
def DelPostB (w : World) (B0 b : Nat) (x : Vec) (c : List Vec) (e : Ending) (w' : World) : Prop :=
  ∃ v, e = .returned v ∧ w'.ownsRow B0 24 8 v c.length (flatV c) ∧ Below B0 w w' ∧ w'.heap[b]? = some (.cells (vc x) 24 (0, 0))

theorem index_none (b : Nat) (w : World) : Calls Try.prog 43 #[.slice none 0 0, .func (.func 42) #[] #[.pointer (some ⟨b, 0, none⟩)]] w fun e w' => e = .returned (.int .i64 (-1)) ∧ w = w' := by
  go_enter Try.func43, Try.ntmps43
  go_wp2
  refine wp_loop_rounds 1 ?_
  rw [rounds_succ]
  go_wp2
  go_ret
  exact ⟨rfl, rfl⟩
theorem delete_none (b : Nat) (w : World) : Calls Try.prog 41 #[.slice none 0 0, .func (.func 42) #[] #[.pointer (some ⟨b, 0, none⟩)]] w fun e w' => e = .returned (.slice none 0 0) ∧ w = w' := by
  go_enter Try.func41, Try.ntmps41
  go_wp2_with (go_at_call 43; refine (index_none b w).mono ?_; rintro e w1 ⟨rfl, rfl⟩)
  go_ret
  exact ⟨rfl, rfl⟩

set_option maxHeartbeats 4000000 in
set_option maxRecDepth 100000 in
theorem delete_B (b g N cap B0 : Nat) (x : Vec) (l : List Vec) (w : World) (hg0 : B0 ≤ g) (hbg : b ≠ g)
    (hrow : RowV w g N l) (hl : l.length ≤ 1000000) (hN : N = cap * 8) (hlc : l.length ≤ cap) (hcm : cap ≤ maxLen) (hB0 : B0 ≤ w.heap.size) (hok : ∀ d ∈ l, okV d) (hctx : w.heap[b]? = some (.cells (vc x) 24 (0, 0))) :
    Calls Try.prog 41 #[.slice (some ⟨g, 0, none⟩) l.length cap, .func (.func 42) #[] #[.pointer (some ⟨b, 0, none⟩)]] w (DelPostB w B0 b x (l.filter fun u => !aboveB x u)) := by
  subst hN
  have hidx := index_B b x _ l w (hrow.isVecs hcm hok) hl hctx
  have HR := hid hrow
  have HOK := hid hok
  have HX := hid hctx
  have HN := hid (And.intro hlc hcm)
  have hcm' : cap ≤ 9223372036854775807 := by unfold maxLen at hcm; omega
  clear hrow hok hcm hctx
  by_cases hno : NoneB (fun u => aboveB x u) l
  · have hcon := Calls.mono hidx (fun e w' h => h.none hno)
    have HNO := hid hno
    clear hidx hno
    go_enter Try.func41, Try.ntmps41
    go_wp2_with (go_at_call 43; refine hcon.mono ?_; rintro e w1 ⟨rfl, hB1⟩)
    go_ret
    refine ⟨_, rfl, ?_, hB1.mono hB0, heap_keep HX.out hB1⟩
    rw [HNO.out.filter]
    exact (HR.out.keep hB1).owns hg0 HN.out.2
  · obtain ⟨k0, x0, hx0, hq0, hn0⟩ := first_hit l hno
    have hcon := Calls.mono hidx (fun e w' h => h.hit hx0 hq0 hn0)
    have HI := hid (DelInv.start hx0 hq0 hn0)
    have hk0 : k0 < l.length := (List.getElem?_eq_some_iff.1 hx0).1
    have hne : ((k0 : Int) == -1) = false := beq_eq_false_iff_ne.2 (by omega)
    clear hidx hno hx0 hq0 hn0
    go_enter Try.func41, Try.ntmps41
    go_wp2_with (go_at_call 43; refine hcon.mono ?_; rintro e w1 ⟨rfl, hB1⟩)
    go_loopw [5, 6] (fun s5 s6 wr => ∃ (i j : Nat) (c : List Vec), s5 = .int .i64 i ∧ s6 = .int .i64 j ∧ j ≤ l.length ∧ RowV wr g (cap * 8) c ∧ DelInv (fun u => aboveB x u) l c i j ∧ Below B0 w wr ∧ wr.heap[b]? = some (.cells (vc x) 24 (0, 0))) (fun _ s6 _ => l.length - (intOf s6).toNat)
    case atStart => exact ⟨k0, k0 + 1, l, rfl, by go_num, by omega, HR.out.keep hB1, HI.out, hB1.mono hB0, heap_keep HX.out hB1⟩
    case round =>
      obtain ⟨i, j, c, rfl, rfl, hj, hrw, hinv, hB, hX⟩ := hrel
      have hij : i < j := hinv.2.1
      have hcl : c.length = l.length := hinv.1
      by_cases hlt : j < l.length
      · obtain ⟨u, hx⟩ : ∃ u, l[j]? = some u := ⟨l[j], List.getElem?_eq_getElem hlt⟩
        obtain ⟨c0, c1, c2, c3, c4, c5, c6, c7⟩ := hrw.at8 (hinv.get.trans hx)
        obtain ⟨old, hold⟩ : ∃ old, c[i]? = some old := ⟨c[i], List.getElem?_eq_getElem (by omega)⟩
        obtain ⟨wb, hwb⟩ : ∃ wb, wb = wr.alloc (.cells #[.int .u32 (u 0 : Int), .int .u32 (u 1 : Int), .int .u32 (u 2 : Int), .int .u32 (u 3 : Int), .int .u32 (u 4 : Int), .int .u32 (u 5 : Int), .int .u32 (u 6 : Int), .int .u32 (u 7 : Int)] 24) := ⟨_, rfl⟩
        have hbb : Below wr.heap.size wr wb := by rw [hwb]; exact below_al _ _
        have hcon2 := fn_B b x wb u (heap_keep hX hbb)
        have hbx : wb.heap[wr.heap.size]? = some (.cells (vc u) 24 (0, 0)) := by rw [hwb]; exact heap_alloc_last' _ _
        have hbs : wr.heap.size < wb.heap.size := by rw [hwb]; simp
        have HXJ := hid hx
        have HV := hid hinv
        have HO := hid hold
        have HRW := hid hrw
        have HBS := hid (And.intro hbx (And.intro hbs hbb))
        have HXB := hid hX
        rw [hwb] at hcon2
        have HWB := hid hwb
        clear hx hinv hold hrw hbx hbs hbb hX hwb
        cases hq : aboveB x u
        · rw [hq] at hcon2
          have HQ := hid hq
          clear hq
          go_wp2_with (go_at_call 42; refine hcon2.mono ?_; rintro e w2 ⟨rfl, hB2⟩; rw [← HWB.out] at hB2; have hrow2 : RowV w2 g (cap * 8) c := (HRW.out.keep HBS.out.2.2).keep hB2; obtain ⟨o0, o1, o2, o3, o4, o5, o6, o7⟩ := hrow2.at8 HO.out; have f0 := hrow2.free; obtain ⟨q0, q1, q2, q3, q4, q5, q6, q7⟩ := cells8 (heap_keep HBS.out.1 hB2); have HB2 := hid hB2; have HR2 := hid hrow2; clear hB2 hrow2)
          have hst := HR2.out.set (i := i) (by omega) u
          have hX2 : (((((((((w2.setCell ⟨g, i * 8, none⟩ (.int .u32 (u 0 : Int))).setCell ⟨g, i * 8 + 1, none⟩ (.int .u32 (u 1 : Int))).setCell ⟨g, i * 8 + 2, none⟩ (.int .u32 (u 2 : Int))).setCell ⟨g, i * 8 + 3, none⟩ (.int .u32 (u 3 : Int))).setCell ⟨g, i * 8 + 4, none⟩ (.int .u32 (u 4 : Int))).setCell ⟨g, i * 8 + 5, none⟩ (.int .u32 (u 5 : Int))).setCell ⟨g, i * 8 + 6, none⟩ (.int .u32 (u 6 : Int))).setCell ⟨g, i * 8 + 7, none⟩ (.int .u32 (u 7 : Int)))).heap[b]? = some (.cells (vc x) 24 (0, 0)) := set8_other hbg (heap_keep (heap_keep HXB.out HBS.out.2.2) HB2.out)
          have hB3 : Below B0 w (((((((((w2.setCell ⟨g, i * 8, none⟩ (.int .u32 (u 0 : Int))).setCell ⟨g, i * 8 + 1, none⟩ (.int .u32 (u 1 : Int))).setCell ⟨g, i * 8 + 2, none⟩ (.int .u32 (u 2 : Int))).setCell ⟨g, i * 8 + 3, none⟩ (.int .u32 (u 3 : Int))).setCell ⟨g, i * 8 + 4, none⟩ (.int .u32 (u 4 : Int))).setCell ⟨g, i * 8 + 5, none⟩ (.int .u32 (u 5 : Int))).setCell ⟨g, i * 8 + 6, none⟩ (.int .u32 (u 6 : Int))).setCell ⟨g, i * 8 + 7, none⟩ (.int .u32 (u 7 : Int)))) := by
            have e1 : Below B0 wr w2 := (HBS.out.2.2.mono (Nat.le_trans hB0 hB.size)).trans (HB2.out.mono (Nat.le_trans hB0 (Nat.le_trans hB.size (Nat.le_of_lt HBS.out.2.1))))
            exact below_set8 (hB.trans e1) hg0
          have HE := hid (And.intro hst (And.intro hX2 hB3))
          clear hst hX2 hB3
          go_roundw
          case rel => exact ⟨i + 1, j + 1, c.set i u, by go_num, by go_num, by omega, HE.out.1, HV.out.keep HXJ.out HQ.out, HE.out.2.2, HE.out.2.1⟩
          case measure => simp [intOf]; omega
        · rw [hq] at hcon2
          have HQ := hid hq
          clear hq
          go_wp2_with (go_at_call 42; refine hcon2.mono ?_; rintro e w2 ⟨rfl, hB2⟩; rw [← HWB.out] at hB2; have HB2 := hid hB2; clear hB2)
          have hX2 := heap_keep (heap_keep HXB.out HBS.out.2.2) HB2.out
          have hrow2 : RowV w2 g (cap * 8) c := (HRW.out.keep HBS.out.2.2).keep HB2.out
          have hB3 : Below B0 w w2 := hB.trans ((HBS.out.2.2.mono (Nat.le_trans hB0 hB.size)).trans (HB2.out.mono (Nat.le_trans hB0 (Nat.le_trans hB.size (Nat.le_of_lt HBS.out.2.1)))))
          have HE := hid (And.intro hrow2 (And.intro hX2 hB3))
          clear hrow2 hX2 hB3
          go_roundw
          case rel => exact ⟨i, j + 1, c, rfl, by go_num, by omega, HE.out.1, HV.out.skip HXJ.out HQ.out, HE.out.2.2, HE.out.2.1⟩
          case measure => simp [intOf]; omega
      · obtain rfl : j = l.length := by omega
        obtain ⟨cs, hclr, hrow3⟩ := run_clear_vecs (cap := cap - i) hrw (i := i) (m := l.length - i) (by omega) (by omega)
        have hnc : ¬ cap = i := by omega
        have HE := hid (And.intro hrow3 (And.intro hinv (And.intro hB hX)))
        clear hrow3 hinv hB hrw hX
        go_wp2
        go_ret
        obtain ⟨hrow3, hinv, hB, hX⟩ := HE.out
        have e1 : c.take i = l.filter fun u => !aboveB x u := by
          have := hinv.2.2.2.1
          rw [List.take_length] at this
          exact this
        have e2 : (l.filter fun u => !aboveB x u).length = i := by rw [← e1, List.length_take]; omega
        rw [e1] at hrow3
        exact ⟨.slice (some ⟨g, 0, none⟩) (l.filter fun u => !aboveB x u).length cap, by rw [e2]; rfl, hrow3.owns hg0 HN.out.2, Below.setRow hB hg0 cs, (setRow_other wr g b cs (by omega)).trans hX⟩

theorem delete_own (b B0 : Nat) (x : Vec) (v : Value) (l : List Vec) (w : World) (h : w.ownsRow B0 24 8 v l.length (flatV l)) (hl : l.length ≤ 1000000) (hok : ∀ d ∈ l, okV d) (hB0 : B0 ≤ w.heap.size) (hbx : w.heap[b]? = some (.cells (vc x) 24 (0, 0))) (hne : v.ownBlock ≠ some b) :
    Calls Try.prog 41 #[v, .func (.func 42) #[] #[.pointer (some ⟨b, 0, none⟩)]] w (DelPostB w B0 b x (l.filter fun u => !aboveB x u)) := by
  rcases h.2 with ⟨rfl, h0⟩ | ⟨g, cap, cur, rfl, hgb, hg, hcap, hm, hsz, ht⟩
  · obtain rfl : l = [] := List.length_eq_zero_iff.1 h0
    refine (delete_none b w).mono ?_
    rintro e w' ⟨rfl, rfl⟩
    exact ⟨_, rfl, h, Below.refl _ _, hbx⟩
  · have hbg : b ≠ g := fun e => hne (by rw [e]; rfl)
    exact delete_B b g cur.size cap B0 x l w hgb hbg ⟨cur, hg, rfl, by omega, ht⟩ hl hsz hcap hm hB0 hok hbx

end Go.Proofs.Ytckfdjfcikljaaa
