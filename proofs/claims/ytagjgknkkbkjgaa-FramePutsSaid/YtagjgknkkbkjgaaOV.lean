/-
  op.Get.
-/
import Derived.Test.YtagjgknkkbkjgaaJQ
import Derived.Test.YtagjgknkkbkjgaaOM
import Derived.OwnWalk
namespace Go.Proofs.Ytagjgknkkbkjgaa.V
set_option linter.unusedVariables false
set_option linter.unusedSimpArgs false
set_option maxRecDepth 100000
open Go Go.RowKit Go.Maps Wire

set_option maxRecDepth 100000
set_option linter.unusedVariables false
set_option linter.unusedSimpArgs false
theorem GS.storeTo {B : Nat} {w0 w : World} {g g5 : Nat} {st : St} {cs : Array Value} (h : GS B w0 w g g5 st cs) (k : Nat) (v : Value) (cs' : Array Value) (e : cs.setIfInBounds k v = cs') : GS B w0 (w.setCell ⟨g5, k, none⟩ v) g g5 st cs' := e ▸ h.store k v

theorem flatC_get : ∀ (l : List Claim) (i : Nat) (x : Claim), l[i]? = some x → ∀ k, k < 4 → (flatC l)[i * 4 + k]? = (cl x)[k]?
  | [], i, x, h, _, _ => by simp at h
  | y :: r, 0, x, h, k, hk => by
    simp at h; subst h
    rw [show y :: r = [y] ++ r from rfl, flatC_append, flatC_one, List.getElem?_append_left (by simp [cl]; omega)]
    simp
  | y :: r, i + 1, x, h, k, hk => by
    simp at h
    rw [show y :: r = [y] ++ r from rfl, flatC_append, flatC_one, List.getElem?_append_right (by simp [cl]; omega)]
    rw [show (i + 1) * 4 + k - (cl y).toList.length = i * 4 + k by simp [cl]; omega]
    exact flatC_get r i x h k hk
theorem owns_rowB {w : World} {B b : Nat} {cs : Array Value} {v : Value} {n : Nat} {xs : List Value} (h : w.ownsRow B 92 4 v n xs) (hb : b < B) : (w.setRow b cs).ownsRow B 92 4 v n xs := by
  refine ⟨h.1, ?_⟩
  rcases h.2 with hn | ⟨g', cap, cur, rfl, hB, hgg, rest⟩
  · exact .inl hn
  · exact .inr ⟨g', cap, cur, rfl, hB, row_ne hgg (by omega), rest⟩
theorem cells_new4 (n : Nat) (W : World) (x : Claim) (hn : n = W.heap.size) : ∀ j z, (cl x).toList[j]? = some z → (W.alloc (.cells #[.int .u8 (x.1.1 : Int), .int .u32 (x.1.2 : Int), .int .u8 (x.2.1 : Int), .int .u32 (x.2.2 : Int)] 92)).cell? ((⟨n, 0, none⟩ : Addr).add j) = some z := by
  intro j z h
  subst hn
  rw [add8, cell_of_heap (heap_alloc_last' W (.cells #[.int .u8 (x.1.1 : Int), .int .u32 (x.1.2 : Int), .int .u8 (x.2.1 : Int), .int .u32 (x.2.2 : Int)] 92)), ← h]
  rw [Array.getElem?_toList]; rfl
theorem below_app3 {w w2 : World} {B n : Nat} {v : Value} {xs : List Value} {o1 o2 o3 : Obj} (h : B ≤ w.heap.size) (hr : w.ownsRow B 92 4 v n xs) (hg : (((w.alloc o1).alloc o2).alloc o3).grownBy w2 v.ownBlock) : Below B w w2 :=
  ((((Below.refl _ _).alloc h o1).alloc (size_alloc_le h _) o2).alloc (size_alloc_le (size_alloc_le h _) _) o3).grown hg (size_alloc_le (size_alloc_le (size_alloc_le h _) _) _) (fun j e => (((hr.alloc o1).alloc o2).alloc o3 |>.lt j e).1)
theorem owns_claimsV {W : World} {base : Nat} {v : Value} {l : List Claim} (h : W.ownsRow base 92 4 v l.length (flatC l)) (hok : ∀ x ∈ l, Claim.ok x) : ClaimsV W v l := by
  rcases h.2 with ⟨rfl, hn⟩ | ⟨g', cap, cur, rfl, hB, hgg, hc, hm, hs, ht⟩
  · obtain rfl : l = [] := List.length_eq_zero_iff.1 hn
    exact ClaimsV.nil W
  · refine ⟨_, _, _, rfl, rfl, hc, hm, hok, ?_⟩
    intro i x hx k hk
    have hi := (List.getElem?_eq_some_iff.1 hx).1
    have e1 : ((⟨g', 0, none⟩ : Addr).add (i * 4)).add k = ⟨g', i * 4 + k, none⟩ := by
      unfold Addr.add
      split <;> split <;> simp_all
    rw [e1, cell_of_heap hgg, ← flatC_get l i x hx k hk, ← ht, List.getElem?_take, if_pos (by omega)]
    simp

/-- Lines that lie in a block of lines (or nowhere). -/
def ClaimsT (w : World) (v : Value) (l : List Claim) : Prop := ClaimsV w v l ∧ ∀ a n c, v = .slice (some a) n c → ∃ cs : Array Value, w.heap[a.block]? = some (.cells cs 92 (0, 0))
theorem ClaimsT.nil (w : World) : ClaimsT w (.slice none 0 0) [] := ⟨ClaimsV.nil w, fun a n c h => by cases h⟩
theorem ClaimsT.keep {w w' : World} {v : Value} {l : List Claim} (h : ClaimsT w v l) (hb : Below w.heap.size w w') : ClaimsT w' v l :=
  ⟨h.1.keep hb, fun a n c e => by obtain ⟨cs, hc⟩ := h.2 a n c e; exact ⟨cs, heap_keep hc hb⟩⟩
theorem owns_claimsT {W : World} {base : Nat} {v : Value} {l : List Claim} (h : W.ownsRow base 92 4 v l.length (flatC l)) (hok : ∀ x ∈ l, Claim.ok x) : ClaimsT W v l := by
  refine ⟨owns_claimsV h hok, fun a n c e => ?_⟩
  rcases h.2 with ⟨rfl, _⟩ | ⟨g', cap, cur, rfl, hB, hg, _⟩
  · cases e
  · obtain ⟨rfl, _, _⟩ := (by simpa using e : (⟨g', 0, none⟩ : Addr) = a ∧ _ ∧ _)
    exact ⟨cur, hg⟩

def vecOf (v : List Nat) : Vec := fun i => v.getD i 0
def takeH (s0 : St) : OpM × St :=
  let t0 := takeDot s0
  let s1 := t0.2
  let t1 := takeVec s1
  let s2 := t1.2
  let t2 := takeNum s2 m64
  let s3 := t2.2
  let t3 := takeNum s3 m32
  let s4 := t3.2
  let t4 := takeDot s4
  let s5 := t4.2
  let t5 := takeNum s5 m8
  let s6 := t5.2
  let t6 := takeDot s6
  let s7 := t6.2
  let t7 := takeNum s7 m32
  let s8 := t7.2
  let t8 := takeNum s8 m8
  let s9 := t8.2
  let t9 := takeNum s9 m8
  let s10 := t9.2
  let t10 := takeNum s10 m64
  let s11 := t10.2
  let t11 := takeDot s11
  let s12 := t11.2
  let t12 := takeDot s12
  let s13 := t12.2
  let t13 := takeNum s13 m32
  let s14 := t13.2
  let t14 := takeNum s14 m32
  let s15 := t14.2
  let t15 := takeNum s15 m32
  let s16 := t15.2
  (⟨t0.1.1, t0.1.2, (vecOf t1.1), t2.1, t3.1, t4.1.1, t4.1.2, t5.1, t6.1.1, t6.1.2, t7.1, t8.1, t9.1, t10.1, t11.1.1, t11.1.2, t12.1.1, t12.1.2, t13.1, t14.1, t15.1, .slice none 0 0⟩, s16)
def takeLs : Nat → St → List Claim × St
  | 0, st => ([], st)
  | k + 1, st => ((takeLs k st).1 ++ [((takeDot (takeLs k st).2).1, (takeDot (takeDot (takeLs k st).2).2).1)], (takeDot (takeDot (takeLs k st).2).2).2)
def setL (o : OpM) (v : Value) : OpM := { o with lv := v }
/-- What stands behind the head: how many claims, the claims, what is left. -/
def takeT (st : St) : List Claim × St := takeLs (takeNum st 16).1 (takeNum st 16).2
def getE (b : List UInt8) : Int := endOf (takeT (takeH (some b)).2).2
def getO (b : List UInt8) : OpM := if getE b = 0 then (takeH (some b)).1 else zeroO
def getL (b : List UInt8) : List Claim := if getE b = 0 then (takeT (takeH (some b)).2).1 else []
theorem endOf_vals (st : St) : endOf st = 0 ∨ endOf st = 5 := by unfold endOf; split <;> simp
theorem takeLs_len (k : Nat) (st : St) : (takeLs k st).1.length = k := by
  induction k with
  | zero => rfl
  | succ k ih => rw [takeLs, List.length_append, ih]; rfl
theorem takeLs_ok (k : Nat) (st : St) : ∀ x ∈ (takeLs k st).1, Claim.ok x := by
  induction k with
  | zero => intro x hx; cases hx
  | succ k ih =>
    intro x hx
    rw [takeLs] at hx
    rcases List.mem_append.1 hx with hx | hx
    · exact ih x hx
    · rw [List.mem_singleton] at hx
      subst hx
      exact ⟨takeDot_lt _, takeDot_lt _⟩
theorem takeH_lv (st : St) : (takeH st).1.lv = .slice none 0 0 := rfl

set_option maxHeartbeats 1000000 in
theorem op_Get (b : ByteArray) (hb : b.size ≤ 1000000) (w : World) :
    Calls Try.prog 63 #[.string b] w
      fun e w' => ∃ v, e = .returned (.tuple #[.agg (oc (setL (getO b.data.toList) v)), .int .i64 (getE b.data.toList)]) ∧ ClaimsT w' v (getL b.data.toList) ∧ Below w.heap.size w w' := by
  obtain ⟨s0, hs0⟩ : ∃ s : St, some b.data.toList = s := ⟨_, rfl⟩
  have hopen := wire_Open b hb (w.alloc (.cells #[.int .u8 0, .int .u32 0, .int .u32 0, .int .u32 0, .int .u32 0, .int .u32 0, .int .u32 0, .int .u32 0, .int .u32 0, .int .u32 0, .int .u64 0, .int .u32 0, .int .u8 0, .int .u32 0, .int .u8 0, .int .u8 0, .int .u32 0, .int .u32 0, .int .u8 0, .int .u8 0, .int .u64 0, .int .u8 0, .int .u32 0, .int .u8 0, .int .u32 0, .int .u32 0, .int .u32 0, .int .u32 0, .slice none 0 0] 50))
  have hsm : Small (some b.data.toList) := by unfold Small; simpa using hb
  rw [hs0] at hopen hsm
  have HSM := hid hsm
  clear hsm
  unfold getL getO getE
  rw [hs0]
  obtain ⟨r, n, s1, h0⟩ : ∃ a b s, takeDot s0 = ((a, b), s) := ⟨_, _, _, rfl⟩
  obtain ⟨vl0, s2, h1⟩ : ∃ v s, takeVec s1 = (v, s) := ⟨_, _, rfl⟩
  obtain ⟨x0, x1, x2, x3, x4, x5, x6, x7, rfl⟩ := list8 vl0 (by have := takeVec_len s1; rw [h1] at this; exact this)
  obtain ⟨tm, s3, h2⟩ : ∃ n s, takeNum s2 m64 = (n, s) := ⟨_, _, rfl⟩
  obtain ⟨who, s4, h3⟩ : ∃ n s, takeNum s3 m32 = (n, s) := ⟨_, _, rfl⟩
  obtain ⟨cr, cn, s5, h4⟩ : ∃ a b s, takeDot s4 = ((a, b), s) := ⟨_, _, _, rfl⟩
  obtain ⟨kd, s6, h5⟩ : ∃ n s, takeNum s5 m8 = (n, s) := ⟨_, _, rfl⟩
  obtain ⟨dr, dn, s7, h6⟩ : ∃ a b s, takeDot s6 = ((a, b), s) := ⟨_, _, _, rfl⟩
  obtain ⟨tt, s8, h7⟩ : ∃ n s, takeNum s7 m32 = (n, s) := ⟨_, _, rfl⟩
  obtain ⟨ro, s9, h8⟩ : ∃ n s, takeNum s8 m8 = (n, s) := ⟨_, _, rfl⟩
  obtain ⟨de, s10, h9⟩ : ∃ n s, takeNum s9 m8 = (n, s) := ⟨_, _, rfl⟩
  obtain ⟨cap, s11, h10⟩ : ∃ n s, takeNum s10 m64 = (n, s) := ⟨_, _, rfl⟩
  obtain ⟨ar, an, s12, h11⟩ : ∃ a b s, takeDot s11 = ((a, b), s) := ⟨_, _, _, rfl⟩
  obtain ⟨vr, vn, s13, h12⟩ : ∃ a b s, takeDot s12 = ((a, b), s) := ⟨_, _, _, rfl⟩
  obtain ⟨it, s14, h13⟩ : ∃ n s, takeNum s13 m32 = (n, s) := ⟨_, _, rfl⟩
  obtain ⟨qt, s15, h14⟩ : ∃ n s, takeNum s14 m32 = (n, s) := ⟨_, _, rfl⟩
  obtain ⟨pr, s16, h15⟩ : ∃ n s, takeNum s15 m32 = (n, s) := ⟨_, _, rfl⟩
  obtain ⟨nl, sn, hn⟩ : ∃ n s, takeNum s16 16 = (n, s) := ⟨_, _, rfl⟩
  have hH : takeH s0 = (⟨r, n, vecOf [x0, x1, x2, x3, x4, x5, x6, x7], tm, who, cr, cn, kd, dr, dn, tt, ro, de, cap, ar, an, vr, vn, it, qt, pr, .slice none 0 0⟩, s16) := by simp only [takeH, h0, h1, h2, h3, h4, h5, h6, h7, h8, h9, h10, h11, h12, h13, h14, h15]
  rw [hH]
  dsimp only
  unfold takeT
  rw [hn]
  dsimp only
  have hnl : nl ≤ 16 := by have := takeNum_le s16 16; rw [hn] at this; exact this
  have HNL := hid hnl
  clear hH hs0 hnl
  go_enter Try.func63, Try.ntmps63
  go_upto_region 2 with (first
    | (go_at_call 34; (with_reducible refine hopen.mono ?_); rintro e w1 ⟨g, rfl, hg, hr, hB1⟩; have HO := hid (And.intro hg (And.intro hr hB1)); clear hg hr hB1))
  clear hopen
  go_upto_region 3 with (fail)
  have HG0 := hid (show GS w.heap.size w (w1.alloc (.cells #[.int .u8 0, .int .u32 0, .int .u32 0, .int .u32 0, .int .u32 0, .int .u32 0, .int .u32 0, .int .u32 0, .int .u32 0, .int .u32 0, .int .u64 0, .int .u32 0, .int .u8 0, .int .u32 0, .int .u8 0, .int .u8 0, .int .u32 0, .int .u32 0, .int .u8 0, .int .u8 0, .int .u64 0, .int .u8 0, .int .u32 0, .int .u8 0, .int .u32 0, .int .u32 0, .int .u32 0, .int .u32 0, .slice none 0 0] 50)) g w1.heap.size s0 #[.int .u8 0, .int .u32 0, .int .u32 0, .int .u32 0, .int .u32 0, .int .u32 0, .int .u32 0, .int .u32 0, .int .u32 0, .int .u32 0, .int .u64 0, .int .u32 0, .int .u8 0, .int .u32 0, .int .u8 0, .int .u8 0, .int .u32 0, .int .u32 0, .int .u8 0, .int .u8 0, .int .u64 0, .int .u8 0, .int .u32 0, .int .u8 0, .int .u32 0, .int .u32 0, .int .u32 0, .int .u32 0, .slice none 0 0] from by
    have hg := HO.out.1
    have hr := HO.out.2.1
    have hB1 := HO.out.2.2
    rw [World.size_alloc] at hg
    exact ⟨hr.keep (below_al _ _), HSM.out, heap_alloc_last' _ _, heap_al ((hB1.block _ (by simp)).trans (heap_alloc_last' _ _)) _, ((below_al w _).trans (hB1.mono (by simp))).trans ((below_al w1 _).mono (Nat.le_trans (by simp) hB1.size)), by omega, lt_of_some hr⟩)
  clear HO
  go_upto_region 4 with (first | (go_at_call 76; (with_reducible refine (GS.dot HG0.out h0).mono ?_); rintro e w3 ⟨rfl, hp, hk⟩; have HP0 := hid hp; clear hp hk; have c0 := (HP0.out.cell 0).trans (show _ = some (.int .u8 0) from rfl); have c1 := (HP0.out.cell 1).trans (show _ = some (.int .u32 0) from rfl); have zf := fun k => HP0.out.free k))
  have HG1 := hid (show GS w.heap.size w ((w3.setCell ⟨w1.heap.size, 0, none⟩ (.int .u8 (r : Int))).setCell ⟨w1.heap.size, 1, none⟩ (.int .u32 (n : Int))) g w1.heap.size s1 #[.int .u8 (r : Int), .int .u32 (n : Int), .int .u32 0, .int .u32 0, .int .u32 0, .int .u32 0, .int .u32 0, .int .u32 0, .int .u32 0, .int .u32 0, .int .u64 0, .int .u32 0, .int .u8 0, .int .u32 0, .int .u8 0, .int .u8 0, .int .u32 0, .int .u32 0, .int .u8 0, .int .u8 0, .int .u64 0, .int .u8 0, .int .u32 0, .int .u8 0, .int .u32 0, .int .u32 0, .int .u32 0, .int .u32 0, .slice none 0 0] from ((HP0.out.storeTo 0 (.int .u8 (r : Int)) #[.int .u8 (r : Int), .int .u32 0, .int .u32 0, .int .u32 0, .int .u32 0, .int .u32 0, .int .u32 0, .int .u32 0, .int .u32 0, .int .u32 0, .int .u64 0, .int .u32 0, .int .u8 0, .int .u32 0, .int .u8 0, .int .u8 0, .int .u32 0, .int .u32 0, .int .u8 0, .int .u8 0, .int .u64 0, .int .u8 0, .int .u32 0, .int .u8 0, .int .u32 0, .int .u32 0, .int .u32 0, .int .u32 0, .slice none 0 0] rfl).storeTo 1 (.int .u32 (n : Int)) #[.int .u8 (r : Int), .int .u32 (n : Int), .int .u32 0, .int .u32 0, .int .u32 0, .int .u32 0, .int .u32 0, .int .u32 0, .int .u32 0, .int .u32 0, .int .u64 0, .int .u32 0, .int .u8 0, .int .u32 0, .int .u8 0, .int .u8 0, .int .u32 0, .int .u32 0, .int .u8 0, .int .u8 0, .int .u64 0, .int .u8 0, .int .u32 0, .int .u8 0, .int .u32 0, .int .u32 0, .int .u32 0, .int .u32 0, .slice none 0 0] rfl))
  clear HP0 HG0 h0
  go_upto_region 5 with (first | (go_at_call 36; (with_reducible refine (GS.vec HG1.out h1).mono ?_); rintro e w4 ⟨rfl, hp, hk⟩; have HP1 := hid hp; clear hp hk c0 c1 zf; have c2 := (HP1.out.cell 2).trans (show _ = some (.int .u32 0) from rfl); have c3 := (HP1.out.cell 3).trans (show _ = some (.int .u32 0) from rfl); have c4 := (HP1.out.cell 4).trans (show _ = some (.int .u32 0) from rfl); have c5 := (HP1.out.cell 5).trans (show _ = some (.int .u32 0) from rfl); have c6 := (HP1.out.cell 6).trans (show _ = some (.int .u32 0) from rfl); have c7 := (HP1.out.cell 7).trans (show _ = some (.int .u32 0) from rfl); have c8 := (HP1.out.cell 8).trans (show _ = some (.int .u32 0) from rfl); have c9 := (HP1.out.cell 9).trans (show _ = some (.int .u32 0) from rfl); have zf := fun k => HP1.out.free k))
  have HG2 := hid (show GS w.heap.size w ((((((((w4.setCell ⟨w1.heap.size, 2, none⟩ (.int .u32 (x0 : Int))).setCell ⟨w1.heap.size, 3, none⟩ (.int .u32 (x1 : Int))).setCell ⟨w1.heap.size, 4, none⟩ (.int .u32 (x2 : Int))).setCell ⟨w1.heap.size, 5, none⟩ (.int .u32 (x3 : Int))).setCell ⟨w1.heap.size, 6, none⟩ (.int .u32 (x4 : Int))).setCell ⟨w1.heap.size, 7, none⟩ (.int .u32 (x5 : Int))).setCell ⟨w1.heap.size, 8, none⟩ (.int .u32 (x6 : Int))).setCell ⟨w1.heap.size, 9, none⟩ (.int .u32 (x7 : Int))) g w1.heap.size s2 #[.int .u8 (r : Int), .int .u32 (n : Int), .int .u32 (x0 : Int), .int .u32 (x1 : Int), .int .u32 (x2 : Int), .int .u32 (x3 : Int), .int .u32 (x4 : Int), .int .u32 (x5 : Int), .int .u32 (x6 : Int), .int .u32 (x7 : Int), .int .u64 0, .int .u32 0, .int .u8 0, .int .u32 0, .int .u8 0, .int .u8 0, .int .u32 0, .int .u32 0, .int .u8 0, .int .u8 0, .int .u64 0, .int .u8 0, .int .u32 0, .int .u8 0, .int .u32 0, .int .u32 0, .int .u32 0, .int .u32 0, .slice none 0 0] from ((((((((HP1.out.storeTo 2 (.int .u32 (x0 : Int)) #[.int .u8 (r : Int), .int .u32 (n : Int), .int .u32 (x0 : Int), .int .u32 0, .int .u32 0, .int .u32 0, .int .u32 0, .int .u32 0, .int .u32 0, .int .u32 0, .int .u64 0, .int .u32 0, .int .u8 0, .int .u32 0, .int .u8 0, .int .u8 0, .int .u32 0, .int .u32 0, .int .u8 0, .int .u8 0, .int .u64 0, .int .u8 0, .int .u32 0, .int .u8 0, .int .u32 0, .int .u32 0, .int .u32 0, .int .u32 0, .slice none 0 0] rfl).storeTo 3 (.int .u32 (x1 : Int)) #[.int .u8 (r : Int), .int .u32 (n : Int), .int .u32 (x0 : Int), .int .u32 (x1 : Int), .int .u32 0, .int .u32 0, .int .u32 0, .int .u32 0, .int .u32 0, .int .u32 0, .int .u64 0, .int .u32 0, .int .u8 0, .int .u32 0, .int .u8 0, .int .u8 0, .int .u32 0, .int .u32 0, .int .u8 0, .int .u8 0, .int .u64 0, .int .u8 0, .int .u32 0, .int .u8 0, .int .u32 0, .int .u32 0, .int .u32 0, .int .u32 0, .slice none 0 0] rfl).storeTo 4 (.int .u32 (x2 : Int)) #[.int .u8 (r : Int), .int .u32 (n : Int), .int .u32 (x0 : Int), .int .u32 (x1 : Int), .int .u32 (x2 : Int), .int .u32 0, .int .u32 0, .int .u32 0, .int .u32 0, .int .u32 0, .int .u64 0, .int .u32 0, .int .u8 0, .int .u32 0, .int .u8 0, .int .u8 0, .int .u32 0, .int .u32 0, .int .u8 0, .int .u8 0, .int .u64 0, .int .u8 0, .int .u32 0, .int .u8 0, .int .u32 0, .int .u32 0, .int .u32 0, .int .u32 0, .slice none 0 0] rfl).storeTo 5 (.int .u32 (x3 : Int)) #[.int .u8 (r : Int), .int .u32 (n : Int), .int .u32 (x0 : Int), .int .u32 (x1 : Int), .int .u32 (x2 : Int), .int .u32 (x3 : Int), .int .u32 0, .int .u32 0, .int .u32 0, .int .u32 0, .int .u64 0, .int .u32 0, .int .u8 0, .int .u32 0, .int .u8 0, .int .u8 0, .int .u32 0, .int .u32 0, .int .u8 0, .int .u8 0, .int .u64 0, .int .u8 0, .int .u32 0, .int .u8 0, .int .u32 0, .int .u32 0, .int .u32 0, .int .u32 0, .slice none 0 0] rfl).storeTo 6 (.int .u32 (x4 : Int)) #[.int .u8 (r : Int), .int .u32 (n : Int), .int .u32 (x0 : Int), .int .u32 (x1 : Int), .int .u32 (x2 : Int), .int .u32 (x3 : Int), .int .u32 (x4 : Int), .int .u32 0, .int .u32 0, .int .u32 0, .int .u64 0, .int .u32 0, .int .u8 0, .int .u32 0, .int .u8 0, .int .u8 0, .int .u32 0, .int .u32 0, .int .u8 0, .int .u8 0, .int .u64 0, .int .u8 0, .int .u32 0, .int .u8 0, .int .u32 0, .int .u32 0, .int .u32 0, .int .u32 0, .slice none 0 0] rfl).storeTo 7 (.int .u32 (x5 : Int)) #[.int .u8 (r : Int), .int .u32 (n : Int), .int .u32 (x0 : Int), .int .u32 (x1 : Int), .int .u32 (x2 : Int), .int .u32 (x3 : Int), .int .u32 (x4 : Int), .int .u32 (x5 : Int), .int .u32 0, .int .u32 0, .int .u64 0, .int .u32 0, .int .u8 0, .int .u32 0, .int .u8 0, .int .u8 0, .int .u32 0, .int .u32 0, .int .u8 0, .int .u8 0, .int .u64 0, .int .u8 0, .int .u32 0, .int .u8 0, .int .u32 0, .int .u32 0, .int .u32 0, .int .u32 0, .slice none 0 0] rfl).storeTo 8 (.int .u32 (x6 : Int)) #[.int .u8 (r : Int), .int .u32 (n : Int), .int .u32 (x0 : Int), .int .u32 (x1 : Int), .int .u32 (x2 : Int), .int .u32 (x3 : Int), .int .u32 (x4 : Int), .int .u32 (x5 : Int), .int .u32 (x6 : Int), .int .u32 0, .int .u64 0, .int .u32 0, .int .u8 0, .int .u32 0, .int .u8 0, .int .u8 0, .int .u32 0, .int .u32 0, .int .u8 0, .int .u8 0, .int .u64 0, .int .u8 0, .int .u32 0, .int .u8 0, .int .u32 0, .int .u32 0, .int .u32 0, .int .u32 0, .slice none 0 0] rfl).storeTo 9 (.int .u32 (x7 : Int)) #[.int .u8 (r : Int), .int .u32 (n : Int), .int .u32 (x0 : Int), .int .u32 (x1 : Int), .int .u32 (x2 : Int), .int .u32 (x3 : Int), .int .u32 (x4 : Int), .int .u32 (x5 : Int), .int .u32 (x6 : Int), .int .u32 (x7 : Int), .int .u64 0, .int .u32 0, .int .u8 0, .int .u32 0, .int .u8 0, .int .u8 0, .int .u32 0, .int .u32 0, .int .u8 0, .int .u8 0, .int .u64 0, .int .u8 0, .int .u32 0, .int .u8 0, .int .u32 0, .int .u32 0, .int .u32 0, .int .u32 0, .slice none 0 0] rfl))
  clear HP1 HG1 h1
  go_upto_region 6 with (first | (go_at_call 77; (with_reducible refine (GS.num64 HG2.out h2).mono ?_); rintro e w5 ⟨rfl, hp, hk⟩; have HP2 := hid hp; clear hp hk c2 c3 c4 c5 c6 c7 c8 c9 zf; have c10 := (HP2.out.cell 10).trans (show _ = some (.int .u64 0) from rfl); have zf := fun k => HP2.out.free k))
  have HG3 := hid (show GS w.heap.size w (w5.setCell ⟨w1.heap.size, 10, none⟩ (.int .u64 (tm : Int))) g w1.heap.size s3 #[.int .u8 (r : Int), .int .u32 (n : Int), .int .u32 (x0 : Int), .int .u32 (x1 : Int), .int .u32 (x2 : Int), .int .u32 (x3 : Int), .int .u32 (x4 : Int), .int .u32 (x5 : Int), .int .u32 (x6 : Int), .int .u32 (x7 : Int), .int .u64 (tm : Int), .int .u32 0, .int .u8 0, .int .u32 0, .int .u8 0, .int .u8 0, .int .u32 0, .int .u32 0, .int .u8 0, .int .u8 0, .int .u64 0, .int .u8 0, .int .u32 0, .int .u8 0, .int .u32 0, .int .u32 0, .int .u32 0, .int .u32 0, .slice none 0 0] from (HP2.out.storeTo 10 (.int .u64 (tm : Int)) #[.int .u8 (r : Int), .int .u32 (n : Int), .int .u32 (x0 : Int), .int .u32 (x1 : Int), .int .u32 (x2 : Int), .int .u32 (x3 : Int), .int .u32 (x4 : Int), .int .u32 (x5 : Int), .int .u32 (x6 : Int), .int .u32 (x7 : Int), .int .u64 (tm : Int), .int .u32 0, .int .u8 0, .int .u32 0, .int .u8 0, .int .u8 0, .int .u32 0, .int .u32 0, .int .u8 0, .int .u8 0, .int .u64 0, .int .u8 0, .int .u32 0, .int .u8 0, .int .u32 0, .int .u32 0, .int .u32 0, .int .u32 0, .slice none 0 0] rfl))
  clear HP2 HG2 h2
  go_upto_region 7 with (first | (go_at_call 78; (with_reducible refine (GS.num32 HG3.out h3).mono ?_); rintro e w6 ⟨rfl, hp, hk⟩; have HP3 := hid hp; clear hp hk c10 zf; have c11 := (HP3.out.cell 11).trans (show _ = some (.int .u32 0) from rfl); have zf := fun k => HP3.out.free k))
  have HG4 := hid (show GS w.heap.size w (w6.setCell ⟨w1.heap.size, 11, none⟩ (.int .u32 (who : Int))) g w1.heap.size s4 #[.int .u8 (r : Int), .int .u32 (n : Int), .int .u32 (x0 : Int), .int .u32 (x1 : Int), .int .u32 (x2 : Int), .int .u32 (x3 : Int), .int .u32 (x4 : Int), .int .u32 (x5 : Int), .int .u32 (x6 : Int), .int .u32 (x7 : Int), .int .u64 (tm : Int), .int .u32 (who : Int), .int .u8 0, .int .u32 0, .int .u8 0, .int .u8 0, .int .u32 0, .int .u32 0, .int .u8 0, .int .u8 0, .int .u64 0, .int .u8 0, .int .u32 0, .int .u8 0, .int .u32 0, .int .u32 0, .int .u32 0, .int .u32 0, .slice none 0 0] from (HP3.out.storeTo 11 (.int .u32 (who : Int)) #[.int .u8 (r : Int), .int .u32 (n : Int), .int .u32 (x0 : Int), .int .u32 (x1 : Int), .int .u32 (x2 : Int), .int .u32 (x3 : Int), .int .u32 (x4 : Int), .int .u32 (x5 : Int), .int .u32 (x6 : Int), .int .u32 (x7 : Int), .int .u64 (tm : Int), .int .u32 (who : Int), .int .u8 0, .int .u32 0, .int .u8 0, .int .u8 0, .int .u32 0, .int .u32 0, .int .u8 0, .int .u8 0, .int .u64 0, .int .u8 0, .int .u32 0, .int .u8 0, .int .u32 0, .int .u32 0, .int .u32 0, .int .u32 0, .slice none 0 0] rfl))
  clear HP3 HG3 h3
  go_upto_region 8 with (first | (go_at_call 76; (with_reducible refine (GS.dot HG4.out h4).mono ?_); rintro e w7 ⟨rfl, hp, hk⟩; have HP4 := hid hp; clear hp hk c11 zf; have c12 := (HP4.out.cell 12).trans (show _ = some (.int .u8 0) from rfl); have c13 := (HP4.out.cell 13).trans (show _ = some (.int .u32 0) from rfl); have zf := fun k => HP4.out.free k))
  have HG5 := hid (show GS w.heap.size w ((w7.setCell ⟨w1.heap.size, 12, none⟩ (.int .u8 (cr : Int))).setCell ⟨w1.heap.size, 13, none⟩ (.int .u32 (cn : Int))) g w1.heap.size s5 #[.int .u8 (r : Int), .int .u32 (n : Int), .int .u32 (x0 : Int), .int .u32 (x1 : Int), .int .u32 (x2 : Int), .int .u32 (x3 : Int), .int .u32 (x4 : Int), .int .u32 (x5 : Int), .int .u32 (x6 : Int), .int .u32 (x7 : Int), .int .u64 (tm : Int), .int .u32 (who : Int), .int .u8 (cr : Int), .int .u32 (cn : Int), .int .u8 0, .int .u8 0, .int .u32 0, .int .u32 0, .int .u8 0, .int .u8 0, .int .u64 0, .int .u8 0, .int .u32 0, .int .u8 0, .int .u32 0, .int .u32 0, .int .u32 0, .int .u32 0, .slice none 0 0] from ((HP4.out.storeTo 12 (.int .u8 (cr : Int)) #[.int .u8 (r : Int), .int .u32 (n : Int), .int .u32 (x0 : Int), .int .u32 (x1 : Int), .int .u32 (x2 : Int), .int .u32 (x3 : Int), .int .u32 (x4 : Int), .int .u32 (x5 : Int), .int .u32 (x6 : Int), .int .u32 (x7 : Int), .int .u64 (tm : Int), .int .u32 (who : Int), .int .u8 (cr : Int), .int .u32 0, .int .u8 0, .int .u8 0, .int .u32 0, .int .u32 0, .int .u8 0, .int .u8 0, .int .u64 0, .int .u8 0, .int .u32 0, .int .u8 0, .int .u32 0, .int .u32 0, .int .u32 0, .int .u32 0, .slice none 0 0] rfl).storeTo 13 (.int .u32 (cn : Int)) #[.int .u8 (r : Int), .int .u32 (n : Int), .int .u32 (x0 : Int), .int .u32 (x1 : Int), .int .u32 (x2 : Int), .int .u32 (x3 : Int), .int .u32 (x4 : Int), .int .u32 (x5 : Int), .int .u32 (x6 : Int), .int .u32 (x7 : Int), .int .u64 (tm : Int), .int .u32 (who : Int), .int .u8 (cr : Int), .int .u32 (cn : Int), .int .u8 0, .int .u8 0, .int .u32 0, .int .u32 0, .int .u8 0, .int .u8 0, .int .u64 0, .int .u8 0, .int .u32 0, .int .u8 0, .int .u32 0, .int .u32 0, .int .u32 0, .int .u32 0, .slice none 0 0] rfl))
  clear HP4 HG4 h4
  go_upto_region 9 with (first | (go_at_call 79; (with_reducible refine (GS.num8 HG5.out h5).mono ?_); rintro e w8 ⟨rfl, hp, hk⟩; have HP5 := hid hp; clear hp hk c12 c13 zf; have c14 := (HP5.out.cell 14).trans (show _ = some (.int .u8 0) from rfl); have zf := fun k => HP5.out.free k))
  have HG6 := hid (show GS w.heap.size w (w8.setCell ⟨w1.heap.size, 14, none⟩ (.int .u8 (kd : Int))) g w1.heap.size s6 #[.int .u8 (r : Int), .int .u32 (n : Int), .int .u32 (x0 : Int), .int .u32 (x1 : Int), .int .u32 (x2 : Int), .int .u32 (x3 : Int), .int .u32 (x4 : Int), .int .u32 (x5 : Int), .int .u32 (x6 : Int), .int .u32 (x7 : Int), .int .u64 (tm : Int), .int .u32 (who : Int), .int .u8 (cr : Int), .int .u32 (cn : Int), .int .u8 (kd : Int), .int .u8 0, .int .u32 0, .int .u32 0, .int .u8 0, .int .u8 0, .int .u64 0, .int .u8 0, .int .u32 0, .int .u8 0, .int .u32 0, .int .u32 0, .int .u32 0, .int .u32 0, .slice none 0 0] from (HP5.out.storeTo 14 (.int .u8 (kd : Int)) #[.int .u8 (r : Int), .int .u32 (n : Int), .int .u32 (x0 : Int), .int .u32 (x1 : Int), .int .u32 (x2 : Int), .int .u32 (x3 : Int), .int .u32 (x4 : Int), .int .u32 (x5 : Int), .int .u32 (x6 : Int), .int .u32 (x7 : Int), .int .u64 (tm : Int), .int .u32 (who : Int), .int .u8 (cr : Int), .int .u32 (cn : Int), .int .u8 (kd : Int), .int .u8 0, .int .u32 0, .int .u32 0, .int .u8 0, .int .u8 0, .int .u64 0, .int .u8 0, .int .u32 0, .int .u8 0, .int .u32 0, .int .u32 0, .int .u32 0, .int .u32 0, .slice none 0 0] rfl))
  clear HP5 HG5 h5
  go_upto_region 10 with (first | (go_at_call 76; (with_reducible refine (GS.dot HG6.out h6).mono ?_); rintro e w9 ⟨rfl, hp, hk⟩; have HP6 := hid hp; clear hp hk c14 zf; have c15 := (HP6.out.cell 15).trans (show _ = some (.int .u8 0) from rfl); have c16 := (HP6.out.cell 16).trans (show _ = some (.int .u32 0) from rfl); have zf := fun k => HP6.out.free k))
  have HG7 := hid (show GS w.heap.size w ((w9.setCell ⟨w1.heap.size, 15, none⟩ (.int .u8 (dr : Int))).setCell ⟨w1.heap.size, 16, none⟩ (.int .u32 (dn : Int))) g w1.heap.size s7 #[.int .u8 (r : Int), .int .u32 (n : Int), .int .u32 (x0 : Int), .int .u32 (x1 : Int), .int .u32 (x2 : Int), .int .u32 (x3 : Int), .int .u32 (x4 : Int), .int .u32 (x5 : Int), .int .u32 (x6 : Int), .int .u32 (x7 : Int), .int .u64 (tm : Int), .int .u32 (who : Int), .int .u8 (cr : Int), .int .u32 (cn : Int), .int .u8 (kd : Int), .int .u8 (dr : Int), .int .u32 (dn : Int), .int .u32 0, .int .u8 0, .int .u8 0, .int .u64 0, .int .u8 0, .int .u32 0, .int .u8 0, .int .u32 0, .int .u32 0, .int .u32 0, .int .u32 0, .slice none 0 0] from ((HP6.out.storeTo 15 (.int .u8 (dr : Int)) #[.int .u8 (r : Int), .int .u32 (n : Int), .int .u32 (x0 : Int), .int .u32 (x1 : Int), .int .u32 (x2 : Int), .int .u32 (x3 : Int), .int .u32 (x4 : Int), .int .u32 (x5 : Int), .int .u32 (x6 : Int), .int .u32 (x7 : Int), .int .u64 (tm : Int), .int .u32 (who : Int), .int .u8 (cr : Int), .int .u32 (cn : Int), .int .u8 (kd : Int), .int .u8 (dr : Int), .int .u32 0, .int .u32 0, .int .u8 0, .int .u8 0, .int .u64 0, .int .u8 0, .int .u32 0, .int .u8 0, .int .u32 0, .int .u32 0, .int .u32 0, .int .u32 0, .slice none 0 0] rfl).storeTo 16 (.int .u32 (dn : Int)) #[.int .u8 (r : Int), .int .u32 (n : Int), .int .u32 (x0 : Int), .int .u32 (x1 : Int), .int .u32 (x2 : Int), .int .u32 (x3 : Int), .int .u32 (x4 : Int), .int .u32 (x5 : Int), .int .u32 (x6 : Int), .int .u32 (x7 : Int), .int .u64 (tm : Int), .int .u32 (who : Int), .int .u8 (cr : Int), .int .u32 (cn : Int), .int .u8 (kd : Int), .int .u8 (dr : Int), .int .u32 (dn : Int), .int .u32 0, .int .u8 0, .int .u8 0, .int .u64 0, .int .u8 0, .int .u32 0, .int .u8 0, .int .u32 0, .int .u32 0, .int .u32 0, .int .u32 0, .slice none 0 0] rfl))
  clear HP6 HG6 h6
  go_upto_region 11 with (first | (go_at_call 78; (with_reducible refine (GS.num32 HG7.out h7).mono ?_); rintro e w10 ⟨rfl, hp, hk⟩; have HP7 := hid hp; clear hp hk c15 c16 zf; have c17 := (HP7.out.cell 17).trans (show _ = some (.int .u32 0) from rfl); have zf := fun k => HP7.out.free k))
  have HG8 := hid (show GS w.heap.size w (w10.setCell ⟨w1.heap.size, 17, none⟩ (.int .u32 (tt : Int))) g w1.heap.size s8 #[.int .u8 (r : Int), .int .u32 (n : Int), .int .u32 (x0 : Int), .int .u32 (x1 : Int), .int .u32 (x2 : Int), .int .u32 (x3 : Int), .int .u32 (x4 : Int), .int .u32 (x5 : Int), .int .u32 (x6 : Int), .int .u32 (x7 : Int), .int .u64 (tm : Int), .int .u32 (who : Int), .int .u8 (cr : Int), .int .u32 (cn : Int), .int .u8 (kd : Int), .int .u8 (dr : Int), .int .u32 (dn : Int), .int .u32 (tt : Int), .int .u8 0, .int .u8 0, .int .u64 0, .int .u8 0, .int .u32 0, .int .u8 0, .int .u32 0, .int .u32 0, .int .u32 0, .int .u32 0, .slice none 0 0] from (HP7.out.storeTo 17 (.int .u32 (tt : Int)) #[.int .u8 (r : Int), .int .u32 (n : Int), .int .u32 (x0 : Int), .int .u32 (x1 : Int), .int .u32 (x2 : Int), .int .u32 (x3 : Int), .int .u32 (x4 : Int), .int .u32 (x5 : Int), .int .u32 (x6 : Int), .int .u32 (x7 : Int), .int .u64 (tm : Int), .int .u32 (who : Int), .int .u8 (cr : Int), .int .u32 (cn : Int), .int .u8 (kd : Int), .int .u8 (dr : Int), .int .u32 (dn : Int), .int .u32 (tt : Int), .int .u8 0, .int .u8 0, .int .u64 0, .int .u8 0, .int .u32 0, .int .u8 0, .int .u32 0, .int .u32 0, .int .u32 0, .int .u32 0, .slice none 0 0] rfl))
  clear HP7 HG7 h7
  go_upto_region 12 with (first | (go_at_call 79; (with_reducible refine (GS.num8 HG8.out h8).mono ?_); rintro e w11 ⟨rfl, hp, hk⟩; have HP8 := hid hp; clear hp hk c17 zf; have c18 := (HP8.out.cell 18).trans (show _ = some (.int .u8 0) from rfl); have zf := fun k => HP8.out.free k))
  have HG9 := hid (show GS w.heap.size w (w11.setCell ⟨w1.heap.size, 18, none⟩ (.int .u8 (ro : Int))) g w1.heap.size s9 #[.int .u8 (r : Int), .int .u32 (n : Int), .int .u32 (x0 : Int), .int .u32 (x1 : Int), .int .u32 (x2 : Int), .int .u32 (x3 : Int), .int .u32 (x4 : Int), .int .u32 (x5 : Int), .int .u32 (x6 : Int), .int .u32 (x7 : Int), .int .u64 (tm : Int), .int .u32 (who : Int), .int .u8 (cr : Int), .int .u32 (cn : Int), .int .u8 (kd : Int), .int .u8 (dr : Int), .int .u32 (dn : Int), .int .u32 (tt : Int), .int .u8 (ro : Int), .int .u8 0, .int .u64 0, .int .u8 0, .int .u32 0, .int .u8 0, .int .u32 0, .int .u32 0, .int .u32 0, .int .u32 0, .slice none 0 0] from (HP8.out.storeTo 18 (.int .u8 (ro : Int)) #[.int .u8 (r : Int), .int .u32 (n : Int), .int .u32 (x0 : Int), .int .u32 (x1 : Int), .int .u32 (x2 : Int), .int .u32 (x3 : Int), .int .u32 (x4 : Int), .int .u32 (x5 : Int), .int .u32 (x6 : Int), .int .u32 (x7 : Int), .int .u64 (tm : Int), .int .u32 (who : Int), .int .u8 (cr : Int), .int .u32 (cn : Int), .int .u8 (kd : Int), .int .u8 (dr : Int), .int .u32 (dn : Int), .int .u32 (tt : Int), .int .u8 (ro : Int), .int .u8 0, .int .u64 0, .int .u8 0, .int .u32 0, .int .u8 0, .int .u32 0, .int .u32 0, .int .u32 0, .int .u32 0, .slice none 0 0] rfl))
  clear HP8 HG8 h8
  go_upto_region 13 with (first | (go_at_call 79; (with_reducible refine (GS.num8 HG9.out h9).mono ?_); rintro e w12 ⟨rfl, hp, hk⟩; have HP9 := hid hp; clear hp hk c18 zf; have c19 := (HP9.out.cell 19).trans (show _ = some (.int .u8 0) from rfl); have zf := fun k => HP9.out.free k))
  have HG10 := hid (show GS w.heap.size w (w12.setCell ⟨w1.heap.size, 19, none⟩ (.int .u8 (de : Int))) g w1.heap.size s10 #[.int .u8 (r : Int), .int .u32 (n : Int), .int .u32 (x0 : Int), .int .u32 (x1 : Int), .int .u32 (x2 : Int), .int .u32 (x3 : Int), .int .u32 (x4 : Int), .int .u32 (x5 : Int), .int .u32 (x6 : Int), .int .u32 (x7 : Int), .int .u64 (tm : Int), .int .u32 (who : Int), .int .u8 (cr : Int), .int .u32 (cn : Int), .int .u8 (kd : Int), .int .u8 (dr : Int), .int .u32 (dn : Int), .int .u32 (tt : Int), .int .u8 (ro : Int), .int .u8 (de : Int), .int .u64 0, .int .u8 0, .int .u32 0, .int .u8 0, .int .u32 0, .int .u32 0, .int .u32 0, .int .u32 0, .slice none 0 0] from (HP9.out.storeTo 19 (.int .u8 (de : Int)) #[.int .u8 (r : Int), .int .u32 (n : Int), .int .u32 (x0 : Int), .int .u32 (x1 : Int), .int .u32 (x2 : Int), .int .u32 (x3 : Int), .int .u32 (x4 : Int), .int .u32 (x5 : Int), .int .u32 (x6 : Int), .int .u32 (x7 : Int), .int .u64 (tm : Int), .int .u32 (who : Int), .int .u8 (cr : Int), .int .u32 (cn : Int), .int .u8 (kd : Int), .int .u8 (dr : Int), .int .u32 (dn : Int), .int .u32 (tt : Int), .int .u8 (ro : Int), .int .u8 (de : Int), .int .u64 0, .int .u8 0, .int .u32 0, .int .u8 0, .int .u32 0, .int .u32 0, .int .u32 0, .int .u32 0, .slice none 0 0] rfl))
  clear HP9 HG9 h9
  go_upto_region 14 with (first | (go_at_call 77; (with_reducible refine (GS.num64 HG10.out h10).mono ?_); rintro e w13 ⟨rfl, hp, hk⟩; have HP10 := hid hp; clear hp hk c19 zf; have c20 := (HP10.out.cell 20).trans (show _ = some (.int .u64 0) from rfl); have zf := fun k => HP10.out.free k))
  have HG11 := hid (show GS w.heap.size w (w13.setCell ⟨w1.heap.size, 20, none⟩ (.int .u64 (cap : Int))) g w1.heap.size s11 #[.int .u8 (r : Int), .int .u32 (n : Int), .int .u32 (x0 : Int), .int .u32 (x1 : Int), .int .u32 (x2 : Int), .int .u32 (x3 : Int), .int .u32 (x4 : Int), .int .u32 (x5 : Int), .int .u32 (x6 : Int), .int .u32 (x7 : Int), .int .u64 (tm : Int), .int .u32 (who : Int), .int .u8 (cr : Int), .int .u32 (cn : Int), .int .u8 (kd : Int), .int .u8 (dr : Int), .int .u32 (dn : Int), .int .u32 (tt : Int), .int .u8 (ro : Int), .int .u8 (de : Int), .int .u64 (cap : Int), .int .u8 0, .int .u32 0, .int .u8 0, .int .u32 0, .int .u32 0, .int .u32 0, .int .u32 0, .slice none 0 0] from (HP10.out.storeTo 20 (.int .u64 (cap : Int)) #[.int .u8 (r : Int), .int .u32 (n : Int), .int .u32 (x0 : Int), .int .u32 (x1 : Int), .int .u32 (x2 : Int), .int .u32 (x3 : Int), .int .u32 (x4 : Int), .int .u32 (x5 : Int), .int .u32 (x6 : Int), .int .u32 (x7 : Int), .int .u64 (tm : Int), .int .u32 (who : Int), .int .u8 (cr : Int), .int .u32 (cn : Int), .int .u8 (kd : Int), .int .u8 (dr : Int), .int .u32 (dn : Int), .int .u32 (tt : Int), .int .u8 (ro : Int), .int .u8 (de : Int), .int .u64 (cap : Int), .int .u8 0, .int .u32 0, .int .u8 0, .int .u32 0, .int .u32 0, .int .u32 0, .int .u32 0, .slice none 0 0] rfl))
  clear HP10 HG10 h10
  go_upto_region 15 with (first | (go_at_call 76; (with_reducible refine (GS.dot HG11.out h11).mono ?_); rintro e w14 ⟨rfl, hp, hk⟩; have HP11 := hid hp; clear hp hk c20 zf; have c21 := (HP11.out.cell 21).trans (show _ = some (.int .u8 0) from rfl); have c22 := (HP11.out.cell 22).trans (show _ = some (.int .u32 0) from rfl); have zf := fun k => HP11.out.free k))
  have HG12 := hid (show GS w.heap.size w ((w14.setCell ⟨w1.heap.size, 21, none⟩ (.int .u8 (ar : Int))).setCell ⟨w1.heap.size, 22, none⟩ (.int .u32 (an : Int))) g w1.heap.size s12 #[.int .u8 (r : Int), .int .u32 (n : Int), .int .u32 (x0 : Int), .int .u32 (x1 : Int), .int .u32 (x2 : Int), .int .u32 (x3 : Int), .int .u32 (x4 : Int), .int .u32 (x5 : Int), .int .u32 (x6 : Int), .int .u32 (x7 : Int), .int .u64 (tm : Int), .int .u32 (who : Int), .int .u8 (cr : Int), .int .u32 (cn : Int), .int .u8 (kd : Int), .int .u8 (dr : Int), .int .u32 (dn : Int), .int .u32 (tt : Int), .int .u8 (ro : Int), .int .u8 (de : Int), .int .u64 (cap : Int), .int .u8 (ar : Int), .int .u32 (an : Int), .int .u8 0, .int .u32 0, .int .u32 0, .int .u32 0, .int .u32 0, .slice none 0 0] from ((HP11.out.storeTo 21 (.int .u8 (ar : Int)) #[.int .u8 (r : Int), .int .u32 (n : Int), .int .u32 (x0 : Int), .int .u32 (x1 : Int), .int .u32 (x2 : Int), .int .u32 (x3 : Int), .int .u32 (x4 : Int), .int .u32 (x5 : Int), .int .u32 (x6 : Int), .int .u32 (x7 : Int), .int .u64 (tm : Int), .int .u32 (who : Int), .int .u8 (cr : Int), .int .u32 (cn : Int), .int .u8 (kd : Int), .int .u8 (dr : Int), .int .u32 (dn : Int), .int .u32 (tt : Int), .int .u8 (ro : Int), .int .u8 (de : Int), .int .u64 (cap : Int), .int .u8 (ar : Int), .int .u32 0, .int .u8 0, .int .u32 0, .int .u32 0, .int .u32 0, .int .u32 0, .slice none 0 0] rfl).storeTo 22 (.int .u32 (an : Int)) #[.int .u8 (r : Int), .int .u32 (n : Int), .int .u32 (x0 : Int), .int .u32 (x1 : Int), .int .u32 (x2 : Int), .int .u32 (x3 : Int), .int .u32 (x4 : Int), .int .u32 (x5 : Int), .int .u32 (x6 : Int), .int .u32 (x7 : Int), .int .u64 (tm : Int), .int .u32 (who : Int), .int .u8 (cr : Int), .int .u32 (cn : Int), .int .u8 (kd : Int), .int .u8 (dr : Int), .int .u32 (dn : Int), .int .u32 (tt : Int), .int .u8 (ro : Int), .int .u8 (de : Int), .int .u64 (cap : Int), .int .u8 (ar : Int), .int .u32 (an : Int), .int .u8 0, .int .u32 0, .int .u32 0, .int .u32 0, .int .u32 0, .slice none 0 0] rfl))
  clear HP11 HG11 h11
  go_upto_region 16 with (first | (go_at_call 76; (with_reducible refine (GS.dot HG12.out h12).mono ?_); rintro e w15 ⟨rfl, hp, hk⟩; have HP12 := hid hp; clear hp hk c21 c22 zf; have c23 := (HP12.out.cell 23).trans (show _ = some (.int .u8 0) from rfl); have c24 := (HP12.out.cell 24).trans (show _ = some (.int .u32 0) from rfl); have zf := fun k => HP12.out.free k))
  have HG13 := hid (show GS w.heap.size w ((w15.setCell ⟨w1.heap.size, 23, none⟩ (.int .u8 (vr : Int))).setCell ⟨w1.heap.size, 24, none⟩ (.int .u32 (vn : Int))) g w1.heap.size s13 #[.int .u8 (r : Int), .int .u32 (n : Int), .int .u32 (x0 : Int), .int .u32 (x1 : Int), .int .u32 (x2 : Int), .int .u32 (x3 : Int), .int .u32 (x4 : Int), .int .u32 (x5 : Int), .int .u32 (x6 : Int), .int .u32 (x7 : Int), .int .u64 (tm : Int), .int .u32 (who : Int), .int .u8 (cr : Int), .int .u32 (cn : Int), .int .u8 (kd : Int), .int .u8 (dr : Int), .int .u32 (dn : Int), .int .u32 (tt : Int), .int .u8 (ro : Int), .int .u8 (de : Int), .int .u64 (cap : Int), .int .u8 (ar : Int), .int .u32 (an : Int), .int .u8 (vr : Int), .int .u32 (vn : Int), .int .u32 0, .int .u32 0, .int .u32 0, .slice none 0 0] from ((HP12.out.storeTo 23 (.int .u8 (vr : Int)) #[.int .u8 (r : Int), .int .u32 (n : Int), .int .u32 (x0 : Int), .int .u32 (x1 : Int), .int .u32 (x2 : Int), .int .u32 (x3 : Int), .int .u32 (x4 : Int), .int .u32 (x5 : Int), .int .u32 (x6 : Int), .int .u32 (x7 : Int), .int .u64 (tm : Int), .int .u32 (who : Int), .int .u8 (cr : Int), .int .u32 (cn : Int), .int .u8 (kd : Int), .int .u8 (dr : Int), .int .u32 (dn : Int), .int .u32 (tt : Int), .int .u8 (ro : Int), .int .u8 (de : Int), .int .u64 (cap : Int), .int .u8 (ar : Int), .int .u32 (an : Int), .int .u8 (vr : Int), .int .u32 0, .int .u32 0, .int .u32 0, .int .u32 0, .slice none 0 0] rfl).storeTo 24 (.int .u32 (vn : Int)) #[.int .u8 (r : Int), .int .u32 (n : Int), .int .u32 (x0 : Int), .int .u32 (x1 : Int), .int .u32 (x2 : Int), .int .u32 (x3 : Int), .int .u32 (x4 : Int), .int .u32 (x5 : Int), .int .u32 (x6 : Int), .int .u32 (x7 : Int), .int .u64 (tm : Int), .int .u32 (who : Int), .int .u8 (cr : Int), .int .u32 (cn : Int), .int .u8 (kd : Int), .int .u8 (dr : Int), .int .u32 (dn : Int), .int .u32 (tt : Int), .int .u8 (ro : Int), .int .u8 (de : Int), .int .u64 (cap : Int), .int .u8 (ar : Int), .int .u32 (an : Int), .int .u8 (vr : Int), .int .u32 (vn : Int), .int .u32 0, .int .u32 0, .int .u32 0, .slice none 0 0] rfl))
  clear HP12 HG12 h12
  go_upto_region 17 with (first | (go_at_call 78; (with_reducible refine (GS.num32 HG13.out h13).mono ?_); rintro e w16 ⟨rfl, hp, hk⟩; have HP13 := hid hp; clear hp hk c23 c24 zf; have c25 := (HP13.out.cell 25).trans (show _ = some (.int .u32 0) from rfl); have zf := fun k => HP13.out.free k))
  have HG14 := hid (show GS w.heap.size w (w16.setCell ⟨w1.heap.size, 25, none⟩ (.int .u32 (it : Int))) g w1.heap.size s14 #[.int .u8 (r : Int), .int .u32 (n : Int), .int .u32 (x0 : Int), .int .u32 (x1 : Int), .int .u32 (x2 : Int), .int .u32 (x3 : Int), .int .u32 (x4 : Int), .int .u32 (x5 : Int), .int .u32 (x6 : Int), .int .u32 (x7 : Int), .int .u64 (tm : Int), .int .u32 (who : Int), .int .u8 (cr : Int), .int .u32 (cn : Int), .int .u8 (kd : Int), .int .u8 (dr : Int), .int .u32 (dn : Int), .int .u32 (tt : Int), .int .u8 (ro : Int), .int .u8 (de : Int), .int .u64 (cap : Int), .int .u8 (ar : Int), .int .u32 (an : Int), .int .u8 (vr : Int), .int .u32 (vn : Int), .int .u32 (it : Int), .int .u32 0, .int .u32 0, .slice none 0 0] from (HP13.out.storeTo 25 (.int .u32 (it : Int)) #[.int .u8 (r : Int), .int .u32 (n : Int), .int .u32 (x0 : Int), .int .u32 (x1 : Int), .int .u32 (x2 : Int), .int .u32 (x3 : Int), .int .u32 (x4 : Int), .int .u32 (x5 : Int), .int .u32 (x6 : Int), .int .u32 (x7 : Int), .int .u64 (tm : Int), .int .u32 (who : Int), .int .u8 (cr : Int), .int .u32 (cn : Int), .int .u8 (kd : Int), .int .u8 (dr : Int), .int .u32 (dn : Int), .int .u32 (tt : Int), .int .u8 (ro : Int), .int .u8 (de : Int), .int .u64 (cap : Int), .int .u8 (ar : Int), .int .u32 (an : Int), .int .u8 (vr : Int), .int .u32 (vn : Int), .int .u32 (it : Int), .int .u32 0, .int .u32 0, .slice none 0 0] rfl))
  clear HP13 HG13 h13
  go_upto_region 18 with (first | (go_at_call 78; (with_reducible refine (GS.num32 HG14.out h14).mono ?_); rintro e w17 ⟨rfl, hp, hk⟩; have HP14 := hid hp; clear hp hk c25 zf; have c26 := (HP14.out.cell 26).trans (show _ = some (.int .u32 0) from rfl); have zf := fun k => HP14.out.free k))
  have HG15 := hid (show GS w.heap.size w (w17.setCell ⟨w1.heap.size, 26, none⟩ (.int .u32 (qt : Int))) g w1.heap.size s15 #[.int .u8 (r : Int), .int .u32 (n : Int), .int .u32 (x0 : Int), .int .u32 (x1 : Int), .int .u32 (x2 : Int), .int .u32 (x3 : Int), .int .u32 (x4 : Int), .int .u32 (x5 : Int), .int .u32 (x6 : Int), .int .u32 (x7 : Int), .int .u64 (tm : Int), .int .u32 (who : Int), .int .u8 (cr : Int), .int .u32 (cn : Int), .int .u8 (kd : Int), .int .u8 (dr : Int), .int .u32 (dn : Int), .int .u32 (tt : Int), .int .u8 (ro : Int), .int .u8 (de : Int), .int .u64 (cap : Int), .int .u8 (ar : Int), .int .u32 (an : Int), .int .u8 (vr : Int), .int .u32 (vn : Int), .int .u32 (it : Int), .int .u32 (qt : Int), .int .u32 0, .slice none 0 0] from (HP14.out.storeTo 26 (.int .u32 (qt : Int)) #[.int .u8 (r : Int), .int .u32 (n : Int), .int .u32 (x0 : Int), .int .u32 (x1 : Int), .int .u32 (x2 : Int), .int .u32 (x3 : Int), .int .u32 (x4 : Int), .int .u32 (x5 : Int), .int .u32 (x6 : Int), .int .u32 (x7 : Int), .int .u64 (tm : Int), .int .u32 (who : Int), .int .u8 (cr : Int), .int .u32 (cn : Int), .int .u8 (kd : Int), .int .u8 (dr : Int), .int .u32 (dn : Int), .int .u32 (tt : Int), .int .u8 (ro : Int), .int .u8 (de : Int), .int .u64 (cap : Int), .int .u8 (ar : Int), .int .u32 (an : Int), .int .u8 (vr : Int), .int .u32 (vn : Int), .int .u32 (it : Int), .int .u32 (qt : Int), .int .u32 0, .slice none 0 0] rfl))
  clear HP14 HG14 h14
  go_upto_region 19 with (first | (go_at_call 78; (with_reducible refine (GS.num32 HG15.out h15).mono ?_); rintro e w18 ⟨rfl, hp, hk⟩; have HP15 := hid hp; clear hp hk c26 zf; have c27 := (HP15.out.cell 27).trans (show _ = some (.int .u32 0) from rfl); have zf := fun k => HP15.out.free k))
  have HG16 := hid (show GS w.heap.size w (w18.setCell ⟨w1.heap.size, 27, none⟩ (.int .u32 (pr : Int))) g w1.heap.size s16 #[.int .u8 (r : Int), .int .u32 (n : Int), .int .u32 (x0 : Int), .int .u32 (x1 : Int), .int .u32 (x2 : Int), .int .u32 (x3 : Int), .int .u32 (x4 : Int), .int .u32 (x5 : Int), .int .u32 (x6 : Int), .int .u32 (x7 : Int), .int .u64 (tm : Int), .int .u32 (who : Int), .int .u8 (cr : Int), .int .u32 (cn : Int), .int .u8 (kd : Int), .int .u8 (dr : Int), .int .u32 (dn : Int), .int .u32 (tt : Int), .int .u8 (ro : Int), .int .u8 (de : Int), .int .u64 (cap : Int), .int .u8 (ar : Int), .int .u32 (an : Int), .int .u8 (vr : Int), .int .u32 (vn : Int), .int .u32 (it : Int), .int .u32 (qt : Int), .int .u32 (pr : Int), .slice none 0 0] from (HP15.out.storeTo 27 (.int .u32 (pr : Int)) #[.int .u8 (r : Int), .int .u32 (n : Int), .int .u32 (x0 : Int), .int .u32 (x1 : Int), .int .u32 (x2 : Int), .int .u32 (x3 : Int), .int .u32 (x4 : Int), .int .u32 (x5 : Int), .int .u32 (x6 : Int), .int .u32 (x7 : Int), .int .u64 (tm : Int), .int .u32 (who : Int), .int .u8 (cr : Int), .int .u32 (cn : Int), .int .u8 (kd : Int), .int .u8 (dr : Int), .int .u32 (dn : Int), .int .u32 (tt : Int), .int .u8 (ro : Int), .int .u8 (de : Int), .int .u64 (cap : Int), .int .u8 (ar : Int), .int .u32 (an : Int), .int .u8 (vr : Int), .int .u32 (vn : Int), .int .u32 (it : Int), .int .u32 (qt : Int), .int .u32 (pr : Int), .slice none 0 0] rfl))
  clear HP15 HG15 h15
  go_upto_region 20 with (first | (go_at_call 35; (refine (GS.num (m := 16) HG16.out hn).mono ?_); rintro e w19 ⟨rfl, hp, hk⟩; have HP16 := hid hp; clear hp hk c27 zf))
  obtain ⟨W1, hW1⟩ : ∃ W, W = w19 := ⟨_, rfl⟩
  rw [← hW1] at HP16 ⊢
  clear hW1 HG16 hn
  obtain ⟨i0, hi, hz0, hz1, hz2⟩ := info_parts infoClaim
  have ulen : ∀ k : Nat, k < 17 → IntKind.u64.wrap ((k : Int) + 1) = ((k + 1 : Nat) : Int) := fun k hk => by rw [wrap_u64]; omega
  go_loopw [60] (fun i wr => ∃ k : Nat, k ≤ nl ∧ i = .int .u64 k ∧ ∃ v, GS w.heap.size w wr g w1.heap.size (takeLs k sn).2 #[.int .u8 (r : Int), .int .u32 (n : Int), .int .u32 (x0 : Int), .int .u32 (x1 : Int), .int .u32 (x2 : Int), .int .u32 (x3 : Int), .int .u32 (x4 : Int), .int .u32 (x5 : Int), .int .u32 (x6 : Int), .int .u32 (x7 : Int), .int .u64 (tm : Int), .int .u32 (who : Int), .int .u8 (cr : Int), .int .u32 (cn : Int), .int .u8 (kd : Int), .int .u8 (dr : Int), .int .u32 (dn : Int), .int .u32 (tt : Int), .int .u8 (ro : Int), .int .u8 (de : Int), .int .u64 (cap : Int), .int .u8 (ar : Int), .int .u32 (an : Int), .int .u8 (vr : Int), .int .u32 (vn : Int), .int .u32 (it : Int), .int .u32 (qt : Int), .int .u32 (pr : Int), v] ∧ wr.ownsRow (w1.heap.size + 1) 92 4 v (takeLs k sn).1.length (flatC (takeLs k sn).1)) (fun i _ => nl - (intOf i).toNat)
  case atStart => exact ⟨0, by omega, rfl, .slice none 0 0, HP16.out, rfl, .inl ⟨rfl, rfl⟩⟩
  case round =>
    obtain ⟨k, hk, rfl, v, hG, hR⟩ := hrel
    obtain ⟨W0, rfl⟩ : ∃ W, W = wr := ⟨_, rfl⟩
    by_cases hlt : k < nl
    · have hk16 : k < 17 := by have := HNL.out; omega
      have uk := ulen k hk16
      have hlen := takeLs_len k sn
      obtain ⟨lk, sk, hk2⟩ : ∃ a b, takeLs k sn = (a, b) := ⟨_, _, rfl⟩
      obtain ⟨a1, b1, t1, e1⟩ : ∃ a b s, takeDot sk = ((a, b), s) := ⟨_, _, _, rfl⟩
      obtain ⟨a2, b2, t2, e2⟩ : ∃ a b s, takeDot t1 = ((a, b), s) := ⟨_, _, _, rfl⟩
      have hnext : takeLs (k + 1) sn = (lk ++ [((a1, b1), (a2, b2))], t2) := by rw [takeLs, hk2]; dsimp only; rw [e1]; dsimp only; rw [e2]
      rw [hk2] at hG hR hlen
      dsimp only at hG hR hlen
      have HG := hid hG
      have HR := hid hR
      have HN := hid (And.intro hnext (And.intro hlen hk16))
      clear hG hR hnext hlen hk2 ulen hk16
      go_upto_region 22 with (first
        | (go_at_call 76; (with_reducible refine (GS.dot HG.out e1).mono ?_); rintro e wa ⟨rfl, hp, hk⟩; have HGa := hid hp; have HRa := hid (owns_keeps HR.out hk (by have := HG.out.hg; omega)); clear hp hk HG HR)
        | (go_at_call 76; (with_reducible refine (GS.dot HGa.out e2).mono ?_); rintro e wb ⟨rfl, hp, hk⟩; have HGb := hid hp; have HRb := hid (owns_keeps HRa.out hk (by have := HGa.out.hg; omega)); clear hp hk HGa HRa))
      have hlt5 := HGb.out.lt
      have c28 := fun o1 o2 => ((heap_al (heap_al HGb.out.op o1) o2) |> fun h => (cell_of_heap (j := 28) h).trans (show _ = some v from rfl))
      have HB3 := fun w3 (hgr : ((((wb.alloc (.cells #[.int .u8 (a1 : Int), .int .u32 (b1 : Int)] 46)).alloc (.cells #[.int .u8 (a2 : Int), .int .u32 (b2 : Int)] 46)).alloc (.cells #[.int .u8 (a1 : Int), .int .u32 (b1 : Int), .int .u8 (a2 : Int), .int .u32 (b2 : Int)] 92))).grownBy w3 v.ownBlock) => below_app3 (B := w1.heap.size + 1) hlt5 HRb.out hgr
      have HL5 := hid hlt5
      clear hlt5
      go_wp2_with (first
        | (at_builtin; refine wpList_append_own _ rfl (.tmp 67) (.tmp 71) 48 rfl (w1.heap.size + 1) 92 i0 (.agg #[.int .u8 0, .int .u32 0, .int .u8 0, .int .u32 0]) 4 16 Try.underlying48 hi hz0 hz1 hz2 rfl (by decide) v _ _ rfl (((HRb.out.alloc _).alloc _).alloc _) ⟨wb.heap.size + 1 + 1, 0, none⟩ 1 1 (cl ((a1, b1), (a2, b2))).toList rfl rfl (cells_new4 _ _ _ (by simp)) (one_claim _) (by have := HN.out.2; unfold maxLen; omega) (by have := HN.out.2; omega) (by simp; have := HL5.out; omega) ?_; intro v3 w3 hown3 hgr _; obtain ⟨p3, q3, rfl⟩ := owns_form hown3; have HB := hid (HB3 w3 hgr); have HG3 := hid (HGb.out.base HB.out); have HR3 := hid hown3; have d28 := (HG3.out.cell 28).trans (show _ = some v from rfl); have zf := HG3.out.free 28; clear hown3 hgr HB3 c28))
      go_roundw
      case rel =>
        refine ⟨k + 1, by omega, by go_num, .slice p3 (lk.length + 1) q3, ?_, ?_⟩
        · rw [HN.out.1]
          exact HG3.out.storeTo 28 _ _ rfl
        · rw [HN.out.1]
          have h4 := owns_setB (k := 28) (u := .slice p3 (lk.length + 1) q3) HR3.out (b := w1.heap.size) (by omega)
          rw [flatC_append, flatC_one, List.length_append]
          exact h4
      case measure => simp [intOf]; omega
    · obtain rfl : k = nl := by omega
      obtain ⟨p3, q3, rfl⟩ := owns_form hR
      have HG := hid hG
      have HR := hid hR
      have ke := GS.ended HG.out
      clear hG hR
      have HOPM : OpAt W0 w1.heap.size (setL (⟨r, n, vecOf [x0, x1, x2, x3, x4, x5, x6, x7], tm, who, cr, cn, kd, dr, dn, tt, ro, de, cap, ar, an, vr, vn, it, qt, pr, .slice none 0 0⟩) (.slice p3 (takeLs k sn).1.length q3)) := HG.out.op
      have HOP := hid HOPM
      clear HOPM
      rcases endOf_vals (takeLs k sn).2 with h0 | h0
      · rw [h0] at ke
        have H0 := hid h0
        clear h0
        go_wp2_with (first
          | (go_at_call 38; (with_reducible refine ke.mono ?_); rintro e w' ⟨rfl, rfl⟩)
          | (refine load_op rfl _ rfl w1.heap.size rfl _ HOP.out ?_)
          | (refine wpList_store_row rfl _ _ _ rfl w.heap.size (oc (setL (⟨r, n, vecOf [x0, x1, x2, x3, x4, x5, x6, x7], tm, who, cr, cn, kd, dr, dn, tt, ro, de, cap, ar, an, vr, vn, it, qt, pr, .slice none 0 0⟩) (.slice p3 (takeLs k sn).1.length q3))) rfl rfl 50 (oc zeroO) ?_ (opSize _) rfl (oneO _ rfl) ?_; (focus exact HG.out.res)))
        exact bodyPost_ret (results_row_tmp rfl _ _ w.heap.size 50 (oc (setL (⟨r, n, vecOf [x0, x1, x2, x3, x4, x5, x6, x7], tm, who, cr, cn, kd, dr, dn, tt, ro, de, cap, ar, an, vr, vn, it, qt, pr, .slice none 0 0⟩) (.slice p3 (takeLs k sn).1.length q3))) (0, 0) _ _ rfl rfl (setRow_heap _ _ _ _ _ _ HG.out.res) Try.underlying50 rfl (opSize _)) rfl ⟨.slice p3 (takeLs k sn).1.length q3, by (try rw [if_pos H0.out]); (try rw [H0.out]); rfl, by (try rw [if_pos H0.out]); exact owns_claimsT (owns_rowB HR.out (by have := HG.out.hg; have := HG.out.hB; omega)) (takeLs_ok k sn), below_row HG.out.below (Nat.le_refl _) _⟩
      · rw [h0] at ke
        have H0 := hid h0
        have hne : ¬ endOf (takeLs k sn).2 = 0 := by rw [h0]; decide
        have HNE := hid hne
        clear h0 hne
        go_wp2_with (first
          | (go_at_call 38; (with_reducible refine ke.mono ?_); rintro e w' ⟨rfl, rfl⟩)
          | (refine wpList_store_row rfl _ _ _ rfl w.heap.size (oc zeroO) rfl rfl 50 (oc zeroO) ?_ (opSize _) rfl (oneO _ rfl) ?_; (focus exact HG.out.res)))
        exact bodyPost_ret (results_row_tmp rfl _ _ w.heap.size 50 (oc zeroO) (0, 0) _ _ rfl rfl (setRow_heap _ _ _ _ _ _ HG.out.res) Try.underlying50 rfl (opSize _)) rfl ⟨.slice none 0 0, by (try rw [if_neg HNE.out]); (try rw [H0.out]); rfl, by (try rw [if_neg HNE.out]); exact ClaimsT.nil _, below_row HG.out.below (Nat.le_refl _) _⟩

end Go.Proofs.Ytagjgknkkbkjgaa.V
