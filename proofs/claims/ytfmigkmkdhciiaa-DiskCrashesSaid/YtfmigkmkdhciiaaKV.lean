/-
  Disks: copies of maps, how many bytes they have, their names.
-/
import Derived.Test.YtfmigkmkdhciiaaKC
import Derived.LoopTactic
import Derived.Deep.QuietTactic
namespace Go.Proofs.Ytfmigkmkdhciiaa.K
set_option linter.unusedVariables false
set_option linter.unusedSimpArgs false
set_option maxRecDepth 100000
open Go Go.RowKit Go.Maps Go.MapKept Go.ChangeMaps

theorem clip_some (g n cap : Nat) (hn : n ≤ cap) (h0 : 0 < n) (hc : cap ≤ maxLen) (w : World) : Calls Try.prog 50 #[.slice (some ⟨g, 0, none⟩) n cap] w fun e w' => e = .returned (.slice (some ⟨g, 0, none⟩) n n) ∧ w = w' := by
  unfold maxLen at hc
  have hr : (Instr.slice 68 (.slice (some ⟨g, 0, none⟩) n cap) none (some (.int .i64 (n : Int))) (some (.int .i64 (n : Int)))).run Try.prog w = .ok (.slice (some ⟨g, 0, none⟩) n n) w := by
    obtain ⟨i0, hi, hz0, hz1, hz2⟩ := info_parts infoU8
    have h1 : ¬ (n : Int) < 0 := by omega
    have h2 : (n : Int) ≤ (cap : Int) := by omega
    have h3 : ¬ n = 0 := by omega
    simp [Instr.slice, run_underlying Try.underlying68, Instr.sliceBounds, Instr.sliceBound, asIntOf, sizeOf, typeInfo, hi, hz1, h1, h2, hn, h3, add0]
  go_enter Try.func50, Try.ntmps50
  go_wp2
  go_ret
  exact ⟨rfl, rfl⟩
theorem clip_none (w : World) : Calls Try.prog 50 #[.slice none 0 0] w fun e w' => e = .returned (.slice none 0 0) ∧ w = w' := by
  go_enter Try.func50, Try.ntmps50
  go_wp2
  go_ret
  exact ⟨rfl, rfl⟩

/-- What a map of files holds. -/
def Form (v : Value) : Prop := v = .slice none 0 0 ∨ ∃ g n cap, v = .slice (some ⟨g, 0, none⟩) n cap ∧ 0 < n ∧ n ≤ cap ∧ cap ≤ maxLen
def clipV : Value → Value
  | .slice ad n _ => .slice ad n n
  | v => v
def lenV : Value → Nat
  | .slice _ n _ => n
  | _ => 0
theorem clip_any {v : Value} (h : Form v) (w : World) : Calls Try.prog 50 #[v] w fun e w' => e = .returned (clipV v) ∧ w = w' := by
  rcases h with rfl | ⟨g, n, cap, rfl, h0, h1, h2⟩
  · exact clip_none w
  · exact clip_some g n cap h1 h0 h2 w
theorem BytesV.form {A : Gh} {w : World} {v : Value} {c : Str} (h : BytesV A w v c) : Form v ∧ lenV v = c.length := by
  rcases h with ⟨rfl, rfl⟩ | ⟨g, cap, rfl, h0, h1, h2, _⟩
  · exact ⟨.inl rfl, rfl⟩
  · exact ⟨.inr ⟨g, _, cap, rfl, h0, h1, h2⟩, rfl⟩

/-- The step of a range over files. -/
theorem next_files (w : World) {ops : Array Oper} {rest : List Oper} {o : Oper} {a : Act} {Q : Exit → Act → World → Prop} (hg : o.guard = none) (it : Operand) (hop : o.op = Op.next it false)
    (b r n : Nat) (D : DataW Value) (left : Lit → Bool) (cnt : Nat) (hit : a.eval it = .pointer (some ⟨r, 0, none⟩)) (h : w.ranges Try.prog 9 hv b r n D left cnt)
    (hDone : cnt = 0 → (∀ kl, left kl = false) → wpList Try.prog ops Q rest (a.put o.dst (.tuple #[.bool false])) w)
    (hMore : ∀ (x : Str) (v : Value) (w' : World) (cnt' : Nat), x.length ≤ maxLen → left (.string x) = true → (∀ z, D.atKey (.string x) z = .held v) → w'.ranges Try.prog 9 hv b r n D (fun z => left z && !z.sameKey (.string x)) cnt' → cnt' < cnt →
      w.grownBy w' (some r) → w'.heap.size = w.heap.size → (Instr.entry (.pointer (some ⟨r, 0, none⟩))).run Try.prog w' = .ok (.tuple #[strV x, v]) w' → wpList Try.prog ops Q rest (a.put o.dst (.tuple #[.bool true, strV x, v])) w') :
    wpList Try.prog ops Q (o :: rest) a w :=
  wpList_next_ranges w hg it hop 9 strK hv (fun (x : Str) => strV x) (fun v => v) (fun key kl hkey => by obtain ⟨x, rfl, _⟩ := Maps.keyOf_str Try.underlying9 hkey; exact ⟨x, rfl⟩) (fun v y _ => ⟨v, rfl⟩)
    b r n D left cnt hit h hDone (fun x c kl y w' cnt' hkey hlk hv hat hrg hlt hgr hsz hen => by
      obtain ⟨x', ex, rfl, hwx⟩ := Maps.keyOf_str Try.underlying9 hkey
      have ex' : x = x' := by simpa using ex
      subst ex'
      have hy : y = (.held c, []) := by simpa [K.hv] using hv.symm
      exact hMore x c w' cnt' hwx hlk (fun z => by rw [hat z, hy]) hrg hlt hgr hsz hen)

theorem sameKey_str {s x : Str} (hx : x.length ≤ maxLen) : (Lit.string s).sameKey (.string x) = decide (s = x) := by
  by_cases e : s = x
  · subst e; rw [WideAt.sameKey_self (isKey hx)]; simp
  · rw [sameKey_ne (fun h => e (by injection h))]; simp [e]
end Go.Proofs.Ytfmigkmkdhciiaa.K
