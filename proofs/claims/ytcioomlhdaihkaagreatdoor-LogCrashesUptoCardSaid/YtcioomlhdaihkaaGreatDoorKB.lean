/-
  Disks: what a unit's function does to a map of files.
-/
import Derived.Test.YtcioomlhdaihkaaGreatDoorWK
import Derived.Test.YtcioomlhdaihkaaGreatDoorKR
import Derived.Maps.AppendAt
import Derived.Great.BuildSlice
namespace Go.Proofs.YtcioomlhdaihkaaGreatDoor.K
set_option linter.unusedVariables false
set_option linter.unusedSimpArgs false
set_option maxRecDepth 100000
open Go Go.RowKit Go.Maps Go.MapKept Go.ChangeMaps

set_option maxRecDepth 100000
set_option linter.unusedVariables false
set_option linter.unusedSimpArgs false
theorem infoU8 : (Tryz.prog.info? 5).map (fun i => (i.zero, i.size, i.bytes)) = some (some (.int .u8 0), 1, 1) := by kernel_rfl
theorem base1 : (Array.range (1 * 1)).map ((Value.int .u8 0).cells[· % (Value.int .u8 0).cells.size]!) = #[.int .u8 0] := by kernel_rfl
set_option maxHeartbeats 1000000 in
theorem walk_mk (w w' : World) (m b : Nat) (n : Str) (hc : w.cell? ⟨b, 0, none⟩ = some (strV n)) (hrun : (Instr.mapUpdate 50 (.map (some m)) (strV n) (.slice none 0 0)).run Tryz.prog w = .ok () w') :
    Calls Tryz.prog 82 #[.map (some m), .pointer (some ⟨b, 0, none⟩)] w fun e w2 => (∃ v, e = .returned v) ∧ w' = w2 := by
  go_enter Tryz.func82, Tryz.ntmps82
  go_wp2
  go_end0
  exact ⟨⟨_, rfl⟩, rfl⟩

set_option maxHeartbeats 1000000 in
theorem walk_del (w w' : World) (m b : Nat) (n : Str) (hc : w.cell? ⟨b, 0, none⟩ = some (strV n)) (hrun : ∀ ty, (Builtin.delete_ #[50, 9] ty #[.map (some m), strV n]).run Tryz.prog w = .ok (.tuple #[]) w') :
    Calls Tryz.prog 116 #[.map (some m), .pointer (some ⟨b, 0, none⟩)] w fun e w2 => (∃ v, e = .returned v) ∧ w' = w2 := by
  go_enter Tryz.func116, Tryz.ntmps116
  go_wp2
  go_end0
  exact ⟨⟨_, rfl⟩, rfl⟩

set_option maxHeartbeats 1000000 in
theorem walk_ren (w w1 w' : World) (m b b2 : Nat) (n n2 : Str) (v : Value) (hc : w.cell? ⟨b, 0, none⟩ = some (strV n)) (hl : (Instr.lookup 50 (.map (some m)) (strV n) false).run Tryz.prog w = .ok v w)
    (hrun : ∀ ty, (Builtin.delete_ #[50, 9] ty #[.map (some m), strV n]).run Tryz.prog w = .ok (.tuple #[]) w1)
    (hc2 : w1.cell? ⟨b2, 0, none⟩ = some (strV n2)) (hrun2 : (Instr.mapUpdate 50 (.map (some m)) (strV n2) v).run Tryz.prog w1 = .ok () w') :
    Calls Tryz.prog 90 #[.map (some m), .pointer (some ⟨b, 0, none⟩), .pointer (some ⟨b2, 0, none⟩)] w fun e w2 => (∃ v, e = .returned v) ∧ w' = w2 := by
  go_enter Tryz.func90, Tryz.ntmps90
  go_wp2
  go_end0
  exact ⟨⟨_, rfl⟩, rfl⟩

set_option maxHeartbeats 1000000 in
theorem walk_byte (w w2 w3 : World) (m b b2 : Nat) (n : Str) (x : UInt8) (v v' : Value) (hc : w.cell? ⟨b, 0, none⟩ = some (strV n)) (hx : w.cell? ⟨b2, 0, none⟩ = some (.int .u8 (x.toNat : Int)))
    (hl : ∀ W : World, W.heap[m]? = w.heap[m]? → (Instr.lookup 50 (.map (some m)) (strV n) false).run Tryz.prog W = .ok v W) (hm : m < w.heap.size)
    (ha : (Builtin.append_ #[83, 83] 83 #[v, .slice (some ⟨w.heap.size, 0, none⟩) 1 1]).run Tryz.prog (w.drew.alloc (.cells #[.int .u8 (x.toNat : Int)] 5)) = .ok v' w2)
    (hc2 : w2.cell? ⟨b, 0, none⟩ = some (strV n)) (hrun : (Instr.mapUpdate 50 (.map (some m)) (strV n) v').run Tryz.prog w2 = .ok () w3) :
    Calls Tryz.prog 83 #[.map (some m), .pointer (some ⟨b, 0, none⟩), .pointer (some ⟨b2, 0, none⟩)] w fun e W => (∃ v, e = .returned v) ∧ w3 = W := by
  go_enter Tryz.func83, Tryz.ntmps83
  have hbl : b < w.heap.size := by
    have := World.block_lt_of_cell? w _ hc
    exact this
  have cb : (w.drew.alloc (.cells #[.int .u8 (x.toNat : Int)] 5)).cell? ⟨b, 0, none⟩ = some (strV n) := (World.cell?_of_block (a := ⟨b, 0, none⟩) (Below.heap_alloc w.drew _ b hbl)).trans hc
  refine R.wp_chain [6, 7, 8] (fun p _ W => match p with | 0 => W = w.drew | 1 => W = w.drew.alloc (.cells #[.int .u8 (x.toNat : Int)] 5) | 2 => W = w2 | _ => W = w3)
    (fun k _ => [Value.map (some m), strV n, .map (some m), strV n, v, .int .u8 (x.toNat : Int), .slice (some ⟨w.heap.size, 0, none⟩) 1 1, v', undef].getD k undef) (fun _ => undef) 12 (by kernel_rfl) (by kernel_rfl) rfl (by kernel_rfl) (by kernel_rfl) ?_ ?_ rfl ?_
  · simp only [R.HVs, R.HV]
    repeat' (first | trivial | refine And.intro ?_ ?_ | exact fun _ _ _ => rfl)
  · refine ⟨?_, ?_, ?_, ?_, ?_, ?_, ?_, ?_, ?_, trivial⟩
    · exact R.l_move _ (.inl rfl) (by kernel_rfl) rfl rfl (R.ev_base (by kernel_rfl) rfl)
    · refine R.l_load _ _ (fun _ => ⟨b, 0, none⟩) rfl (by kernel_rfl) rfl rfl Tryz.underlying9 rfl (R.ev_base (by kernel_rfl) rfl) (fun p u W _ hhi hP => ?_)
      have hh : p ≤ 2 := hhi
      match p, hh, hP with
      | 0, _, hP => obtain rfl : W = w.drew := hP; exact hc
      | 1, _, hP => obtain rfl : W = _ := hP; exact cb
      | 2, _, hP => obtain rfl : W = w2 := hP; exact hc2
    · exact R.l_move _ (.inl rfl) (by kernel_rfl) rfl rfl (R.ev_base (by kernel_rfl) rfl)
    · refine R.l_load _ _ (fun _ => ⟨b, 0, none⟩) rfl (by kernel_rfl) rfl rfl Tryz.underlying9 rfl (R.ev_base (by kernel_rfl) rfl) (fun p u W _ hhi hP => ?_)
      have hh : p ≤ 1 := hhi
      match p, hh, hP with
      | 0, _, hP => obtain rfl : W = w.drew := hP; exact hc
      | 1, _, hP => obtain rfl : W = _ := hP; exact cb
    · refine R.l_read (by kernel_rfl) rfl rfl (fun p u a W _ hhi hb hn hP => ?_)
      have hh : p ≤ 1 := hhi
      have e1 : a.eval (.tmp 6) = .map (some m) := (R.eval_at (i := 2) rfl).trans (hn 2 (by kernel_rfl))
      have e2 : a.eval (.tmp 7) = strV n := (R.eval_at (i := 3) rfl).trans (hn 3 (by kernel_rfl))
      have hW : W.heap[m]? = w.heap[m]? := by
        match p, hh, hP with
        | 0, _, hP => obtain rfl : W = w.drew := hP; rfl
        | 1, _, hP => obtain rfl : W = _ := hP; exact Below.heap_alloc _ _ _ hm
      have hr := hl W hW
      unfold execOp
      simp only [e1, e2]
      show Sem.run _ (do let v ← Instr.lookup 50 (.map (some m)) (strV n) false; pure (Next.value v)) W = _
      simp only [Sem.run_bind, hr, Result.andThen_ok]
      rfl
    · refine R.l_load _ _ (fun _ => ⟨b2, 0, none⟩) rfl (by kernel_rfl) rfl rfl Tryz.underlying5 rfl (R.ev_base (by kernel_rfl) rfl) (fun p u W _ hhi hP => ?_)
      have hh : p ≤ 0 := hhi
      match p, hh, hP with
      | 0, _, hP => obtain rfl : W = w.drew := hP; exact hx
    · refine R.l_turn (p := 0) (by kernel_rfl) rfl (.slice (some ⟨w.heap.size, 0, none⟩) 1 1) (fun u a W hb hn hP => ?_)
      obtain rfl : W = w.drew := hP
      have e1 : a.eval (.tmp 9) = .int .u8 (x.toNat : Int) := (R.eval_at (i := 5) rfl).trans (hn 5 (by kernel_rfl))
      refine ⟨_, ?_, rfl, rfl⟩
      obtain ⟨i0, hi, hz0, hz1, hz2⟩ := info_parts infoU8
      have hr := run_buildSlice (P := Tryz.prog) w.drew 83 5 1 #[(0, .int .u8 (x.toNat : Int))] #[.int .u8 (x.toNat : Int)] i0 _ Tryz.underlying83 hi hz0 (by rw [hz1]; decide) (by rw [hz1]; decide) (by rw [hz1, base1]; simp [Instr.fill, Value.cells])
      unfold execOp
      simp only [List.map_toArray, List.map_cons, List.map_nil, e1, Sem.run_bind, hr, Result.andThen_ok]
      rfl
    · refine R.l_turn (p := 1) (by kernel_rfl) rfl v' (fun u a W hb hn hP => ?_)
      obtain rfl : W = w.drew.alloc (.cells #[.int .u8 (x.toNat : Int)] 5) := hP
      have e1 : a.eval (.tmp 8) = v := (R.eval_at (i := 4) rfl).trans (hn 4 (by kernel_rfl))
      have e2 : a.eval (.tmp 10) = .slice (some ⟨w.heap.size, 0, none⟩) 1 1 := (R.eval_at (i := 6) rfl).trans (hn 6 (by kernel_rfl))
      refine ⟨w2, ?_, rfl, rfl⟩
      unfold execOp
      simp only [resolve, invoke, builtin, Sem.run_bind, Sem.run_pure, Result.andThen_ok, List.map_toArray, List.map_cons, List.map_nil, e1, e2, ha]
    · refine R.l_skip (p := 2) (by kernel_rfl) rfl (fun u a W hb hn hP => ?_)
      obtain rfl : W = w2 := hP
      have e1 : a.eval (.tmp 4) = .map (some m) := (R.eval_at (i := 0) rfl).trans (hn 0 (by kernel_rfl))
      have e2 : a.eval (.tmp 5) = strV n := (R.eval_at (i := 1) rfl).trans (hn 1 (by kernel_rfl))
      have e3 : a.eval (.tmp 11) = v' := (R.eval_at (i := 7) rfl).trans (hn 7 (by kernel_rfl))
      refine ⟨w3, ?_, rfl, rfl⟩
      unfold execOp
      simp only [e1, e2, e3]
      show Sem.run _ (do Instr.mapUpdate 50 (.map (some m)) (strV n) v'; pure Next.skip) W = _
      simp only [Sem.run_bind, hrun, Result.andThen_ok]
      rfl
  · rintro u W hW
    obtain rfl : W = w3 := hW
    go_end0
    exact ⟨⟨_, rfl⟩, rfl⟩
end Go.Proofs.YtcioomlhdaihkaaGreatDoor.K
