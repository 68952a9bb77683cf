/- The walks over package msg: is there something in another field? -/
import Derived.Test.YtgbfmccecnfooaaGreatDoorCRAK
import Derived.Test.YtgbfmccecnfooaaGreatDoorCRAO
import Derived.Lib.OthersKept
import Derived.Deep.LoopGhost
set_option linter.unusedVariables false
namespace Go.Proofs.YtgbfmccecnfooaaGreatDoor
section
open Go.RowKit Oct
theorem fieldsOf_1 (w : World) : Calls Tryz.prog 118 #[.int .i64 1] w fun e w' => e = .returned (.string (fsB 1)) ∧ w' = w := by
  go_enter Tryz.func118, Tryz.ntmps118
  go_wp2_with fail
  go_ret
  exact ⟨rfl, rfl⟩
theorem fieldsOf_2 (w : World) : Calls Tryz.prog 118 #[.int .i64 2] w fun e w' => e = .returned (.string (fsB 2)) ∧ w' = w := by
  go_enter Tryz.func118, Tryz.ntmps118
  go_wp2_with fail
  go_ret
  exact ⟨rfl, rfl⟩
theorem fieldsOf_3 (w : World) : Calls Tryz.prog 118 #[.int .i64 3] w fun e w' => e = .returned (.string (fsB 3)) ∧ w' = w := by
  go_enter Tryz.func118, Tryz.ntmps118
  go_wp2_with fail
  go_ret
  exact ⟨rfl, rfl⟩
theorem fieldsOf_4 (w : World) : Calls Tryz.prog 118 #[.int .i64 4] w fun e w' => e = .returned (.string (fsB 4)) ∧ w' = w := by
  go_enter Tryz.func118, Tryz.ntmps118
  go_wp2_with fail
  go_ret
  exact ⟨rfl, rfl⟩
theorem fieldsOf_5 (w : World) : Calls Tryz.prog 118 #[.int .i64 5] w fun e w' => e = .returned (.string (fsB 5)) ∧ w' = w := by
  go_enter Tryz.func118, Tryz.ntmps118
  go_wp2_with fail
  go_ret
  exact ⟨rfl, rfl⟩
theorem fieldsOf_6 (w : World) : Calls Tryz.prog 118 #[.int .i64 6] w fun e w' => e = .returned (.string (fsB 6)) ∧ w' = w := by
  go_enter Tryz.func118, Tryz.ntmps118
  go_wp2_with fail
  go_ret
  exact ⟨rfl, rfl⟩
theorem fieldsOf_7 (w : World) : Calls Tryz.prog 118 #[.int .i64 7] w fun e w' => e = .returned (.string (fsB 7)) ∧ w' = w := by
  go_enter Tryz.func118, Tryz.ntmps118
  go_wp2_with fail
  go_ret
  exact ⟨rfl, rfl⟩
theorem fieldsOf_8 (w : World) : Calls Tryz.prog 118 #[.int .i64 8] w fun e w' => e = .returned (.string (fsB 8)) ∧ w' = w := by
  go_enter Tryz.func118, Tryz.ntmps118
  go_wp2_with fail
  go_ret
  exact ⟨rfl, rfl⟩
theorem fieldsOf_9 (w : World) : Calls Tryz.prog 118 #[.int .i64 9] w fun e w' => e = .returned (.string (fsB 9)) ∧ w' = w := by
  go_enter Tryz.func118, Tryz.ntmps118
  go_wp2_with fail
  go_ret
  exact ⟨rfl, rfl⟩
theorem fieldsOf_10 (w : World) : Calls Tryz.prog 118 #[.int .i64 10] w fun e w' => e = .returned (.string (fsB 10)) ∧ w' = w := by
  go_enter Tryz.func118, Tryz.ntmps118
  go_wp2_with fail
  go_ret
  exact ⟨rfl, rfl⟩
theorem fieldsOf_11 (w : World) : Calls Tryz.prog 118 #[.int .i64 11] w fun e w' => e = .returned (.string (fsB 11)) ∧ w' = w := by
  go_enter Tryz.func118, Tryz.ntmps118
  go_wp2_with fail
  go_ret
  exact ⟨rfl, rfl⟩
theorem fieldsOf_12 (w : World) : Calls Tryz.prog 118 #[.int .i64 12] w fun e w' => e = .returned (.string (fsB 12)) ∧ w' = w := by
  go_enter Tryz.func118, Tryz.ntmps118
  go_wp2_with fail
  go_ret
  exact ⟨rfl, rfl⟩
theorem fieldsOf_13 (w : World) : Calls Tryz.prog 118 #[.int .i64 13] w fun e w' => e = .returned (.string (fsB 13)) ∧ w' = w := by
  go_enter Tryz.func118, Tryz.ntmps118
  go_wp2_with fail
  go_ret
  exact ⟨rfl, rfl⟩
theorem fieldsOf_20 (w : World) : Calls Tryz.prog 118 #[.int .i64 20] w fun e w' => e = .returned (.string (fsB 20)) ∧ w' = w := by
  go_enter Tryz.func118, Tryz.ntmps118
  go_wp2_with fail
  go_ret
  exact ⟨rfl, rfl⟩
theorem fieldsOf_21 (w : World) : Calls Tryz.prog 118 #[.int .i64 21] w fun e w' => e = .returned (.string (fsB 21)) ∧ w' = w := by
  go_enter Tryz.func118, Tryz.ntmps118
  go_wp2_with fail
  go_ret
  exact ⟨rfl, rfl⟩
theorem fieldsOf_22 (w : World) : Calls Tryz.prog 118 #[.int .i64 22] w fun e w' => e = .returned (.string (fsB 22)) ∧ w' = w := by
  go_enter Tryz.func118, Tryz.ntmps118
  go_wp2_with fail
  go_ret
  exact ⟨rfl, rfl⟩
theorem fieldsOf_23 (w : World) : Calls Tryz.prog 118 #[.int .i64 23] w fun e w' => e = .returned (.string (fsB 23)) ∧ w' = w := by
  go_enter Tryz.func118, Tryz.ntmps118
  go_wp2_with fail
  go_ret
  exact ⟨rfl, rfl⟩
theorem fieldsOf_24 (w : World) : Calls Tryz.prog 118 #[.int .i64 24] w fun e w' => e = .returned (.string (fsB 24)) ∧ w' = w := by
  go_enter Tryz.func118, Tryz.ntmps118
  go_wp2_with fail
  go_ret
  exact ⟨rfl, rfl⟩
theorem fieldsOf_25 (w : World) : Calls Tryz.prog 118 #[.int .i64 25] w fun e w' => e = .returned (.string (fsB 25)) ∧ w' = w := by
  go_enter Tryz.func118, Tryz.ntmps118
  go_wp2_with fail
  go_ret
  exact ⟨rfl, rfl⟩
theorem fl_out {k : Int} (h : fl k = []) : k ≠ 1 ∧ k ≠ 2 ∧ k ≠ 3 ∧ k ≠ 4 ∧ k ≠ 5 ∧ k ≠ 6 ∧ k ≠ 7 ∧ k ≠ 8 ∧ k ≠ 9 ∧ k ≠ 10 ∧ k ≠ 11 ∧ k ≠ 12 ∧ k ≠ 13 ∧ k ≠ 20 ∧ k ≠ 21 ∧ k ≠ 22 ∧ k ≠ 23 ∧ k ≠ 24 ∧ k ≠ 25 := by
  refine ⟨?_, ?_, ?_, ?_, ?_, ?_, ?_, ?_, ?_, ?_, ?_, ?_, ?_, ?_, ?_, ?_, ?_, ?_, ?_⟩ <;> (rintro rfl; exact absurd h (by decide))
set_option maxHeartbeats 1000000 in
theorem fieldsOf_none (w : World) (k : Int) (h : fl k = []) : Calls Tryz.prog 118 #[.int .i64 k] w fun e w' => e = .returned (.string (fsB k)) ∧ w' = w := by
  obtain ⟨n1, n2, n3, n4, n5, n6, n7, n8, n9, n10, n11, n12, n13, n20, n21, n22, n23, n24, n25⟩ := fl_out h
  have e : fsB k = ⟨#[]⟩ := by simp [fsB, h]
  rw [e]
  clear e h
  have e1 : (k == 1) = false := by simp [n1]
  have e2 : (k == 2) = false := by simp [n2]
  have e3 : (k == 3) = false := by simp [n3]
  have e4 : (k == 4) = false := by simp [n4]
  have e5 : (k == 5) = false := by simp [n5]
  have e6 : (k == 6) = false := by simp [n6]
  have e7 : (k == 7) = false := by simp [n7]
  have e8 : (k == 8) = false := by simp [n8]
  have e9 : (k == 9) = false := by simp [n9]
  have e10 : (k == 10) = false := by simp [n10]
  have e11 : (k == 11) = false := by simp [n11]
  have e12 : (k == 12) = false := by simp [n12]
  have e13 : (k == 13) = false := by simp [n13]
  have e20 : (k == 20) = false := by simp [n20]
  have e21 : (k == 21) = false := by simp [n21]
  have e22 : (k == 22) = false := by simp [n22]
  have e23 : (k == 23) = false := by simp [n23]
  have e24 : (k == 24) = false := by simp [n24]
  have e25 : (k == 25) = false := by simp [n25]
  clear n1 n2 n3 n4 n5 n6 n7 n8 n9 n10 n11 n12 n13 n20 n21 n22 n23 n24 n25
  go_enter Tryz.func118, Tryz.ntmps118
  go_wp2_with fail
  go_ret
  exact ⟨rfl, rfl⟩
/-- fieldsOf. -/
theorem fieldsOf_any (w : World) (k : Int) : Calls Tryz.prog 118 #[.int .i64 k] w fun e w' => e = .returned (.string (fsB k)) ∧ w' = w := by
  rcases fl_cases k with rfl | rfl | rfl | rfl | rfl | rfl | rfl | rfl | rfl | rfl | rfl | rfl | rfl | rfl | rfl | rfl | rfl | rfl | rfl | h
  · exact fieldsOf_1 w
  · exact fieldsOf_2 w
  · exact fieldsOf_3 w
  · exact fieldsOf_4 w
  · exact fieldsOf_5 w
  · exact fieldsOf_6 w
  · exact fieldsOf_7 w
  · exact fieldsOf_8 w
  · exact fieldsOf_9 w
  · exact fieldsOf_10 w
  · exact fieldsOf_11 w
  · exact fieldsOf_12 w
  · exact fieldsOf_13 w
  · exact fieldsOf_20 w
  · exact fieldsOf_21 w
  · exact fieldsOf_22 w
  · exact fieldsOf_23 w
  · exact fieldsOf_24 w
  · exact fieldsOf_25 w
  · exact fieldsOf_none w k h
theorem Tryz.infoI : (Tryz.prog.info? 3).map (fun i => (i.zero, i.size, i.bytes)) = some (some (.int .i64 0), 1, 8) := by kernel_rfl
theorem balEq (w : World) (a b c d : Int) : (binOp .eql 23 (.agg #[.int .i64 a, .int .i64 b]) (.agg #[.int .i64 c, .int .i64 d])).run Tryz.prog w = .ok (.bool (a == c && b == d)) w := by
  have hi : Tryz.prog.underlying 3 = some (.int .i64) := Tryz.underlying3
  have hz : ∀ w, (Go.sizeOf 3).run Tryz.prog w = .ok 1 w := fun w => by
    obtain ⟨i0, hi, hz0, hz1, hz2⟩ := info_parts Tryz.infoI
    simp [sizeOf, typeInfo, hi, hz1]
  rw [run_eql_struct, run_equalIn_struct w 9999 23 _ _ (by kernel_rfl) (by kernel_rfl)]
  simp only [Program.fieldsOf, Tryz.underlying23]
  simp [Op.eqFields, part, hz, run_equalIn_int, hi]
  by_cases h1 : a = c <;> by_cases h2 : b = d <;> simp [h1, h2]
theorem balNe (w : World) (a b c d : Int) : (binOp .neq 23 (.agg #[.int .i64 a, .int .i64 b]) (.agg #[.int .i64 c, .int .i64 d])).run Tryz.prog w = .ok (.bool (!(a == c && b == d))) w := by
  have hi : Tryz.prog.underlying 3 = some (.int .i64) := Tryz.underlying3
  have hz : ∀ w, (Go.sizeOf 3).run Tryz.prog w = .ok 1 w := fun w => by
    obtain ⟨i0, hi, hz0, hz1, hz2⟩ := info_parts Tryz.infoI
    simp [sizeOf, typeInfo, hi, hz1]
  rw [run_neq_struct, run_equalIn_struct w 9999 23 _ _ (by kernel_rfl) (by kernel_rfl)]
  simp only [Program.fieldsOf, Tryz.underlying23]
  simp [Op.eqFields, part, hz, run_equalIn_int, hi]
  by_cases h1 : a = c <;> by_cases h2 : b = d <;> simp [h1, h2]
set_option maxHeartbeats 1000000 in
theorem noReq_any (w : World) (r : List Value) (x : PReq) (hR : RReq Any w r x) : Calls Tryz.prog 173 #[.agg r.toArray] w fun e w' => e = .returned (.bool (zV (freq x))) ∧ Below w.heap.size w w' := by
  obtain ⟨vo, vg, rfl, h1, h2⟩ := hR
  obtain ⟨ao, co, rfl, ho⟩ := h1.form
  obtain ⟨ag, cg, rfl, hg⟩ := h2.form
  have e : zV (freq x) = (x.1 == 0 && x.2.1 == 0 && x.2.2.1.isEmpty && x.2.2.2.isEmpty) := rfl
  have eo : x.2.2.1.isEmpty = ((x.2.2.1.length : Int) == 0) := by cases x.2.2.1 <;> simp <;> omega
  have eg : x.2.2.2.isEmpty = ((x.2.2.2.length : Int) == 0) := by cases x.2.2.2 <;> simp <;> omega
  rw [e, eo, eg]
  clear e eo eg h1 h2
  generalize x.1 = a at *
  generalize x.2.1 = b at *
  generalize x.2.2.1.length = c at *
  generalize x.2.2.2.length = d at *
  have bel := below_alloc w (.cells #[.int .i64 a, .int .i64 b, .slice ao c co, .slice ag d cg] 62)
  cases ha : (a == 0)
  · go_enter Tryz.func173, Tryz.ntmps173
    go_wp2_with fail
    go_ret
    exact ⟨by simp, bel⟩
  cases hb : (b == 0)
  · go_enter Tryz.func173, Tryz.ntmps173
    go_wp2_with fail
    go_ret
    exact ⟨by simp, bel⟩
  cases hc : ((c : Int) == 0)
  · go_enter Tryz.func173, Tryz.ntmps173
    go_wp2_with fail
    go_ret
    exact ⟨by simp, bel⟩
  go_enter Tryz.func173, Tryz.ntmps173
  go_wp2_with fail
  go_ret
  exact ⟨by simp, bel⟩
set_option maxHeartbeats 1000000 in
theorem isZero_0 (w : World) (m : PMsg) (s : SV) (hs : SOk Any w m s) : Calls Tryz.prog 146 #[.agg (mc m s).toArray, .int .i32 66] w fun e w' => e = .returned (.bool (zF m 0)) ∧ Below w.heap.size w w' := by
  have hr0 := Row.new w 72 (mc m s)
  have bel := below_alloc w (.cells (mc m s).toArray 72)
  have e : zF m 0 = (m.bal.1 == 0 && m.bal.2 == 0) := rfl
  rw [e]
  have heq : ∀ u, (binOp .eql 23 (.agg #[.int .i64 m.bal.1, .int .i64 m.bal.2]) (.agg #[.int .i64 0, .int .i64 0])).run Tryz.prog u = .ok (.bool (m.bal.1 == 0 && m.bal.2 == 0)) u := fun u => balEq u _ _ _ _
  go_enter Tryz.func146, Tryz.ntmps146
  go_wp2_with (refine wl_part rfl _ _ rfl w.heap.size 1 rfl _ _ hr0 [.int .i64 m.bal.1, .int .i64 m.bal.2] rfl _ Tryz.underlying23 rfl (by kernel_rfl) ?_)
  go_ret
  exact ⟨rfl, bel⟩
set_option maxHeartbeats 1000000 in
theorem isZero_1 (w : World) (m : PMsg) (s : SV) (hs : SOk Any w m s) : Calls Tryz.prog 146 #[.agg (mc m s).toArray, .int .i32 83] w fun e w' => e = .returned (.bool (zF m 1)) ∧ Below w.heap.size w w' := by
  have hr0 := Row.new w 72 (mc m s)
  have bel := below_alloc w (.cells (mc m s).toArray 72)
  have c0 := hr0.cell (j := 3) rfl
  have e : zF m 1 = (m.slot == 0) := rfl
  rw [e]
  clear e
  go_enter Tryz.func146, Tryz.ntmps146
  go_wp2_with fail
  go_ret
  exact ⟨rfl, bel⟩
set_option maxHeartbeats 1000000 in
theorem isZero_2 (w : World) (m : PMsg) (s : SV) (hs : SOk Any w m s) : Calls Tryz.prog 146 #[.agg (mc m s).toArray, .int .i32 70] w fun e w' => e = .returned (.bool (zF m 2)) ∧ Below w.heap.size w w' := by
  have hr0 := Row.new w 72 (mc m s)
  have bel := below_alloc w (.cells (mc m s).toArray 72)
  have c0 := hr0.cell (j := 4) rfl
  have e : zF m 2 = (m.frm == 0) := rfl
  rw [e]
  clear e
  go_enter Tryz.func146, Tryz.ntmps146
  go_wp2_with fail
  go_ret
  exact ⟨rfl, bel⟩
set_option maxHeartbeats 1000000 in
theorem isZero_3 (w : World) (m : PMsg) (s : SV) (hs : SOk Any w m s) : Calls Tryz.prog 146 #[.agg (mc m s).toArray, .int .i32 84] w fun e w' => e = .returned (.bool (zF m 3)) ∧ Below w.heap.size w w' := by
  have hr0 := Row.new w 72 (mc m s)
  have bel := below_alloc w (.cells (mc m s).toArray 72)
  have c0 := hr0.cell (j := 5) rfl
  have e : zF m 3 = (m.to == 0) := rfl
  rw [e]
  clear e
  go_enter Tryz.func146, Tryz.ntmps146
  go_wp2_with fail
  go_ret
  exact ⟨rfl, bel⟩
set_option maxHeartbeats 1000000 in
theorem isZero_4 (w : World) (m : PMsg) (s : SV) (hs : SOk Any w m s) : Calls Tryz.prog 146 #[.agg (mc m s).toArray, .int .i32 73] w fun e w' => e = .returned (.bool (zF m 4)) ∧ Below w.heap.size w w' := by
  have hr0 := Row.new w 72 (mc m s)
  have bel := below_alloc w (.cells (mc m s).toArray 72)
  have c0 := hr0.cell (j := 6) rfl
  have e : zF m 4 = (m.idx == 0) := rfl
  rw [e]
  clear e
  go_enter Tryz.func146, Tryz.ntmps146
  go_wp2_with fail
  go_ret
  exact ⟨rfl, bel⟩
set_option maxHeartbeats 1000000 in
theorem isZero_5 (w : World) (m : PMsg) (s : SV) (hs : SOk Any w m s) : Calls Tryz.prog 146 #[.agg (mc m s).toArray, .int .i32 67] w fun e w' => e = .returned (.bool (zF m 5)) ∧ Below w.heap.size w w' := by
  have hr0 := Row.new w 72 (mc m s)
  have bel := below_alloc w (.cells (mc m s).toArray 72)
  have c0 := hr0.cell (j := 7) rfl
  have e : zF m 5 = (m.cnt == 0) := rfl
  rw [e]
  clear e
  go_enter Tryz.func146, Tryz.ntmps146
  go_wp2_with fail
  go_ret
  exact ⟨rfl, bel⟩
set_option maxHeartbeats 1000000 in
theorem isZero_6 (w : World) (m : PMsg) (s : SV) (hs : SOk Any w m s) : Calls Tryz.prog 146 #[.agg (mc m s).toArray, .int .i32 82] w fun e w' => e = .returned (.bool (zF m 6)) ∧ Below w.heap.size w w' := by
  have hr0 := Row.new w 72 (mc m s)
  have bel := below_alloc w (.cells (mc m s).toArray 72)
  have hQ := noReq_any (w.alloc (.cells (mc m s).toArray 72)) [.int .i64 m.req.1, .int .i64 m.req.2.1, s.o, s.g] m.req ⟨_, _, rfl, (hs.below bel).o, (hs.below bel).g⟩
  have e : zF m 6 = zV (freq m.req) := rfl
  rw [e]
  go_enter Tryz.func146, Tryz.ntmps146
  go_wp2_with (refine wl_part rfl _ _ rfl w.heap.size 8 rfl _ _ hr0 [.int .i64 m.req.1, .int .i64 m.req.2.1, s.o, s.g] rfl _ Tryz.underlying62 rfl (by kernel_rfl) ?_)
  refine hQ.mono ?_
  rintro e w1 ⟨rfl, hb1⟩
  go_wp2_with fail
  go_ret
  exact ⟨rfl, below_and bel (Nat.le_refl _) hb1⟩
set_option maxHeartbeats 1000000 in
theorem isZero_7 (w : World) (m : PMsg) (s : SV) (hs : SOk Any w m s) : Calls Tryz.prog 146 #[.agg (mc m s).toArray, .int .i32 79] w fun e w' => e = .returned (.bool (zF m 7)) ∧ Below w.heap.size w w' := by
  have hr0 := Row.new w 72 (mc m s)
  have bel := below_alloc w (.cells (mc m s).toArray 72)
  have hQ := noReq_any (w.alloc (.cells (mc m s).toArray 72)) [.int .i64 m.oth.1, .int .i64 m.oth.2.1, s.o', s.g'] m.oth ⟨_, _, rfl, (hs.below bel).o', (hs.below bel).g'⟩
  have e : zF m 7 = zV (freq m.oth) := rfl
  rw [e]
  go_enter Tryz.func146, Tryz.ntmps146
  go_wp2_with (refine wl_part rfl _ _ rfl w.heap.size 12 rfl _ _ hr0 [.int .i64 m.oth.1, .int .i64 m.oth.2.1, s.o', s.g'] rfl _ Tryz.underlying62 rfl (by kernel_rfl) ?_)
  refine hQ.mono ?_
  rintro e w1 ⟨rfl, hb1⟩
  go_wp2_with fail
  go_ret
  exact ⟨rfl, below_and bel (Nat.le_refl _) hb1⟩
set_option maxHeartbeats 1000000 in
theorem isZero_8 (w : World) (m : PMsg) (s : SV) (hs : SOk Any w m s) : Calls Tryz.prog 146 #[.agg (mc m s).toArray, .int .i32 68] w fun e w' => e = .returned (.bool (zF m 8)) ∧ Below w.heap.size w w' := by
  have hr0 := Row.new w 72 (mc m s)
  have bel := below_alloc w (.cells (mc m s).toArray 72)
  have c0 := hr0.cell (j := 16) rfl
  obtain ⟨ao, cap, hv, hc⟩ := hs.d.form
  have e : zF m 8 = ((m.data.length : Int) == 0) := by show m.data.isEmpty = _; cases m.data <;> simp <;> omega
  rw [hv] at c0
  rw [e]
  clear e
  go_enter Tryz.func146, Tryz.ntmps146
  go_wp2_with fail
  go_ret
  exact ⟨rfl, bel⟩
set_option maxHeartbeats 1000000 in
theorem isZero_9 (w : World) (m : PMsg) (s : SV) (hs : SOk Any w m s) : Calls Tryz.prog 146 #[.agg (mc m s).toArray, .int .i32 71] w fun e w' => e = .returned (.bool (zF m 9)) ∧ Below w.heap.size w w' := by
  have hr0 := Row.new w 72 (mc m s)
  have bel := below_alloc w (.cells (mc m s).toArray 72)
  have c0 := hr0.cell (j := 17) rfl
  obtain ⟨ao, cap, hv, hc⟩ := hs.s.form
  have e : zF m 9 = ((m.sig.length : Int) == 0) := by show m.sig.isEmpty = _; cases m.sig <;> simp <;> omega
  rw [hv] at c0
  rw [e]
  clear e
  go_enter Tryz.func146, Tryz.ntmps146
  go_wp2_with fail
  go_ret
  exact ⟨rfl, bel⟩
set_option maxHeartbeats 1000000 in
theorem isZero_10 (w : World) (m : PMsg) (s : SV) (hs : SOk Any w m s) : Calls Tryz.prog 146 #[.agg (mc m s).toArray, .int .i32 69] w fun e w' => e = .returned (.bool (zF m 10)) ∧ Below w.heap.size w w' := by
  have hr0 := Row.new w 72 (mc m s)
  have bel := below_alloc w (.cells (mc m s).toArray 72)
  have c0 := hr0.cell (j := 18) rfl
  obtain ⟨ao, cap, hv, hc⟩ := hs.c.form
  have e : zF m 10 = ((m.cert.length : Int) == 0) := by show m.cert.isEmpty = _; cases m.cert <;> simp <;> omega
  rw [hv] at c0
  rw [e]
  clear e
  go_enter Tryz.func146, Tryz.ntmps146
  go_wp2_with fail
  go_ret
  exact ⟨rfl, bel⟩
set_option maxHeartbeats 1000000 in
theorem isZero_11 (w : World) (m : PMsg) (s : SV) (hs : SOk Any w m s) : Calls Tryz.prog 146 #[.agg (mc m s).toArray, .int .i32 86] w fun e w' => e = .returned (.bool (zF m 11)) ∧ Below w.heap.size w w' := by
  have hr0 := Row.new w 72 (mc m s)
  have bel := below_alloc w (.cells (mc m s).toArray 72)
  have c0 := hr0.cell (j := 19) rfl
  obtain ⟨ao, cap, hv, hc⟩ := hs.v.form
  have e : zF m 11 = ((m.votes.length : Int) == 0) := by show m.votes.isEmpty = _; cases m.votes <;> simp <;> omega
  rw [hv] at c0
  rw [e]
  clear e
  go_enter Tryz.func146, Tryz.ntmps146
  go_wp2_with fail
  go_ret
  exact ⟨rfl, bel⟩
set_option maxHeartbeats 1000000 in
theorem isZero_12 (w : World) (m : PMsg) (s : SV) (hs : SOk Any w m s) : Calls Tryz.prog 146 #[.agg (mc m s).toArray, .int .i32 78] w fun e w' => e = .returned (.bool (zF m 12)) ∧ Below w.heap.size w w' := by
  have hr0 := Row.new w 72 (mc m s)
  have bel := below_alloc w (.cells (mc m s).toArray 72)
  have c0 := hr0.cell (j := 20) rfl
  obtain ⟨ao, cap, hv, hc⟩ := hs.n.form
  have e : zF m 12 = ((m.order.length : Int) == 0) := by show m.order.isEmpty = _; cases m.order <;> simp <;> omega
  rw [hv] at c0
  rw [e]
  clear e
  go_enter Tryz.func146, Tryz.ntmps146
  go_wp2_with fail
  go_ret
  exact ⟨rfl, bel⟩
set_option maxHeartbeats 1000000 in
theorem isZero_13 (w : World) (m : PMsg) (s : SV) (hs : SOk Any w m s) : Calls Tryz.prog 146 #[.agg (mc m s).toArray, .int .i32 80] w fun e w' => e = .returned (.bool (zF m 13)) ∧ Below w.heap.size w w' := by
  have hr0 := Row.new w 72 (mc m s)
  have bel := below_alloc w (.cells (mc m s).toArray 72)
  have c0 := hr0.cell (j := 21) rfl
  obtain ⟨ao, cap, hv, hc⟩ := hs.p.form
  have e : zF m 13 = ((m.picks.length : Int) == 0) := by show m.picks.isEmpty = _; cases m.picks <;> simp <;> omega
  rw [hv] at c0
  rw [e]
  clear e
  go_enter Tryz.func146, Tryz.ntmps146
  go_wp2_with fail
  go_ret
  exact ⟨rfl, bel⟩
set_option maxHeartbeats 1000000 in
theorem isZero_14 (w : World) (m : PMsg) (s : SV) (hs : SOk Any w m s) : Calls Tryz.prog 146 #[.agg (mc m s).toArray, .int .i32 76] w fun e w' => e = .returned (.bool (zF m 14)) ∧ Below w.heap.size w w' := by
  have hr0 := Row.new w 72 (mc m s)
  have bel := below_alloc w (.cells (mc m s).toArray 72)
  have c0 := hr0.cell (j := 22) rfl
  obtain ⟨ao, cap, hv, hc⟩ := hs.l.form
  have e : zF m 14 = ((m.reps.length : Int) == 0) := by show m.reps.isEmpty = _; cases m.reps <;> simp <;> omega
  rw [hv] at c0
  rw [e]
  clear e
  go_enter Tryz.func146, Tryz.ntmps146
  go_wp2_with fail
  go_ret
  exact ⟨rfl, bel⟩
/-- isZero. -/
theorem isZero_any (w : World) (m : PMsg) (s : SV) (hs : SOk Any w m s) {i : Nat} (h : i < 15) : Calls Tryz.prog 146 #[.agg (mc m s).toArray, .int .i32 (lt i)] w fun e w' => e = .returned (.bool (zF m i)) ∧ Below w.heap.size w w' := by
  rcases lt15 h with rfl | rfl | rfl | rfl | rfl | rfl | rfl | rfl | rfl | rfl | rfl | rfl | rfl | rfl | rfl
  · exact isZero_0 w m s hs
  · exact isZero_1 w m s hs
  · exact isZero_2 w m s hs
  · exact isZero_3 w m s hs
  · exact isZero_4 w m s hs
  · exact isZero_5 w m s hs
  · exact isZero_6 w m s hs
  · exact isZero_7 w m s hs
  · exact isZero_8 w m s hs
  · exact isZero_9 w m s hs
  · exact isZero_10 w m s hs
  · exact isZero_11 w m s hs
  · exact isZero_12 w m s hs
  · exact isZero_13 w m s hs
  · exact isZero_14 w m s hs
end
section
open Go.RowKit Oct
def allB : ByteArray := ⟨#[66, 83, 70, 84, 73, 67, 82, 79, 68, 71, 69, 86, 78, 80, 76]⟩
theorem allB_size : allB.size = 15 := rfl
theorem allB_at {q : Nat} (h : q < allB.size) : ((allB[q]'h).toNat : Int) = lt q ∧ (allB[q]'h).toNat < 128 := by
  have h' : q < 15 := h
  have e : ((allB[q]'h).toNat : Int) = lt q := by
    rcases lt15 h' with rfl | rfl | rfl | rfl | rfl | rfl | rfl | rfl | rfl | rfl | rfl | rfl | rfl | rfl | rfl <;> rfl
  have := lt_bd h'
  exact ⟨e, by omega⟩
theorem fsB_size (k : Int) : (fsB k).size = (fl k).length := by simp [fsB, ByteArray.size]
theorem fsB_at {k : Int} {q : Nat} (h : q < (fsB k).size) {i : Nat} (hi : (fl k)[q]? = some i) : (((fsB k)[q]'h).toNat : Int) = lt i ∧ ((fsB k)[q]'h).toNat < 128 := by
  have h15 : i < 15 := nice_lt (fl_nice k) i (List.mem_of_getElem? hi)
  have e : ((fsB k)[q]'h) = lb i := by
    obtain ⟨hq, e⟩ := List.getElem?_eq_some_iff.1 hi
    have h2 : ((fl k).map lb)[q]'(by simpa using hq) = lb i := by simp [e]
    exact h2
  have := lt_bd h15
  rw [e]
  exact ⟨rfl, by unfold lt at this; omega⟩
/-- Is there something in another field? -/
def hasO (k : Int) (m : PMsg) : Bool := (List.range 15).any fun i => !(fl k).contains i && !zF m i
theorem hasO_yes {k : Int} {m : PMsg} {q : Nat} (hq : q < 15) (h1 : (fl k).contains q = false) (h2 : zF m q = false) : hasO k m = true := by
  unfold hasO
  rw [List.any_eq_true]
  exact ⟨q, List.mem_range.2 hq, by rw [h1, h2]; rfl⟩
theorem hasO_no {k : Int} {m : PMsg} (h : ∀ i, i < 15 → ((fl k).contains i || zF m i) = true) : hasO k m = false := by
  unfold hasO
  rw [List.any_eq_false]
  intro i hi
  have := h i (List.mem_range.1 hi)
  cases h1 : (fl k).contains i <;> cases h2 : zF m i <;> simp_all
theorem iter_low {w : World} {k : Nat} {s : ByteArray} {p : Nat} {b : Nat} {t : TypeId} {xs : List Value} (h : Row w b t xs) (hk : b ≠ k) : Row (w.iterAt k s p) b t xs := (Lib.iterAt_other w k b s p hk).trans h
/-- One more letter was asked for. -/
def Asked (k : Int) (m : PMsg) (q : Nat) : Prop := ∀ i, i < q → ((fl k).contains i || zF m i) = true
theorem Asked.zero (k : Int) (m : PMsg) : Asked k m 0 := fun _ h => absurd h (Nat.not_lt_zero _)
theorem Asked.more {k : Int} {m : PMsg} {q : Nat} (h : Asked k m q) (h1 : ((fl k).contains q || zF m q) = true) : Asked k m (q + 1) := fun i hi => by
  rcases Nat.lt_or_ge i q with h2 | h2
  · exact h i h2
  · obtain rfl : i = q := by omega
    exact h1
set_option maxHeartbeats 2000000 in
/-- hasOther. -/
theorem hasOther_any (w : World) (m : PMsg) (s : SV) (hs : SOk Any w m s) (k : Int) : Calls Tryz.prog 119 #[.agg (mc m s).toArray, .string (fsB k)] w fun e w' => e = .returned (.bool (hasO k m)) ∧ Below w.heap.size w w' := by
  have hr0 := Row.new w 72 (mc m s)
  have hb0 := below_alloc w (.cells (mc m s).toArray 72)
  obtain ⟨w0, hw0⟩ : ∃ w0, w0 = w.alloc (.cells (mc m s).toArray 72) := ⟨_, rfl⟩
  have hsz : w0.heap.size = w.heap.size + 1 := by rw [hw0]; simp
  go_enter Tryz.func119, Tryz.ntmps119
  go_wp2_with fail
  rw [← hw0] at hr0 hb0 ⊢
  clear hw0
  have hit0 : (w0.iter allB 0).heap[w.heap.size + 1]? = some (.stringIter allB 0) := by rw [← hsz]; exact World.iter_heap w0 allB 0
  go_loopg [] 15 (fun gf wx => ∃ pos : Nat, wx.heap[w.heap.size + 1]? = some (.stringIter allB pos) ∧ Row wx w.heap.size 72 (mc m s) ∧ Below w.heap.size w wx ∧ pos + gf = 15 ∧ Asked k m pos)
  case atStart => exact ⟨0, hit0, hr0.below ((Below.refl _ w0).alloc (Nat.le_refl _) _), below_and hb0 (Nat.le_refl _) ((Below.refl _ w0).alloc (Nat.le_refl _) _), rfl, Asked.zero _ _⟩
  case round =>
    obtain ⟨pos, hit, hrow, hbw, hfu, hask⟩ := hrel
    by_cases hps : pos < allB.size
    · obtain ⟨g', rfl⟩ : ∃ g', gk = g' + 1 := ⟨gk - 1, by rw [allB_size] at hps; omega⟩
      have hq : pos < 15 := hps
      obtain ⟨hl1, hl2⟩ := allB_at hps
      have hnx : ∀ ty, (Instr.next (.pointer (some ⟨w.heap.size + 1, 0, none⟩)) true ty).run Tryz.prog wr = _ := fun ty => Lib.run_next_ascii_at wr (w.heap.size + 1) allB pos ty hit hps hl2
      rw [hl1] at hnx
      have hit2 := Lib.iterAt_heap wr (w.heap.size + 1) allB pos (pos + 1) hit
      have hbw2 := Lib.below_iterAt hbw (k := w.heap.size + 1) (by omega) allB (pos + 1)
      have hrow2 := iter_low (s := allB) (p := pos + 1) hrow (k := w.heap.size + 1) (by omega)
      obtain ⟨W, hWd⟩ : ∃ W, wr.iterAt (w.heap.size + 1) allB (pos + 1) = W := ⟨_, rfl⟩
      rw [hWd] at hnx hit2 hbw2 hrow2
      have hltW : w.heap.size + 1 < W.heap.size := (Array.getElem?_eq_some_iff.1 hit2).1
      have cH := has_any k pos hq W
      have cZ := isZero_any W m s (hs.below hbw2) hq
      clear hWd hl1 hl2
      cases hc : (fl k).contains pos with
      | true =>
        rw [hc] at cH
        have hn := hask.more (by rw [hc]; rfl)
        clear hc
        go_wp2_with (go_at_call 145; refine cH.mono ?_; rintro e W ⟨rfl, rfl⟩)
        go_roundg g'
        case measure => omega
        case rel => exact ⟨pos + 1, hit2, hrow2, hbw2, by omega, hn⟩
      | false =>
        rw [hc] at cH
        cases hz : zF m pos with
        | true =>
          rw [hz] at cZ
          have hn := hask.more (by rw [hz]; simp)
          clear hc hz
          go_wp2_with (first
            | (go_at_call 145; refine cH.mono ?_; rintro e W ⟨rfl, rfl⟩)
            | (refine wl_load_w (by rfl) _ _ rfl w.heap.size rfl _ _ hrow2 _ Tryz.underlying72 rfl (by kernel_rfl) ?_)
            | (go_at_call 146; refine cZ.mono ?_; rintro e W' ⟨rfl, hbc⟩))
          go_roundg g'
          case measure => omega
          case rel => exact ⟨pos + 1, (hbc.block _ hltW).trans hit2, hrow2.below hbc, hbw2.trans (hbc.mono hbw2.size), by omega, hn⟩
        | false =>
          rw [hz] at cZ
          have HN := (show Hid (hasO k m = true) from hasO_yes hq hc hz)
          clear hc hz
          go_wp2_with (first
            | (go_at_call 145; refine cH.mono ?_; rintro e W ⟨rfl, rfl⟩)
            | (refine wl_load_w (by rfl) _ _ rfl w.heap.size rfl _ _ hrow2 _ Tryz.underlying72 rfl (by kernel_rfl) ?_)
            | (go_at_call 146; refine cZ.mono ?_; rintro e W' ⟨rfl, hbc⟩))
          go_ret
          exact ⟨by rw [HN.out]; rfl, hbw2.trans (hbc.mono hbw2.size)⟩
    · have hnx : ∀ ty, (Instr.next (.pointer (some ⟨w.heap.size + 1, 0, none⟩)) true ty).run Tryz.prog wr = _ := fun ty => Lib.run_next_end_at wr (w.heap.size + 1) allB pos ty hit hps
      rw [allB_size] at hps
      have HN := (show Hid (hasO k m = false) from hasO_no fun i hi => hask i (by omega))
      go_wp2_with fail
      go_ret
      exact ⟨by rw [HN.out]; rfl, hbw⟩
end
end Go.Proofs.YtgbfmccecnfooaaGreatDoor
