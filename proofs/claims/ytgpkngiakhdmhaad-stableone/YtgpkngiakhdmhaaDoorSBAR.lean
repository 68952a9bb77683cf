/- sha.step. -/
import Derived.Test.YtgpkngiakhdmhaaDoorSBAM
import Derived.Test.YtgpkngiakhdmhaaDoorSBAB
import Derived.Laws.Shifts
import Derived.Test.YtgpkngiakhdmhaaDoorSBAK
import Derived.BigQuiet
import Derived.Deep.QuietTactic
namespace Go.Proofs.YtgpkngiakhdmhaaDoor
section
open Go.RowKit Oct Sha
theorem and31 (z : Int) (h0 : 0 ≤ z) (h1 : z < 18446744073709551616) : bits .and .u64 z 31 = z % 32 :=
  bits_mask .u64 64 (by decide) (fun n a b => by rw [IntKind.wrap_u64]; omega) 5 (by decide) z h0 h1
/-- A word turned left by a number under 0. -/
theorem rotl_any (w : World) (x : BitVec 32) (n : Nat) (h0 : 1 ≤ n) (h1 : n ≤ 31) :
    Calls Tryd.prog 90 #[.int .u32 (wi x), .int .i64 (-(n : Int))] w fun e w' => e = .returned (.int .u32 (wi (rotr x n))) ∧ w' = w := by
  obtain ⟨m, hm, hm0, hm1⟩ : ∃ m : Nat, m = 32 - n ∧ 1 ≤ m ∧ m ≤ 31 := ⟨32 - n, rfl, by omega, by omega⟩
  have hs : bits .and .u64 (IntKind.u64.wrap (-(n : Int))) 31 = (m : Int) := by
    have h : IntKind.u64.wrap (-(n : Int)) = 18446744073709551616 - (n : Int) := by rw [IntKind.wrap_u64]; omega
    rw [h, and31 _ (by omega) (by omega)]
    omega
  have hd : (32 : Int) - m = n := by omega
  rw [show rotr x n = (x <<< m) ||| (x >>> n) by rw [hm, rotr, BitVec.or_comm]]
  clear hm
  go_enter Tryd.func90, Tryd.ntmps90
  go_wp2_with fail
  go_ret
  exact ⟨ret_int (by rw [shl_wi, shr_wi, bits_or]), rfl⟩
theorem rotR_any (w : World) (x : BitVec 32) (n : Nat) (h0 : 1 ≤ n) (h1 : n ≤ 31) :
    Calls Tryd.prog 89 #[.int .u32 (wi x), .int .i64 (n : Int)] w fun e w' => e = .returned (.int .u32 (wi (rotr x n))) ∧ w' = w := by
  go_enter Tryd.func89, Tryd.ntmps89
  go_wp2_with fail
  refine (rotl_any _ x n h0 h1).mono ?_
  rintro e w' ⟨rfl, rfl⟩
  go_wp2_with fail
  go_ret
  exact ⟨rfl, rfl⟩
theorem turned_any (w : World) (x : BitVec 32) (i j k : Nat) (hi : 1 ≤ i ∧ i ≤ 31) (hj : 1 ≤ j ∧ j ≤ 31) (hk : 1 ≤ k ∧ k ≤ 31) :
    Calls Tryd.prog 88 #[.int .u32 (wi x), .int .i64 (i : Int), .int .i64 (j : Int), .int .i64 (k : Int)] w fun e w' => e = .returned (.int .u32 (wi (rotr x i ^^^ rotr x j ^^^ rotr x k))) ∧ w' = w := by
  go_enter Tryd.func88, Tryd.ntmps88
  go_wp2_with fail
  refine (rotR_any _ x i hi.1 hi.2).mono ?_
  rintro e w' ⟨rfl, rfl⟩
  go_wp2_with fail
  refine (rotR_any _ x j hj.1 hj.2).mono ?_
  rintro e w' ⟨rfl, rfl⟩
  go_wp2_with fail
  refine (rotR_any _ x k hk.1 hk.2).mono ?_
  rintro e w' ⟨rfl, rfl⟩
  go_wp2_with fail
  go_ret
  exact ⟨ret_int (by rw [bits_xor, bits_xor]), rfl⟩
theorem S1_any (w : World) (x : BitVec 32) :
    Calls Tryd.prog 88 #[.int .u32 (wi x), .int .i64 6, .int .i64 11, .int .i64 25] w fun e w' => e = .returned (.int .u32 (wi (S1 x))) ∧ w' = w :=
  turned_any w x 6 11 25 (by decide) (by decide) (by decide)
theorem S0_any (w : World) (x : BitVec 32) :
    Calls Tryd.prog 88 #[.int .u32 (wi x), .int .i64 2, .int .i64 13, .int .i64 22] w fun e w' => e = .returned (.int .u32 (wi (S0 x))) ∧ w' = w :=
  turned_any w x 2 13 22 (by decide) (by decide) (by decide)
theorem right_7 (w : World) (x : BitVec 32) : Calls Tryd.prog 89 #[.int .u32 (wi x), .int .i64 7] w fun e w' => e = .returned (.int .u32 (wi (rotr x 7))) ∧ w' = w := rotR_any w x 7 (by decide) (by decide)
theorem right_17 (w : World) (x : BitVec 32) : Calls Tryd.prog 89 #[.int .u32 (wi x), .int .i64 17] w fun e w' => e = .returned (.int .u32 (wi (rotr x 17))) ∧ w' = w := rotR_any w x 17 (by decide) (by decide)
theorem right_18 (w : World) (x : BitVec 32) : Calls Tryd.prog 89 #[.int .u32 (wi x), .int .i64 18] w fun e w' => e = .returned (.int .u32 (wi (rotr x 18))) ∧ w' = w := rotR_any w x 18 (by decide) (by decide)
theorem right_19 (w : World) (x : BitVec 32) : Calls Tryd.prog 89 #[.int .u32 (wi x), .int .i64 19] w fun e w' => e = .returned (.int .u32 (wi (rotr x 19))) ∧ w' = w := rotR_any w x 19 (by decide) (by decide)
theorem small0_any (w : World) (x : BitVec 32) : Calls Tryd.prog 87 #[.int .u32 (wi x)] w fun e w' => e = .returned (.int .u32 (wi (s0 x))) ∧ w' = w := by
  go_enter Tryd.func87, Tryd.ntmps87
  go_wp2_with fail
  refine (right_7 _ x).mono ?_
  rintro e w' ⟨rfl, rfl⟩
  go_wp2_with fail
  refine (right_18 _ x).mono ?_
  rintro e w' ⟨rfl, rfl⟩
  go_wp2_with fail
  go_ret
  exact ⟨ret_int (by rw [show (8 : Int) = 2 ^ 3 from rfl, shr_wi, bits_xor, bits_xor]; rfl), rfl⟩
theorem small1_any (w : World) (x : BitVec 32) : Calls Tryd.prog 86 #[.int .u32 (wi x)] w fun e w' => e = .returned (.int .u32 (wi (s1 x))) ∧ w' = w := by
  go_enter Tryd.func86, Tryd.ntmps86
  go_wp2_with fail
  refine (right_17 _ x).mono ?_
  rintro e w' ⟨rfl, rfl⟩
  go_wp2_with fail
  refine (right_19 _ x).mono ?_
  rintro e w' ⟨rfl, rfl⟩
  go_wp2_with fail
  go_ret
  exact ⟨ret_int (by rw [show (1024 : Int) = 2 ^ 10 from rfl, shr_wi, bits_xor, bits_xor]; rfl), rfl⟩
end
section
open Go.RowKit Oct Sha
variable {P : Program}
/-- 'clear(s)', s in a row of bytes. -/
theorem run_clear (w : World) (T ty elem : TypeId) (i : TypeInfo) (hu : P.underlying T = some (.slice elem)) (hi : P.info? elem = some i) (hz : i.zero = some (.int .u8 0))
    (dp : Option Addr) (n cap g off : Nat) (cur : List Value) (t : TypeId) (hg : Row w g t cur) (hpos : 0 < n → dp = some ⟨g, off, none⟩) (hfit : off + n ≤ cur.length) :
    ∃ w', (Builtin.clear_ #[T] ty #[.slice dp n cap]).run P w = .ok (.tuple #[]) w' ∧ Row w' g t (splice cur off (bc (List.replicate n 0))) ∧ w.grownBy w' (some g) := by
  by_cases h0 : n = 0
  · subst h0
    refine ⟨w, ?_, by simpa [splice, bc] using hg, grown_refl _ _⟩
    cases dp <;> simp [Builtin.clear_, run_underlying hu]
  · obtain rfl := hpos (by omega)
    have hzc : (Builtin.zeroCells #[Value.int .u8 0] n).toList = bc (List.replicate n 0) := by
      apply List.ext_getElem
      · simp [Builtin.zeroCells, bc]
      · intro k h1 h2
        simp [Builtin.zeroCells, bc, Nat.mod_one]
    have hst := run_storeCells_at P g off t (bc (List.replicate n 0)) 0 cur.toArray w hg (by simp [bc]; omega) (bc_one _)
    refine ⟨_, ?_, hg.setRow _, grown_setRow _ _ _⟩
    obtain ⟨m, rfl⟩ : ∃ m, n = m + 1 := ⟨n - 1, by omega⟩
    simp [Builtin.clear_, run_underlying hu, zeroValue, typeInfo, hi, hz, Value.cells, hzc, hst, splice]
theorem wl_clear {ops : Array Oper} {rest : List Oper} {o : Oper} {a : Act} {w : World} {Q : Exit → Act → World → Prop} (hgd : o.guard = none) (s : Operand) (T : TypeId)
    (ho : o.op = .call { callee := .builtin .clear, args := #[s], argTypes := #[T] }) (elem : TypeId) (i : TypeInfo) (hu : P.underlying T = some (.slice elem)) (hi : P.info? elem = some i) (hz : i.zero = some (.int .u8 0))
    (dp : Option Addr) (n cap g off : Nat) (hs : a.eval s = .slice dp n cap) (cur : List Value) (t : TypeId) (hg : Row w g t cur) (hpos : 0 < n → dp = some ⟨g, off, none⟩) (hfit : off + n ≤ cur.length)
    (k : ∀ w', Hid (Row w' g t (splice cur off (bc (List.replicate n 0)))) → w.grownBy w' (some g) → wpList P ops Q rest (a.put o.dst (.tuple #[])) w') : wpList P ops Q (o :: rest) a w :=
  wpList_plain hgd fun _ hK => by
    obtain ⟨w', hrun, h2, h3⟩ := run_clear (P := P) w T o.type elem i hu hi hz dp n cap g off cur t hg hpos hfit
    unfold Oper.wp
    simp [execOp, ho, resolve, invoke, builtin, hs, hrun, Result.andThen]
    exact hK _ _ (k w' h2 h3)
theorem wv_one (ws : List (BitVec 32)) : ∀ u ∈ ws.map wv, u.oneCell' = true := by
  intro u hu
  obtain ⟨x, _, rfl⟩ := List.mem_map.1 hu
  rfl
end
section
open Go.RowKit Oct Sha
theorem Tryd.info34 : (Tryd.prog.info? 93).map (·.size) = some 1 := by kernel_rfl
set_option maxHeartbeats 1000000 in
theorem step_any (w : World) (b : Nat) (t : TypeId) (s : St) (tl : List Value) (i : BitVec 32) (hr : Row w b t (s.vs ++ tl)) :
    Calls Tryd.prog 85 #[.pointer (some ⟨b, 0, none⟩), .int .u32 (wi i)] w fun e w' => e = .returned (.tuple #[]) ∧ Row w' b t ((rstep s i).vs ++ tl) ∧ w.grownBy w' (some b) := by
  obtain ⟨xa, xb, xc, xd, xe, xf, xg, xh⟩ := s
  have c0 : w.cell? ⟨b, 0, none⟩ = some (.int .u32 (wi xa)) := hr.cell rfl
  have c1 : w.cell? ⟨b, 1, none⟩ = some (.int .u32 (wi xb)) := hr.cell rfl
  have c2 : w.cell? ⟨b, 2, none⟩ = some (.int .u32 (wi xc)) := hr.cell rfl
  have c3 : w.cell? ⟨b, 3, none⟩ = some (.int .u32 (wi xd)) := hr.cell rfl
  have c4 : w.cell? ⟨b, 4, none⟩ = some (.int .u32 (wi xe)) := hr.cell rfl
  have c5 : w.cell? ⟨b, 5, none⟩ = some (.int .u32 (wi xf)) := hr.cell rfl
  have c6 : w.cell? ⟨b, 6, none⟩ = some (.int .u32 (wi xg)) := hr.cell rfl
  have c7 : w.cell? ⟨b, 7, none⟩ = some (.int .u32 (wi xh)) := hr.cell rfl
  go_enter Tryd.func85, Tryd.ntmps85
  go_wp2_with fail
  go_quiet (fail)
  go_wp2_with fail
  go_quiet (fail)
  go_wp2_with fail
  go_quiet ((go_at_call 88; exact quiet_as (S1_any _ xe) rfl))
  go_wp2_with fail
  refine (S0_any _ xa).mono ?_
  rintro e w1 ⟨rfl, rfl⟩
  go_wp2_with fail
  go_region_held3 (fun _ => True) (trivial)
    ((refine step_copy_to (by rfl) _ _ _ _ (by rfl) 93 Tryd.underlying134 Tryd.info34 (some ⟨b, 1, none⟩) (some ⟨b, 0, none⟩) 7 7 7 8 (by rfl) (by rfl) b 1 _ t hr [wv xa, wv xb, wv xc, wv xd, wv xe, wv xf, wv xg] (by rfl) (fun _ => ⟨rfl, _, rfl, hr.src 0 7⟩) (by simp [St.vs, St.ws]) (wv_one [xa, xb, xc, xd, xe, xf, xg]) 7 rfl ?_; intro w2 hr2 hg2))
  have hg : w.grownBy w2 (some b) := grown_drewN (grown_drew hg2)
  have hR : Row w2 b t ([wv xa, wv xa, wv xb, wv xc, wv xd, wv xe, wv xf, wv xg] ++ tl) := hr2
  clear hg2 hr2 c0 c1 c2 c3 c4 c5 c6 c7 hr
  have c4 : w2.cell? ⟨b, 4, none⟩ = some (.int .u32 (wi xd)) := hR.cell rfl
  have c0 : w2.cell? ⟨b, 0, none⟩ = some (.int .u32 (wi xa)) := hR.cell rfl
  have f4 := hR.frozen 4
  have f0 := hR.frozen 0
  go_wp2_with fail
  go_region
  go_wp2_with fail
  go_end0
  refine ⟨rfl, ?_, ?_⟩
  · have h := ((hR.set 4 (wv (xd + (xh + S1 xe + ch xe xf xg + i)))).set 0 (wv (xh + S1 xe + ch xe xf xg + i + (S0 xa + maj xa xb xc)))).drew
    simp only [bits_not, bits_and, bits_or, mod_wi, ofInt_sum, ofInt_wi]
    exact h
  · exact grown_to_drew (grown_trans (grown_trans hg (grown_set _ _ _ _) (.inl rfl)) (grown_set _ _ _ _) (.inl rfl))
end
end Go.Proofs.YtgpkngiakhdmhaaDoor
