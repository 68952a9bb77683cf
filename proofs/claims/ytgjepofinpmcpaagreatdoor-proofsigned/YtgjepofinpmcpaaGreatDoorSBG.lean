/- What the rows' list gives: the table of constants; and a world that holds it, for the witness. -/
import Derived.Test.YtgjepofinpmcpaaGreatDoorSBC
import Derived.Test.YtgjepofinpmcpaaGreatDoorSAL
import Derived.Deep.QuietTactic
import Derived.BigQuiet
import Derived.Test.YtgjepofinpmcpaaGreatDoorRows
import Derived.Test.YtgjepofinpmcpaaGreatDoorSBB
import Derived.Deep.DeepHandedRow
import Derived.Lib.LaidTab
set_option linter.unusedSimpArgs false
set_option linter.unusedVariables false
namespace Go.Proofs.YtgjepofinpmcpaaGreatDoor
section
open Go.RowKit Oct
section
variable {P : Program}
/-- A whole row is stored, at a step of a region that draws its order. -/
theorem wpOp_store {ops : Array Oper} {Q : Exit → Act → World → Prop} {i : Nat} {K : Act → World → Prop} {a : Act} {w : World} {o : Oper} (hi : ops[i]? = some o) (hgd : o.guard = none) (ty : TypeId) (x y : Operand) (ho : o.op = .store ty x y)
    (b : Nat) (ys : List Value) (hx : a.eval x = .pointer (some ⟨b, 0, none⟩)) (hy : a.eval y = .agg ys.toArray) (t : TypeId) (xs : List Value) (h : Row w b t xs) (hl : xs.length = ys.length)
    (hs : (P.info? ty).map (·.size) = some ys.length) (h1 : ∀ v ∈ ys, v.oneCell' = true) (k : ∀ w', Row w' b t ys → w.grownBy w' (some b) → K (a.put o.dst undef) w') : wpOp P ops Q i K a w := by
  have hw : Region.wanted o (yielded ops a.tmps) = true := by simp [Region.wanted, hgd]
  unfold wpOp
  rw [hi]
  simp only [hw, if_true]
  left
  unfold Oper.wp execOp
  simp only [ho, hx, hy, Sem.run_bind, Sem.run_pure, Result.andThen_ok, h.store ty ys hl hs h1]
  exact k _ (h.setRow ys) (grown_setRow _ _ _)
/-- One cell is stored there. -/
theorem wpOp_set {ops : Array Oper} {Q : Exit → Act → World → Prop} {i : Nat} {K : Act → World → Prop} {a : Act} {w : World} {o : Oper} (hi : ops[i]? = some o) (hgd : o.guard = none) (ty : TypeId) (x y : Operand) (ho : o.op = .store ty x y)
    (b j : Nat) (v : Value) (hx : a.eval x = .pointer (some ⟨b, j, none⟩)) (hy : a.eval y = v) (t : TypeId) (xs : List Value) (h : Row w b t xs) (hj : j < xs.length)
    (hs : (P.info? ty).map (·.size) = some 1) (h1 : v.oneCell' = true) (k : ∀ w', Row w' b t (xs.set j v) → w.grownBy w' (some b) → K (a.put o.dst undef) w') : wpOp P ops Q i K a w := by
  have hw : Region.wanted o (yielded ops a.tmps) = true := by simp [Region.wanted, hgd]
  unfold wpOp
  rw [hi]
  simp only [hw, if_true]
  left
  unfold Oper.wp execOp
  simp only [ho, hx, hy, Instr.storeAt, Instr.sureAddr, Sem.run_bind, Sem.run_pure, Result.andThen_ok, run_set h ty hs j hj v h1]
  exact k _ (h.setRow _) (grown_setRow _ _ _)
end
theorem build_msg (w : World) : (Instr.build 40 #[]).run Tryz.prog w = .ok (.agg (mc zeroM sv0).toArray) w := by kernel_rfl
set_option maxHeartbeats 1000000 in
theorem decCatch (pm pe : Nat) (n : Int) (m : PMsg) (s : SV) (ve : Value) (w : World) (hm : Row w pm 40 (mc m s)) (he : Row w pe 24 [ve]) (hne : pm ≠ pe) :
    CallsD Tryz.prog 34 #[.pointer (some ⟨pm, 0, none⟩), .pointer (some ⟨pe, 0, none⟩)] (.panicking [{ v := .iface 24 (.int .i64 n), recovered := false }]) w fun e u' w' =>
      e = .returned (.tuple #[]) ∧ u' = .panicking [{ v := .iface 24 (.int .i64 n), recovered := true }] ∧ Row w' pm 40 (mc zeroM sv0) ∧ Row w' pe 24 [.int .i64 n] ∧ Two pm pe w w' := by
  refine callsD_of_wpS Tryz.func34 rfl fun c₀ cs hu => ?_
  apply wpS_seq
  apply wpS_region
  simp [wpOpsS, go_sem, recoverD, hu, Tryz.ntmps34, Exit.thenS]
  have ht : (#[Value.pointer (some ⟨pm, 0, none⟩), Value.pointer (some ⟨pe, 0, none⟩)] ++ ((Array.replicate 7 undef).setIfInBounds 1 (Value.iface 24 (Value.int .i64 n))).setIfInBounds 0 (Value.iface 24 (Value.int .i64 n)) : Array Value) =
    #[.pointer (some ⟨pm, 0, none⟩), .pointer (some ⟨pe, 0, none⟩), .iface 24 (.int .i64 n), .iface 24 (.int .i64 n), undef, undef, undef, undef, undef] := rfl
  rw [ht]
  clear ht
  refine wpS_of_wp ?_
  go_wp2_with fail
  have hQ : ∀ (d : Option Tmp) (v : Value) (c : List PanicEntry) (a : Act) (w' : World), bodyPostS Tryz.prog Tryz.f34 c₀ cs
      (fun e u' w' => e = .returned (.tuple #[]) ∧ u' = .panicking [{ v := .iface 24 (.int .i64 n), recovered := true }] ∧ Row w' pm 40 (mc zeroM sv0) ∧ Row w' pe 24 [.int .i64 n] ∧ Two pm pe w w')
      (.panic c) (a.put d v) ({ fn := c₀.fn, tmps := c₀.tmps, todo := c₀.todo, defers := c₀.defers, mode := .panicking [{ v := .iface 24 (.int .i64 n), recovered := true }], kind := c₀.kind, roundOf := c₀.roundOf } :: cs) w' → False := by
    rintro d v c a w' ⟨_, u', _, h3, _⟩
    cases h3
  refine wp_region_any (by kernel_rfl) ?_
  refine wpAny_take (i := 0) (v := .agg (mc zeroM sv0).toArray) rfl (by kernel_rfl) (by kernel_rfl) (by kernel_rfl) (fun c a w h => (hQ _ _ _ _ _ h).elim) (.inl ⟨rfl, fun w => ?_⟩) ?_
  · simp [execOp, build_msg, Result.andThen]
  refine wpAny_take (i := 1) (v := .iface 24 (.int .i64 n)) rfl (by kernel_rfl) (by kernel_rfl) (by kernel_rfl) (fun c a w h => (hQ _ _ _ _ _ h).elim) (.inl ⟨rfl, fun w => rfl⟩) ?_
  refine wpAny_take (i := 2) (v := .int .i64 n) rfl (by kernel_rfl) (by kernel_rfl) (by kernel_rfl) (fun c a w h => (hQ _ _ _ _ _ h).elim) (.inl ⟨rfl, fun w => ?_⟩) ?_
  · simp [execOp, Act.eval, Act.put, assert_run, Result.andThen]
  refine wpAny_all (rs := [3]) (by kernel_rfl) (by simp) ?_
  intro i hi
  obtain rfl : i = 3 := by simpa using hi
  refine wpOp_store rfl rfl _ _ _ rfl pm (mc zeroM sv0) rfl rfl _ _ (show Row w.drew pm 40 (mc m s) from hm) rfl (by kernel_rfl) (SOk.zero Any w 0).one ?_
  intro w1 hr1 hg1
  have he1 : Row w1 pe 24 [ve] := he.drew.grown hg1 (fun e => hne (by injection e))
  refine wpAny_all (rs := [4]) (by kernel_rfl) (by simp) ?_
  intro i hi
  obtain rfl : i = 4 := by simpa using hi
  refine wpOp_set rfl rfl _ _ _ rfl pe 0 (.int .i64 n) rfl rfl _ _ he1 (show 0 < 1 by decide) (by kernel_rfl) rfl ?_
  intro w2 hr2 hg2
  refine wpAny_done (by kernel_rfl) ?_ _
  exact ⟨rfl, _, rfl, _, results_none rfl _ _ _, rfl, rfl, hr1.grown hg2 (fun e => hne (by injection e with e; exact e.symm)), hr2, Two.of (grown_drew hg1) hg2⟩
/-- Where nothing was given up it does nothing. -/
theorem decIdle (pm pe : Nat) (w : World) :
    CallsD Tryz.prog 34 #[.pointer (some ⟨pm, 0, none⟩), .pointer (some ⟨pe, 0, none⟩)] .returning w fun e u' w' => e = .returned (.tuple #[]) ∧ u' = .returning ∧ w' = w := by
  refine callsD_of_wpS Tryz.func34 rfl fun c₀ cs hu => ?_
  apply wpS_seq
  apply wpS_region
  simp [wpOpsS, go_sem, recoverD, hu, Tryz.ntmps34, Exit.thenS]
  have ht : (#[Value.pointer (some ⟨pm, 0, none⟩), Value.pointer (some ⟨pe, 0, none⟩)] ++ ((Array.replicate 7 undef).setIfInBounds 1 Value.nilIface).setIfInBounds 0 Value.nilIface : Array Value) =
    #[.pointer (some ⟨pm, 0, none⟩), .pointer (some ⟨pe, 0, none⟩), .nilIface, .nilIface, undef, undef, undef, undef, undef] := rfl
  rw [ht]
  clear ht
  refine wpS_of_wp ?_
  go_wp2_with fail
  cases c₀
  simp_all [bodyPostS, results, Tryz.results34]
end
section
open Go.RowKit Oct
end
section
open Go.ChangeShapes Go.WideShapes Go.ChangeAt Go.RowKit Sha
theorem gTab : Tryz.prog.globalNamed "catenary/sha.constants" = some 1 := by kernel_rfl
theorem gTabType : (Tryz.prog.globals[1]?).map (·.type) = some 201 := by kernel_rfl
theorem cells45 : Tryz.prog.cellsOf 201 = 64 := by kernel_rfl
theorem cells34 : Tryz.prog.cellsOf 183 = 1 := by kernel_rfl
def kints : List Int := [1116352408, 1899447441, 3049323471, 3921009573, 961987163, 1508970993, 2453635748, 2870763221, 3624381080, 310598401, 607225278, 1426881987, 1925078388, 2162078206, 2614888103, 3248222580, 3835390401, 4022224774, 264347078, 604807628, 770255983, 1249150122, 1555081692, 1996064986, 2554220882, 2821834349, 2952996808, 3210313671, 3336571891, 3584528711, 113926993, 338241895, 666307205, 773529912, 1294757372, 1396182291, 1695183700, 1986661051, 2177026350, 2456956037, 2730485921, 2820302411, 3259730800, 3345764771, 3516065817, 3600352804, 4094571909, 275423344, 430227734, 506948616, 659060556, 883997877, 958139571, 1322822218, 1537002063, 1747873779, 1955562222, 2024104815, 2227730452, 2361852424, 2428436474, 2756734187, 3204031479, 3329325298]
theorem kints_at : ∀ t, t < 64 → kints.getD t 0 = wi (kk.getD t 0) := by decide +kernel
theorem tab_of {W : World} (h : laidMetH Tryz.prog [("catenary/sha.constants", Rows.laid_catenary_sha_constants)] W) : Tab W := by
  have t : Lib.TabIs Tryz.prog W "catenary/sha.constants" .u32 kints := Lib.tabIs_of_head (rest := []) gTab gTabType Tryz.underlying201 Tryz.underlying183 cells34 cells45 h
  intro j hj
  rw [t.cell gTab j hj, kints_at j hj]
/-- A world for the witness: the settled one, the table (block 0) holding what its initialiser lays. -/
noncomputable def laidWorld (os : Os) : World :=
  { World.holding Tryz.prog os ⟨#[], #[], []⟩ with heap := (World.holding Tryz.prog os ⟨#[], #[], []⟩).heap.modify 1 fun
      | .cells _ t frozen => .cells (kints.map (Value.int .u32)).toArray t frozen
      | o => o }
end
end Go.Proofs.YtgjepofinpmcpaaGreatDoor
