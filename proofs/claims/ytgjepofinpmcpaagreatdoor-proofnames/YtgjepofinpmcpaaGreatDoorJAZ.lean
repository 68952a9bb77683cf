/- The walks over package msg: what Decode's deferred call does. -/
import Derived.Test.YtgjepofinpmcpaaGreatDoorJAG
import Derived.Test.YtgjepofinpmcpaaGreatDoorJAH
import Derived.Test.YtgjepofinpmcpaaGreatDoorJAV
import Derived.Test.YtgjepofinpmcpaaGreatDoorJAJ
section
set_option linter.unusedVariables false
namespace Go.Proofs.YtgjepofinpmcpaaGreatDoor
open Go.RowKit Oct

/-- The 8 bytes of a number, the least one first. -/
def le8 (u : Int) : List Int := [u % 256, u / 256 % 256, u / 65536 % 256, u / 16777216 % 256, u / 4294967296 % 256, u / 1099511627776 % 256, u / 281474976710656 % 256, u / 72057594037927936 % 256]
def u64 (n : Int) : Int := n % 18446744073709551616
theorem le8_len (u : Int) : (le8 u).length = 8 := rfl
theorem le8_byt (u : Int) : Byt (le8 u) := by
  intro x hx
  simp only [le8, List.mem_cons, List.not_mem_nil, or_false] at hx
  rcases hx with rfl | rfl | rfl | rfl | rfl | rfl | rfl | rfl <;> omega
theorem le8_inj {a b : Int} (a0 : 0 ≤ a) (a1 : a < 18446744073709551616) (b0 : 0 ≤ b) (b1 : b < 18446744073709551616) (h : le8 a = le8 b) : a = b := by
  simp only [le8, List.cons.injEq, and_true] at h
  omega
theorem u64_inj {a b : Int} (a0 : -9223372036854775808 ≤ a) (a1 : a ≤ 9223372036854775807) (b0 : -9223372036854775808 ≤ b) (b1 : b ≤ 9223372036854775807) (h : u64 a = u64 b) : a = b := by
  unfold u64 at h
  omega
theorem le8_at (u : Int) (k : Nat) (hk : k < 8) (m : Nat) (hm : m = 8 * k) : u / 2 ^ m % 256 = (le8 u).getD k 0 := by
  subst hm
  match k, hk with
  | 0, _ => simp [le8]
  | 1, _ => rfl
  | 2, _ => rfl
  | 3, _ => rfl
  | 4, _ => rfl
  | 5, _ => rfl
  | 6, _ => rfl
  | 7, _ => rfl
theorem le8_take (u : Int) (L : List Int) (k : Nat) (hk : k < 8) : L ++ (le8 u).take (k + 1) = (L ++ (le8 u).take k) ++ [(le8 u).getD k 0] := by
  have hb : k < (le8 u).length := by rw [le8_len]; exact hk
  rw [List.append_assoc, List.take_add_one, List.getElem?_eq_getElem hb]
  simp [List.getD, List.getElem?_eq_getElem hb]
/-- The body. -/
def body (x : PReq) : List Int := le8 (u64 x.1) ++ le8 (u64 x.2.1) ++ packL [x.2.2.1, x.2.2.2]
theorem body_inj {x y : PReq} (hx : tot [x.2.2.1, x.2.2.2] ≤ 2147483647) (hy : tot [y.2.2.1, y.2.2.2] ≤ 2147483647) (x0 : -9223372036854775808 ≤ x.1 ∧ x.1 ≤ 9223372036854775807) (x1 : -9223372036854775808 ≤ x.2.1 ∧ x.2.1 ≤ 9223372036854775807)
    (y0 : -9223372036854775808 ≤ y.1 ∧ y.1 ≤ 9223372036854775807) (y1 : -9223372036854775808 ≤ y.2.1 ∧ y.2.1 ≤ 9223372036854775807) : body x = body y ↔ x = y := by
  refine ⟨fun h => ?_, fun h => by rw [h]⟩
  unfold body at h
  obtain ⟨h1, h2⟩ := List.append_inj h (by simp [le8_len])
  obtain ⟨h3, h4⟩ := List.append_inj h1 (by simp [le8_len])
  have h5 := packL_inj hx hy h2
  have ub : ∀ n, 0 ≤ u64 n ∧ u64 n < 18446744073709551616 := fun n => by unfold u64; omega
  have e1 := u64_inj x0.1 x0.2 y0.1 y0.2 (le8_inj (ub _).1 (ub _).2 (ub _).1 (ub _).2 h3)
  have e2 := u64_inj x1.1 x1.2 y1.1 y1.2 (le8_inj (ub _).1 (ub _).2 (ub _).1 (ub _).2 h4)
  obtain ⟨a, b, c, d⟩ := x
  obtain ⟨a', b', c', d'⟩ := y
  simp only [List.cons.injEq, and_true] at h5
  simp only at e1 e2
  rw [e1, e2, h5.1, h5.2]

/-- msg.appendWord. -/
theorem appendWord_any (w : World) (v : Value) (L : List Int) (n : Int) (hown : Own w 5 v (bc L)) (hl : L.length ≤ 140737488355300) :
    Calls Tryz.prog 42 #[v, .int .i64 n] w fun e w' => ∃ v', e = .returned v' ∧ App w 5 v w' v' (bc (L ++ le8 (u64 n))) := by
  go_enter Tryz.func42, Tryz.ntmps42
  go_wp2_with fail
  go_loopw [0, 6] (fun o i wr => ∃ k : Nat, k ≤ 8 ∧ i = .int .i64 k ∧ App w 5 v wr o (bc (L ++ (le8 (u64 n)).take k))) (fun _ i _ => (8 - intOf i).toNat)
  case atStart => exact ⟨0, by omega, rfl, by rw [List.take_zero, List.append_nil]; exact app_start hown⟩
  case round =>
    obtain ⟨k, hk, rfl, happ⟩ := hrel
    by_cases hk8 : k < 8
    · obtain ⟨m, hm⟩ : ∃ m : Nat, (8 : Int) * (k : Int) = m := ⟨8 * k, by omega⟩
      have HM := (show Hid (u64 n / 2 ^ m % 256 = (le8 (u64 n)).getD k 0) from le8_at (u64 n) k hk8 m (by omega))
      have HX := (show Hid (L ++ (le8 (u64 n)).take (k + 1) = (L ++ (le8 (u64 n)).take k) ++ [(le8 (u64 n)).getD k 0]) from le8_take _ _ _ hk8)
      have HT := (show Hid ((L ++ (le8 (u64 n)).take k).length ≤ 140737488355308) by
        show (L ++ (le8 (u64 n)).take k).length ≤ _
        rw [List.length_append, List.length_take, le8_len]
        omega)
      have hm0 : (0 : Int) ≤ (m : Int) := by omega
      have hgo := happ.own
      go_wp2_with (at_builtin; refine app_bytes rfl _ _ rfl _ (L ++ (le8 (u64 n)).take k) rfl (World.ownsRow.alloc hgo _) _ [u64 n / 2 ^ m % 256] rfl (rdv_one wr _ _) (by have := HT.out; simp only [List.length_cons, List.length_nil]; omega) ?_; intro o4 w4 happ4)
      have hp4 := happ.trans (happ4.pre (below_alloc wr _))
      rw [HM.out, ← HX.out] at hp4
      clear happ happ4 hgo
      go_roundw
      case rel => exact ⟨k + 1, by omega, by go_num, hp4⟩
      case measure => simp [intOf]; omega
    · rw [List.take_of_length_le (by rw [le8_len]; omega)] at happ
      go_wp2_with fail
      go_ret
      exact ⟨_, rfl, happ⟩
end Go.Proofs.YtgjepofinpmcpaaGreatDoor
end

section
set_option linter.unusedVariables false
namespace Go.Proofs.YtgjepofinpmcpaaGreatDoor
open Go.RowKit Oct

section
variable {P : Program}
/-- A whole row is stored, at a step of a region that draws its order. -/
theorem wpOp_store {ops : Array Oper} {Q : Exit → Act → World → Prop} {i : Nat} {K : Act → World → Prop} {a : Act} {w : World} {o : Oper} (hi : ops[i]? = some o) (hgd : o.guard = none) (ty : TypeId) (x y : Operand) (ho : o.op = .store ty x y)
    (b : Nat) (ys : List Value) (hx : a.eval x = .pointer (some ⟨b, 0, none⟩)) (hy : a.eval y = .agg ys.toArray) (t : TypeId) (xs : List Value) (h : Row w b t xs) (hl : xs.length = ys.length)
    (hs : (P.info? ty).map (·.size) = some ys.length) (h1 : ∀ v ∈ ys, v.oneCell' = true) (k : ∀ w', Row w' b t ys → w.grownBy w' (some b) → K (a.put o.dst undef) w') : wpOp P ops Q i K a w := by
  have hw : Region.wanted o (yielded ops a.tmps) = true := by simp [Region.wanted, hgd]
  unfold wpOp
  rw [hi]
  simp only [hw, if_true]
  left
  unfold Oper.wp execOp
  simp only [ho, hx, hy, Sem.run_bind, Sem.run_pure, Result.andThen_ok, h.store ty ys hl hs h1]
  exact k _ (h.setRow ys) (grown_setRow _ _ _)
/-- One cell is stored there. -/
theorem wpOp_set {ops : Array Oper} {Q : Exit → Act → World → Prop} {i : Nat} {K : Act → World → Prop} {a : Act} {w : World} {o : Oper} (hi : ops[i]? = some o) (hgd : o.guard = none) (ty : TypeId) (x y : Operand) (ho : o.op = .store ty x y)
    (b j : Nat) (v : Value) (hx : a.eval x = .pointer (some ⟨b, j, none⟩)) (hy : a.eval y = v) (t : TypeId) (xs : List Value) (h : Row w b t xs) (hj : j < xs.length)
    (hs : (P.info? ty).map (·.size) = some 1) (h1 : v.oneCell' = true) (k : ∀ w', Row w' b t (xs.set j v) → w.grownBy w' (some b) → K (a.put o.dst undef) w') : wpOp P ops Q i K a w := by
  have hw : Region.wanted o (yielded ops a.tmps) = true := by simp [Region.wanted, hgd]
  unfold wpOp
  rw [hi]
  simp only [hw, if_true]
  left
  unfold Oper.wp execOp
  simp only [ho, hx, hy, Instr.storeAt, Instr.sureAddr, Sem.run_bind, Sem.run_pure, Result.andThen_ok, run_set h ty hs j hj v h1]
  exact k _ (h.setRow _) (grown_setRow _ _ _)
end
theorem build_msg (w : World) : (Instr.build 40 #[]).run Tryz.prog w = .ok (.agg (mc zeroM sv0).toArray) w := by kernel_rfl

set_option maxHeartbeats 1000000 in
theorem decCatch (pm pe : Nat) (n : Int) (m : PMsg) (s : SV) (ve : Value) (w : World) (hm : Row w pm 40 (mc m s)) (he : Row w pe 24 [ve]) (hne : pm ≠ pe) :
    CallsD Tryz.prog 34 #[.pointer (some ⟨pm, 0, none⟩), .pointer (some ⟨pe, 0, none⟩)] (.panicking [{ v := .iface 24 (.int .i64 n), recovered := false }]) w fun e u' w' =>
      e = .returned (.tuple #[]) ∧ u' = .panicking [{ v := .iface 24 (.int .i64 n), recovered := true }] ∧ Row w' pm 40 (mc zeroM sv0) ∧ Row w' pe 24 [.int .i64 n] ∧ Two pm pe w w' := by
  refine callsD_of_wpS Tryz.func34 rfl fun c₀ cs hu => ?_
  apply wpS_seq
  apply wpS_region
  simp [wpOpsS, go_sem, recoverD, hu, Tryz.ntmps34, Exit.thenS]
  have ht : (#[Value.pointer (some ⟨pm, 0, none⟩), Value.pointer (some ⟨pe, 0, none⟩)] ++ ((Array.replicate 7 undef).setIfInBounds 1 (Value.iface 24 (Value.int .i64 n))).setIfInBounds 0 (Value.iface 24 (Value.int .i64 n)) : Array Value) =
    #[.pointer (some ⟨pm, 0, none⟩), .pointer (some ⟨pe, 0, none⟩), .iface 24 (.int .i64 n), .iface 24 (.int .i64 n), undef, undef, undef, undef, undef] := rfl
  rw [ht]
  clear ht
  refine wpS_of_wp ?_
  go_wp2_with fail
  have hQ : ∀ (d : Option Tmp) (v : Value) (c : List PanicEntry) (a : Act) (w' : World), bodyPostS Tryz.prog Tryz.f34 c₀ cs
      (fun e u' w' => e = .returned (.tuple #[]) ∧ u' = .panicking [{ v := .iface 24 (.int .i64 n), recovered := true }] ∧ Row w' pm 40 (mc zeroM sv0) ∧ Row w' pe 24 [.int .i64 n] ∧ Two pm pe w w')
      (.panic c) (a.put d v) ({ fn := c₀.fn, tmps := c₀.tmps, todo := c₀.todo, defers := c₀.defers, mode := .panicking [{ v := .iface 24 (.int .i64 n), recovered := true }], kind := c₀.kind, roundOf := c₀.roundOf } :: cs) w' → False := by
    rintro d v c a w' ⟨_, u', _, h3, _⟩
    cases h3
  refine wp_region_any (by kernel_rfl) ?_
  refine wpAny_take (i := 0) (v := .agg (mc zeroM sv0).toArray) rfl (by kernel_rfl) (by kernel_rfl) (by kernel_rfl) (fun c a w h => (hQ _ _ _ _ _ h).elim) (.inl ⟨rfl, fun w => ?_⟩) ?_
  · simp [execOp, build_msg, Result.andThen]
  refine wpAny_take (i := 1) (v := .iface 24 (.int .i64 n)) rfl (by kernel_rfl) (by kernel_rfl) (by kernel_rfl) (fun c a w h => (hQ _ _ _ _ _ h).elim) (.inl ⟨rfl, fun w => rfl⟩) ?_
  refine wpAny_take (i := 2) (v := .int .i64 n) rfl (by kernel_rfl) (by kernel_rfl) (by kernel_rfl) (fun c a w h => (hQ _ _ _ _ _ h).elim) (.inl ⟨rfl, fun w => ?_⟩) ?_
  · simp [execOp, Act.eval, Act.put, assert_run, Result.andThen]
  refine wpAny_all (rs := [3]) (by kernel_rfl) (by simp) ?_
  intro i hi
  obtain rfl : i = 3 := by simpa using hi
  refine wpOp_store rfl rfl _ _ _ rfl pm (mc zeroM sv0) rfl rfl _ _ (show Row w.drew pm 40 (mc m s) from hm) rfl (by kernel_rfl) (SOk.zero Any w 0).one ?_
  intro w1 hr1 hg1
  have he1 : Row w1 pe 24 [ve] := he.drew.grown hg1 (fun e => hne (by injection e))
  refine wpAny_all (rs := [4]) (by kernel_rfl) (by simp) ?_
  intro i hi
  obtain rfl : i = 4 := by simpa using hi
  refine wpOp_set rfl rfl _ _ _ rfl pe 0 (.int .i64 n) rfl rfl _ _ he1 (show 0 < 1 by decide) (by kernel_rfl) rfl ?_
  intro w2 hr2 hg2
  refine wpAny_done (by kernel_rfl) ?_ _
  exact ⟨rfl, _, rfl, _, results_none rfl _ _ _, rfl, rfl, hr1.grown hg2 (fun e => hne (by injection e with e; exact e.symm)), hr2, Two.of (grown_drew hg1) hg2⟩
/-- Where nothing was given up it does nothing. -/
theorem decIdle (pm pe : Nat) (w : World) :
    CallsD Tryz.prog 34 #[.pointer (some ⟨pm, 0, none⟩), .pointer (some ⟨pe, 0, none⟩)] .returning w fun e u' w' => e = .returned (.tuple #[]) ∧ u' = .returning ∧ w' = w := by
  refine callsD_of_wpS Tryz.func34 rfl fun c₀ cs hu => ?_
  apply wpS_seq
  apply wpS_region
  simp [wpOpsS, go_sem, recoverD, hu, Tryz.ntmps34, Exit.thenS]
  have ht : (#[Value.pointer (some ⟨pm, 0, none⟩), Value.pointer (some ⟨pe, 0, none⟩)] ++ ((Array.replicate 7 undef).setIfInBounds 1 Value.nilIface).setIfInBounds 0 Value.nilIface : Array Value) =
    #[.pointer (some ⟨pm, 0, none⟩), .pointer (some ⟨pe, 0, none⟩), .nilIface, .nilIface, undef, undef, undef, undef, undef] := rfl
  rw [ht]
  clear ht
  refine wpS_of_wp ?_
  go_wp2_with fail
  cases c₀
  simp_all [bodyPostS, results, Tryz.results34]
end Go.Proofs.YtgjepofinpmcpaaGreatDoor
end
