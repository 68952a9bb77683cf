/- The walk over session.do. -/
import Derived.Test.YteafgdidjdfiiaaGreatJ10
import Derived.Deep.RegionLaw
import Derived.Deep.QuietTactic
import Derived.BigQuiet
import Derived.Test.YteafgdidjdfiiaaGreatJ08
section
set_option linter.unusedVariables false
set_option linter.unusedSimpArgs false
namespace Go.Proofs.YteafgdidjdfiiaaGreat
open Go.RowKit Oct Kvl

/-- The state in block b, and what may have turned. -/
def Rk1 (b B : Nat) (w : World) (vs : Value) (a : PApp) (w' : World) : Prop := ∃ row, OApp B w' row a ∧ Row w' b 27 row ∧ Tw b vs w w'

set_option maxRecDepth 10000 in
set_option maxHeartbeats 4000000 in
/-- session.keep. -/
theorem keep_any (w : World) (b B : Nat) (ve vl vs : Value) (a : PApp) (h1 : LB OEnt 73 2 B w ve a.2.1) (h2 : LB OLea 75 3 B w vl a.2.2.1) (h3 : LB OSes 77 4 B w vs a.2.2.2) (hrow : Row w b 27 [.int .i64 a.1, ve, vl, vs]) (hB : B ≤ w.heap.size)
    (m : List Int) (hup : up m a.2.2.2) (hlen : a.2.2.2.length ≤ 64) (r : List Value) (c d k : Int) (l : List Int) (hx : RSes Any w r ([c], d :: k :: l)) (hz : szT l) :
    Calls Tryz.prog 52 #[.pointer (some ⟨b, 0, none⟩), .agg r.toArray] w fun e w' => e = .returned (.tuple #[]) ∧ Rk1 b B w vs (a.1, a.2.1, a.2.2.1, putR [c] (d :: k :: l) a.2.2.2) w' := by
  generalize hys : a.2.2.2 = ys at *
  have hxall := hx
  obtain ⟨c', d', k', av, l', rfl, ha, hxe⟩ := hx
  injection hxe with e1 e2
  injection e1 with e1 _
  injection e2 with e2 e3
  injection e3 with e3 e4
  subst e1 e2 e3 e4
  obtain ⟨w0, hw0⟩ : ∃ w0, w0 = w.alloc (.cells #[.int .i64 c, .int .i64 d, .int .i64 k, av] 77) := ⟨_, rfl⟩
  have B0 : Below w.heap.size w w0 := by rw [hw0]; exact below_alloc _ _
  have s0 : Row w0 w.heap.size 77 [.int .i64 c, .int .i64 d, .int .i64 k, av] := by rw [hw0]; exact Row.new w _ _
  have hC := cloneSession_any w0 _ _ (mov_ses _ _ _ _ _ _ hxall B0.size (Mv.below B0)) hz
  have hfr := h3.fr
  have hlt := h3.lt
  go_enter Tryz.func52, Tryz.ntmps52
  go_upto_region 1 with fail
  rw [← hw0]
  clear hw0
  go_upto_region 2 with (first
    | (refine wl_load rfl _ _ rfl w.heap.size rfl _ _ s0 _ Tryz.underlying77 rfl (by kernel_rfl) ?_)
    | (go_at_call 42; refine hC.mono ?_; rintro e w1 ⟨r1, rfl, o1, hb1⟩; obtain ⟨c1, d1, k1, a1, l1, rfl, t1, hx1⟩ := o1; have s1 := s0.below hb1)
    | (refine wl_store rfl _ _ _ rfl w.heap.size [.int .i64 c1, .int .i64 d1, .int .i64 k1, a1] rfl rfl _ _ s1 rfl (by kernel_rfl) (onN4 t1.one) ?_; intro w2 hs2 hg2))
  injection hx1 with e1 e2
  injection e1 with e1 _
  injection e2 with e2 e3
  injection e3 with e3 e4
  subst e1 e2 e3 e4
  obtain ⟨ax, cx, rfl, hcx⟩ := t1.rt.form
  have hs2 : Row w2 w.heap.size 77 [.int .i64 c, .int .i64 d, .int .i64 k, .slice ax l.length cx] := hs2.out
  have hb01 := below_and B0 (Nat.le_refl _) hb1
  have T2 : Below w.heap.size w w2 := hb01.trans (grown_below hg2 hb01.size (fun k hk => by cases hk; exact Nat.le_refl _))
  have t2 : OT (From w0.heap.size) w2 (.slice ax l.length cx) l := t1.mv (Mv.from hg2 (by have := s0.lt; omega) (Nat.le_refl _))
  have hs02 := Nat.le_trans hb1.size hg2.size
  have hwl := s0.lt
  have q1 := h1.below mov_oent T2
  have q2 := h2.below mov_olea T2
  have q3 := h3.below mov_oses T2
  have r2 := hrow.below T2
  have hbw := hrow.lt
  have hbl : b ≠ w.heap.size := Nat.ne_of_lt hbw
  have HS := (show Hid (∀ u, Below w2.heap.size w2 u → Calls Tryz.prog 81 #[vs, .int .i64 c, .func (.func 82) #[] #[]] u fun e w' => e = .returned (.tuple #[.int .i64 (pos [c] ys), .bool (isIn [c] ys)]) ∧ Below u.heap.size u w' ∧ Below w2.heap.size w2 w') from fun u hu => (searchN_any u vs ys ((Rn.rl q3).mv mov_ses hu.size (Mv.below hu)) c m hup hlen).mono fun e w' ⟨e1, e2⟩ => ⟨e1, e2, below_and hu (Nat.le_refl _) e2⟩)
  have hpl : pos [c] ys ≤ ys.length := pos_le
  have hgo : putR [c] (d :: k :: l) ys = if isIn [c] ys then ys.set (pos [c] ys) ([c], d :: k :: l) else insL (pos [c] ys) ([c], d :: k :: l) ys := by
    unfold isIn
    cases hg : getR [c] ys with
    | none => simp only [Option.isSome_none, Bool.false_eq_true, if_false]; exact put_new hg
    | some u => simp only [Option.isSome_some, if_true]; exact put_old hg
  have hplt : isIn [c] ys = true → pos [c] ys < ys.length := by
    unfold isIn
    cases hg : getR [c] ys with
    | none => intro h; simp at h
    | some u => intro _; exact (List.getElem?_eq_some_iff.1 (get_some hg)).1
  have HGO := (show Hid (putR [c] (d :: k :: l) ys = if isIn [c] ys then ys.set (pos [c] ys) ([c], d :: k :: l) else insL (pos [c] ys) ([c], d :: k :: l) ys) from hgo)
  clear hgo
  generalize pos [c] ys = p at *
  have SK := (show Hid (∀ u, Below w2.heap.size w2 u → u.cell? ⟨b, 3, none⟩ = some vs ∧ u.cell? ⟨w.heap.size, 0, none⟩ = some (.int .i64 c)) from fun u hu => ⟨(r2.below hu).cell (j := 3) rfl, (hs2.below hu).cell (j := 0) rfl⟩)
  obtain ⟨C3, S0⟩ := SK.out w2 (Below.refl _ _)
  have hdw : Below w2.heap.size w2 w2.drew := ⟨rfl, rfl, rfl, Nat.le_refl _, fun _ _ => rfl⟩
  clear hC hxall h1 h2 h3 hrow s0 s1 hb1 hg2 B0 hb01 t1 hup ha
  cases hin : isIn [c] ys with
  | true =>
    have hpp := hplt hin
    rw [hin] at HS HGO
    clear hplt hin
    go_region_held3 (fun u => u.cell? ⟨b, 3, none⟩ = some vs ∧ u.cell? ⟨w.heap.size, 0, none⟩ = some (.int .i64 c))
      (first | exact SK.out _ (by assumption) | go_keep)
      (first | (go_at_call 81; refine (HS.out _ (by first | assumption | exact Below.refl _ _)).mono ?_; rintro e w3 ⟨rfl, hb3, hB3⟩))
    have hsB3 := hs2.below hB3
    have r3 := r2.below hB3
    have t3 := t2.mv (Mv.belowG hB3)
    obtain ⟨g, cap, cur, rows, rfl, k1, k2, k3, k4, k5, k6, k7, k8, k9⟩ := (q3.below mov_oses hB3).opnN (by omega)
    have hgl : g < w.heap.size := hlt g rfl
    have hgw : g ≠ w.heap.size := Nat.ne_of_lt hgl
    have hgb : b ≠ g := fun e => by subst e; exact (Row.apart r3 k1 (by decide)) rfl
    obtain ⟨rp, hrp⟩ : ∃ rp, rows[p]? = some rp := ⟨_, List.getElem?_eq_getElem (by omega)⟩
    have hrl := k7 rp (List.mem_of_getElem? hrp)
    have hcell : ∀ j, j < 4 → ∃ z, w3.cell? ⟨g, p * 4 + j, none⟩ = some z := fun j hj => by
      have hz := List.getElem?_eq_getElem (l := rp) (i := j) (by omega)
      have := flat_at (j := j) k7 hrp hz
      rw [← k8, List.getElem?_take, if_pos (by omega)] at this
      exact ⟨_, k1.cell this⟩
    obtain ⟨z0, e0⟩ := hcell 0 (by decide)
    obtain ⟨z1, e1⟩ := hcell 1 (by decide)
    obtain ⟨z2, e2⟩ := hcell 2 (by decide)
    obtain ⟨z3, e3⟩ := hcell 3 (by decide)
    have e0 : w3.cell? ⟨g, p * 4, none⟩ = some z0 := e0
    have f0 : w3.frozen? ⟨g, p * 4, none⟩ = false := k1.frozen (p * 4)
    have f1 := k1.frozen (p * 4 + 1)
    have f2 := k1.frozen (p * 4 + 2)
    have f3 := k1.frozen (p * 4 + 3)
    have i0 := hsB3.cell (j := 0) rfl
    have i1 := hsB3.cell (j := 1) rfl
    have i2 := hsB3.cell (j := 2) rfl
    have i3 := hsB3.cell (j := 3) rfl
    have C3 := r3.cell (j := 3) rfl
    have hpi : (p : Int) < (ys.length : Int) := by omega
    have hy64 : (ys.length : Int) ≤ 64 := by omega
    go_upto_region 4 with fail
    go_region
    have T3 := below_and T2 (Nat.le_refl _) hB3
    have hr4 := ((((k1.set (p * 4) (.int .i64 c)).set (p * 4 + 1) (.int .i64 d)).set (p * 4 + 2) (.int .i64 k)).set (p * 4 + 3) (.slice ax l.length cx)).drew
    rw [spl4 (by omega)] at hr4
    have hg4 := grown_to_drew (grown_trans (grown_trans (grown_trans (grown_set w3 g (p * 4) (.int .i64 c)) (grown_set _ g (p * 4 + 1) (.int .i64 d)) (.inl rfl)) (grown_set _ g (p * 4 + 2) (.int .i64 k)) (.inl rfl)) (grown_set _ g (p * 4 + 3) (.slice ax l.length cx)) (.inl rfl))
    generalize ((((w3.setCell ⟨g, p * 4, none⟩ (.int .i64 c)).setCell ⟨g, p * 4 + 1, none⟩ (.int .i64 d)).setCell ⟨g, p * 4 + 2, none⟩ (.int .i64 k)).setCell ⟨g, p * 4 + 3, none⟩ (.slice ax l.length cx)).drew = w4 at *
    go_wp2_with fail
    go_end0
    have hmv : Mv (From w0.heap.size) (fun b => B ≤ b ∧ b ≠ g) w3 w3 := fun j hj _ => ⟨rfl, by unfold From at hj; omega, by unfold From at hj; omega⟩
    have hL := LB.putN k1 k2 k3 k4 k5 k6 k7 k8 k9 hpp ⟨c, d, k, _, l, rfl, t3.mv hmv, rfl⟩ hg4 hr4
    refine ⟨rfl, [.int .i64 a.1, ve, vl, .slice (some ⟨g, 0, none⟩) ys.length cap], ⟨_, _, _, rfl, (q1.below mov_oent hB3).grownR k1 (by decide) (by decide) hg4, (q2.below mov_olea hB3).grownL k1 (by decide) (by decide) hg4, ?_⟩, r3.grown hg4 (fun e => by injection e with e; exact hgb e.symm), (Tw.of_below T3).trans (Tw.of_v hg4)⟩
    rw [HGO.out]
    exact hL
  | false =>
    rw [hin] at HS HGO
    clear hplt hin
    go_region_held3 (fun u => u.cell? ⟨b, 3, none⟩ = some vs ∧ u.cell? ⟨w.heap.size, 0, none⟩ = some (.int .i64 c))
      (first | exact SK.out _ (by assumption) | go_keep)
      (first | (go_at_call 81; refine (HS.out _ (by first | assumption | exact Below.refl _ _)).mono ?_; rintro e w3 ⟨rfl, hb3, hB3⟩))
    have hsB3 := hs2.below hB3
    have r3 := r2.below hB3
    have t3 := t2.mv (Mv.belowG hB3)
    have q3' := q3.below mov_oses hB3
    have T3 := below_and T2 (Nat.le_refl _) hB3
    have HI := (show Hid (∀ (u : World) (vb : Nat), Below w3.heap.size w3 u → w3.heap.size ≤ vb → Row u vb 77 [.int .i64 c, .int .i64 d, .int .i64 k, .slice ax l.length cx] → Calls Tryz.prog 84 #[vs, .int .i64 (p : Int), .slice (some ⟨vb, 0, none⟩) 1 1] u fun e w' => ∃ ai ni ci, e = .returned (.slice ai ni ci) ∧ LB OSes 77 4 B w' (.slice ai ni ci) (insL p ([c], d :: k :: l) ys) ∧ Tw b vs w3 w' ∧ Row w' b 27 [.int .i64 a.1, ve, vl, vs]) from fun u vb hu hvb hr => (insertN_any u vs B ys (q3'.below mov_oses hu) (Nat.le_trans hB (Nat.le_trans T3.size hu.size)) hlen p hpl vb _ hr (fun e => by have := hlt vb e; have := T3.size; omega) ([c], d :: k :: l) ⟨c, d, k, _, l, rfl, t3.mv (fun j hj hlt' => ⟨hu.block j hlt', by unfold From at hj; omega, fun e => by have := hlt j e; unfold From at hj; omega⟩), rfl⟩).mono fun e w' ⟨v', e1, e2, e3⟩ => by
      obtain ⟨ai, ci, rfl, _⟩ := (Rn.rl e2).form
      exact ⟨ai, _, ci, e1, e2, (Tw.of_below hu).trans (Tw.of_v e3), (r3.below hu).grown e3 (fun e => q3'.apart r3 (by decide) e)⟩)
    have SK3 := (show Hid (∀ u, Below w3.heap.size w3 u → u.cell? ⟨b, 3, none⟩ = some vs ∧ u.cell? ⟨w.heap.size, 0, none⟩ = some (.int .i64 c) ∧ u.cell? ⟨w.heap.size, 1, none⟩ = some (.int .i64 d) ∧ u.cell? ⟨w.heap.size, 2, none⟩ = some (.int .i64 k) ∧ u.cell? ⟨w.heap.size, 3, none⟩ = some (.slice ax l.length cx)) from fun u hu => ⟨(r3.below hu).cell (j := 3) rfl, (hsB3.below hu).cell (j := 0) rfl, (hsB3.below hu).cell (j := 1) rfl, (hsB3.below hu).cell (j := 2) rfl, (hsB3.below hu).cell (j := 3) rfl⟩)
    obtain ⟨C3, i0, i1, i2, i3⟩ := SK3.out w3 (Below.refl _ _)
    have hba := below_alloc w3 (.cells #[.int .i64 c, .int .i64 d, .int .i64 k, .slice ax l.length cx] 77)
    obtain ⟨D3, j0, j1, j2, j3⟩ := SK3.out _ hba
    have hdw3 : Below w3.heap.size w3 w3.drew := ⟨rfl, rfl, rfl, Nat.le_refl _, fun _ _ => rfl⟩
    have hrn := Row.new w3 77 [.int .i64 c, .int .i64 d, .int .i64 k, .slice ax l.length cx]
    go_upto_region 5 with fail
    go_region_law (go_simp; go_at_call 84; refine (HI.out _ w3.heap.size (by first | exact hba | exact Below.drew hba | exact below_and hdw3 (Nat.le_refl _) (below_alloc _ _)) (Nat.le_refl _) (by first | exact hrn | exact hrn.drew)).mono ?_; rintro e w4 ⟨ai, ni, ci, rfl, hL4, hg4, r4⟩; have c4 := r4.cell (j := 3) rfl; have f4 := r4.frozen 3)
    all_goals (
      have g5 := grown_set w4 b 3 (.slice ai ni ci)
      have r5 : Row (w4.setCell ⟨b, 3, none⟩ (.slice ai ni ci)) b 27 [.int .i64 a.1, ve, vl, .slice ai ni ci] := r4.set 3 (.slice ai ni ci)
      generalize w4.setCell ⟨b, 3, none⟩ (.slice ai ni ci) = w5 at *
      go_wp2_with fail
      go_end0
      refine ⟨rfl, _, ⟨_, _, _, rfl, (hg4.ent q3' r3 (q1.below mov_oent hB3)).grownR r4 (by decide) (by decide) g5, (hg4.lea q3' r3 (q2.below mov_olea hB3)).grownL r4 (by decide) (by decide) g5, ?_⟩, r5, ((Tw.of_below T3).trans hg4).trans (Tw.of_b g5)⟩
      rw [HGO.out]
      exact hL4.grownN r4 (by decide) (by decide) g5)
end Go.Proofs.YteafgdidjdfiiaaGreat
end

section
set_option linter.unusedVariables false
set_option linter.unusedSimpArgs false
namespace Go.Proofs.YteafgdidjdfiiaaGreat
open Go.RowKit Oct Kvl

theorem results_ct {P : Program} {fn : Func} {p t : Tmp} {ty : TypeId} (h : fn.results = #[.cell p ty, .tmp t]) (tmps : Array Value) (w : World) (g : Nat) (tt : TypeId) (cs : Array Value) (fr : Nat × Nat) (d : TypeDesc)
    (hp : tmps.getD p undef = .pointer (some ⟨g, 0, none⟩)) (hg : w.heap[g]? = some (.cells cs tt fr))
    (hu : P.underlying ty = some d) (hd : (match d with | .struct _ | .array _ _ => true | _ => false) = true) (hi : (P.info? ty).map (·.size) = some cs.size) :
    (results fn tmps).run P w = .ok (.tuple #[.agg cs, tmps.getD t undef]) w := by
  have hp' : tmps[p]?.getD undef = .pointer (some ⟨g, 0, none⟩) := by simpa using hp
  simp [results, h, hp', asAddr, run_loadVar_row w g tt ty cs fr d hg hu hd hi]
theorem getI_err (l : List Int) (p : Int) : ∃ b : Bool, (getI l p).2.2 = if b = true then 11 else 0 := by
  unfold getI
  split
  · exact ⟨true, rfl⟩
  · split
    · exact ⟨true, rfl⟩
    · exact ⟨false, rfl⟩
theorem getB_err (l : List Int) (p m : Int) : ∃ b : Bool, (getB l p m).2.2 = if b = true then 11 else 0 := by
  unfold getB
  split
  · exact ⟨true, rfl⟩
  · exact ⟨false, rfl⟩
set_option maxRecDepth 100000 in
theorem neE (b0 b1 b2 b3 b4 : Bool) (u : World) : (binOp .neq 141 (.agg #[.int .i64 (if b0 = true then 11 else 0), .int .i64 (if b1 = true then 11 else 0), .int .i64 (if b2 = true then 11 else 0), .int .i64 (if b3 = true then 11 else 0), .int .i64 (if b4 = true then 11 else 0)]) (.agg #[.int .i64 0, .int .i64 0, .int .i64 0, .int .i64 0, .int .i64 0])).run Tryz.prog u = .ok (.bool (b0 || b1 || b2 || b3 || b4)) u := by
  cases b0 <;> cases b1 <;> cases b2 <;> cases b3 <;> cases b4 <;> kernel_rfl
def opR (l : List Int) : POp := match rdO l with | none => (0, [], [], [], 0) | some o => o
def errR (l : List Int) : Int := match rdO l with | none => 71 | some _ => 0
theorem one5z : ∀ y ∈ [Value.int .i64 0, .slice none 0 0, .slice none 0 0, .slice none 0 0, Value.int .i64 0], y.oneCell' = true := one5 rfl rfl rfl

set_option maxRecDepth 10000 in
set_option maxHeartbeats 8000000 in
/-- kv.Read. -/
theorem read_any (w : World) (bv : Value) (l : List Int) (hb : Rd w bv l) (hl : l.length ≤ 140737488355300) :
    Calls Tryz.prog 78 #[bv] w fun e w' => ∃ r', e = .returned (.tuple #[.agg r'.toArray, .int .i64 (errR l)]) ∧ ROp (From w.heap.size) w' r' (opR l) ∧ Below w.heap.size w w' := by
  have le := Nat.le_refl w.heap.size
  have hk := kvR_eq (m := 16) hb.1 (by decide) (by decide)
  obtain ⟨ao, cap, rfl, hcap⟩ := hb.form
  obtain ⟨w0, hw0⟩ : ∃ w0, w0 = ((w.alloc (.cells #[.int .i64 0, .slice none 0 0, .slice none 0 0, .slice none 0 0, .int .i64 0] 127)).alloc (.cells #[.int .i64 0, .slice none 0 0, .slice none 0 0, .slice none 0 0, .int .i64 0] 127)).alloc (.cells #[.int .i64 0, .int .i64 0, .int .i64 0, .int .i64 0, .int .i64 0] 141) := ⟨_, rfl⟩
  have r0 : Row w0 w.heap.size 127 [.int .i64 0, .slice none 0 0, .slice none 0 0, .slice none 0 0, .int .i64 0] := by rw [hw0]; exact rowA (rowA (Row.new w 127 _) _) _
  have o0 : Row w0 (w.heap.size + 1) 127 [.int .i64 0, .slice none 0 0, .slice none 0 0, .slice none 0 0, .int .i64 0] := by
    rw [hw0]
    have := rowA (Row.new (w.alloc (.cells #[.int .i64 0, .slice none 0 0, .slice none 0 0, .slice none 0 0, .int .i64 0] 127)) 127 [.int .i64 0, .slice none 0 0, .slice none 0 0, .slice none 0 0, .int .i64 0]) (.cells #[.int .i64 0, .int .i64 0, .int .i64 0, .int .i64 0, .int .i64 0] 141)
    simpa using this
  have e0 : Row w0 (w.heap.size + 2) 141 [.int .i64 0, .int .i64 0, .int .i64 0, .int .i64 0, .int .i64 0] := by
    rw [hw0]
    have := Row.new ((w.alloc (.cells #[.int .i64 0, .slice none 0 0, .slice none 0 0, .slice none 0 0, .int .i64 0] 127)).alloc (.cells #[.int .i64 0, .slice none 0 0, .slice none 0 0, .slice none 0 0, .int .i64 0] 127)) 141 [.int .i64 0, .int .i64 0, .int .i64 0, .int .i64 0, .int .i64 0]
    simpa using this
  have B0 : Below w.heap.size w w0 := by rw [hw0]; exact below_and (below_and (below_alloc _ _) le (below_alloc _ _)) le (below_alloc _ _)
  have hs0 : w0.heap.size = w.heap.size + 3 := by rw [hw0]; simp
  have G0 := getInt_any w0 _ l 0 (hb.below B0) (by omega)
  have b0 := getI_err l 0
  have b1 := getB_err l (getI l 0).2.1 16
  have b2 := getB_err l (getB l (getI l 0).2.1 16).2.1 64
  have b3 := getB_err l (getB l (getB l (getI l 0).2.1 16).2.1 64).2.1 64
  have b4 := getI_err l (getB l (getB l (getB l (getI l 0).2.1 16).2.1 64).2.1 64).2.1
  have y1 := getB_byt l (getI l 0).2.1 16 hb.1
  have y2 := getB_byt l (getB l (getI l 0).2.1 16).2.1 64 hb.1
  have y3 := getB_byt l (getB l (getB l (getI l 0).2.1 16).2.1 64).2.1 64 hb.1
  have C1 := (show Hid (∀ u, Below w.heap.size w u → ∀ p m : Int, Calls Tryz.prog 55 #[.slice ao l.length cap, .int .i64 p, .int .i64 m] u fun e w' => ∃ v', e = .returned (.tuple #[v', .int .i64 (getB l p m).2.1, .int .i64 (getB l p m).2.2]) ∧ Own w' 5 v' (bc (getB l p m).1) ∧ Fr u.heap.size v' ∧ Below u.heap.size u w') from fun u hu p m => getBytes_any u _ l p m (hb.below hu) hl)
  have C2 := (show Hid (∀ u, Below w.heap.size w u → ∀ p : Int, Calls Tryz.prog 63 #[.slice ao l.length cap, .int .i64 p] u fun e w' => e = .returned (.tuple #[.int .i64 (getI l p).1, .int .i64 (getI l p).2.1, .int .i64 (getI l p).2.2]) ∧ w' = u) from fun u hu p => getInt_any u _ l p (hb.below hu) (by omega))
  unfold kvR at hk
  simp only at hk
  obtain ⟨d0, b0⟩ := b0
  obtain ⟨d1, b1⟩ := b1
  obtain ⟨d2, b2⟩ := b2
  obtain ⟨d3, b3⟩ := b3
  obtain ⟨d4, b4⟩ := b4
  obtain ⟨D1, hD1⟩ : ∃ D, D = getB l (getI l 0).2.1 16 := ⟨_, rfl⟩
  rw [← hD1] at hk b1 b2 b3 b4 y1 y2 y3
  obtain ⟨D2, hD2⟩ : ∃ D, D = getB l D1.2.1 64 := ⟨_, rfl⟩
  rw [← hD2] at hk b2 b3 b4 y2 y3
  obtain ⟨D3, hD3⟩ : ∃ D, D = getB l D2.2.1 64 := ⟨_, rfl⟩
  rw [← hD3] at hk b3 b4 y3
  obtain ⟨D4, hD4⟩ : ∃ D, D = getI l D3.2.1 := ⟨_, rfl⟩
  rw [← hD4] at hk b4
  obtain ⟨D0, hD0⟩ : ∃ D, D = getI l 0 := ⟨_, rfl⟩
  rw [← hD0] at hk b0 G0 hD1
  have E1 := (show Hid (D1 = getB l D0.2.1 16) from hD1)
  have E2 := (show Hid (D2 = getB l D1.2.1 64) from hD2)
  have E3 := (show Hid (D3 = getB l D2.2.1 64) from hD3)
  have E4 := (show Hid (D4 = getI l D3.2.1) from hD4)
  have HK := (show Hid (_ = rdO l) from hk)
  have F0 := (show Hid (D0.2.2 = if d0 = true then 11 else 0) from b0)
  have F1 := (show Hid (D1.2.2 = if d1 = true then 11 else 0) from b1)
  have F2 := (show Hid (D2.2.2 = if d2 = true then 11 else 0) from b2)
  have F3 := (show Hid (D3.2.2 = if d3 = true then 11 else 0) from b3)
  have F4 := (show Hid (D4.2.2 = if d4 = true then 11 else 0) from b4)
  clear hD0 hD1 hD2 hD3 hD4 hk b0 b1 b2 b3 b4
  have HS0 := (show Hid (w0.heap.size = w.heap.size + 3) from hs0)
  clear hs0
  go_enter Tryz.func78, Tryz.ntmps78
  go_upto_region 4 with fail
  rw [← hw0]
  clear hw0
  go_upto_region 5 with (first
    | (go_at_call 63; refine G0.mono ?_; rintro e w0 ⟨rfl, rfl⟩)
    | (refine wl_set rfl _ _ _ rfl (w.heap.size + 1) 0 _ rfl rfl _ _ o0 (show 0 < 5 by decide) (by kernel_rfl) rfl ?_; intro w1 o1 g1; have e1 := e0.grown g1 (fun e => by injection e with e; omega))
    | (refine wl_set rfl _ _ _ rfl (w.heap.size + 2) 0 _ rfl rfl _ _ e1 (show 0 < 5 by decide) (by kernel_rfl) rfl ?_; intro w2 e2 g2))
  have o2 : Row w2 (w.heap.size + 1) 127 [.int .i64 D0.1, .slice none 0 0, .slice none 0 0, .slice none 0 0, .int .i64 0] := o1.out.grown g2 (fun e => by injection e with e; omega)
  have e2 : Row w2 (w.heap.size + 2) 141 [.int .i64 D0.2.2, .int .i64 0, .int .i64 0, .int .i64 0, .int .i64 0] := e2.out
  have r2 := (r0.grown g1 (fun e => by injection e with e; omega)).grown g2 (fun e => by injection e with e; omega)
  have hs2 : w.heap.size + 3 ≤ w2.heap.size := by have := HS0.out; have := g1.size; have := g2.size; omega
  have B1 := B0.trans (grown_below g1 B0.size (fun k hk => by cases hk; omega))
  have B2 := B1.trans (grown_below g2 B1.size (fun k hk => by cases hk; omega))
  clear G0 o0 e0 o1 e1 g1 g2 r0 B0 B1
  have C1' := C1.out w2 B2 D0.2.1 16
  rw [← E1.out] at C1'
  go_upto_region 6 with (first
    | (go_at_call 55; refine C1'.mono ?_; rintro e w3 ⟨v3, rfl, t3, f3, hb3⟩; have o3 := o2.below hb3; have e3 := e2.below hb3)
    | (refine wl_set rfl _ _ _ rfl (w.heap.size + 1) 1 _ rfl rfl _ _ o3 (show 1 < 5 by decide) (by kernel_rfl) (own1 t3) ?_; intro w4 o4 g4; have e4 := e3.grown g4 (fun e => by injection e with e; omega))
    | (refine wl_set rfl _ _ _ rfl (w.heap.size + 2) 1 _ rfl rfl _ _ e4 (show 1 < 5 by decide) (by kernel_rfl) rfl ?_; intro w5 e5 g5))
  have o5 : Row w5 (w.heap.size + 1) 127 [.int .i64 D0.1, v3, .slice none 0 0, .slice none 0 0, .int .i64 0] := o4.out.grown g5 (fun e => by injection e with e; omega)
  have e5 : Row w5 (w.heap.size + 2) 141 [.int .i64 D0.2.2, .int .i64 D1.2.2, .int .i64 0, .int .i64 0, .int .i64 0] := e5.out
  have r5 := ((r2.below hb3).grown g4 (fun e => by injection e with e; omega)).grown g5 (fun e => by injection e with e; omega)
  have hs5 : w.heap.size + 3 ≤ w5.heap.size := by have := hb3.size; have := g4.size; have := g5.size; omega
  have B3 := below_and B2 le hb3
  have B4 := B3.trans (grown_below g4 B3.size (fun k hk => by cases hk; omega))
  have B5 := B4.trans (grown_below g5 B4.size (fun k hk => by cases hk; omega))
  have q3 : RT (From (w.heap.size + 3)) w5 v3 D1.1 := (((RT.own t3 y1 f3).mv (Mv.weak (L := w.heap.size + 3) hs2)).mv (Mv.from (L := w.heap.size + 3) g4 (by omega) (Nat.le_refl _))).mv (Mv.from (L := w.heap.size + 3) g5 (by omega) (Nat.le_refl _))
  clear C1' o2 e2 o3 e3 o4 e4 g4 g5 r2 B2 B3 B4 t3 f3 hb3 hs2
  have C1' := C1.out w5 B5 D1.2.1 64
  rw [← E2.out] at C1'
  go_upto_region 7 with (first
    | (go_at_call 55; refine C1'.mono ?_; rintro e w6 ⟨v6, rfl, t6, f6, hb6⟩; have o6 := o5.below hb6; have e6 := e5.below hb6)
    | (refine wl_set rfl _ _ _ rfl (w.heap.size + 1) 2 _ rfl rfl _ _ o6 (show 2 < 5 by decide) (by kernel_rfl) (own1 t6) ?_; intro w7 o7 g7; have e7 := e6.grown g7 (fun e => by injection e with e; omega))
    | (refine wl_set rfl _ _ _ rfl (w.heap.size + 2) 2 _ rfl rfl _ _ e7 (show 2 < 5 by decide) (by kernel_rfl) rfl ?_; intro w8 e8 g8))
  have o8 : Row w8 (w.heap.size + 1) 127 [.int .i64 D0.1, v3, v6, .slice none 0 0, .int .i64 0] := o7.out.grown g8 (fun e => by injection e with e; omega)
  have e8 : Row w8 (w.heap.size + 2) 141 [.int .i64 D0.2.2, .int .i64 D1.2.2, .int .i64 D2.2.2, .int .i64 0, .int .i64 0] := e8.out
  have r8 := ((r5.below hb6).grown g7 (fun e => by injection e with e; omega)).grown g8 (fun e => by injection e with e; omega)
  have hs8 : w.heap.size + 3 ≤ w8.heap.size := by have := hb6.size; have := g7.size; have := g8.size; omega
  have B6 := below_and B5 le hb6
  have B7 := B6.trans (grown_below g7 B6.size (fun k hk => by cases hk; omega))
  have B8 := B7.trans (grown_below g8 B7.size (fun k hk => by cases hk; omega))
  have q6 : RT (From (w.heap.size + 3)) w8 v6 D2.1 := (((RT.own t6 y2 f6).mv (Mv.weak (L := w.heap.size + 3) hs5)).mv (Mv.from (L := w.heap.size + 3) g7 (by omega) (Nat.le_refl _))).mv (Mv.from (L := w.heap.size + 3) g8 (by omega) (Nat.le_refl _))
  have q3 := ((q3.mv (Mv.belowG hb6)).mv (Mv.from (L := w.heap.size + 3) g7 (by omega) (Nat.le_refl _))).mv (Mv.from (L := w.heap.size + 3) g8 (by omega) (Nat.le_refl _))
  clear C1' o5 e5 o6 e6 o7 e7 g7 g8 r5 B5 B6 B7 t6 f6 hb6 hs5
  have C1' := C1.out w8 B8 D2.2.1 64
  rw [← E3.out] at C1'
  go_upto_region 8 with (first
    | (go_at_call 55; refine C1'.mono ?_; rintro e w9 ⟨v9, rfl, t9, f9, hb9⟩; have o9 := o8.below hb9; have e9 := e8.below hb9)
    | (refine wl_set rfl _ _ _ rfl (w.heap.size + 1) 3 _ rfl rfl _ _ o9 (show 3 < 5 by decide) (by kernel_rfl) (own1 t9) ?_; intro w10 o10 g10; have e10 := e9.grown g10 (fun e => by injection e with e; omega))
    | (refine wl_set rfl _ _ _ rfl (w.heap.size + 2) 3 _ rfl rfl _ _ e10 (show 3 < 5 by decide) (by kernel_rfl) rfl ?_; intro w11 e11 g11))
  have o11 : Row w11 (w.heap.size + 1) 127 [.int .i64 D0.1, v3, v6, v9, .int .i64 0] := o10.out.grown g11 (fun e => by injection e with e; omega)
  have e11 : Row w11 (w.heap.size + 2) 141 [.int .i64 D0.2.2, .int .i64 D1.2.2, .int .i64 D2.2.2, .int .i64 D3.2.2, .int .i64 0] := e11.out
  have r11 := ((r8.below hb9).grown g10 (fun e => by injection e with e; omega)).grown g11 (fun e => by injection e with e; omega)
  have hs11 : w.heap.size + 3 ≤ w11.heap.size := by have := hb9.size; have := g10.size; have := g11.size; omega
  have B9 := below_and B8 le hb9
  have B10 := B9.trans (grown_below g10 B9.size (fun k hk => by cases hk; omega))
  have B11 := B10.trans (grown_below g11 B10.size (fun k hk => by cases hk; omega))
  have q9 : RT (From (w.heap.size + 3)) w11 v9 D3.1 := (((RT.own t9 y3 f9).mv (Mv.weak (L := w.heap.size + 3) hs8)).mv (Mv.from (L := w.heap.size + 3) g10 (by omega) (Nat.le_refl _))).mv (Mv.from (L := w.heap.size + 3) g11 (by omega) (Nat.le_refl _))
  have q3 := ((q3.mv (Mv.belowG hb9)).mv (Mv.from (L := w.heap.size + 3) g10 (by omega) (Nat.le_refl _))).mv (Mv.from (L := w.heap.size + 3) g11 (by omega) (Nat.le_refl _))
  have q6 := ((q6.mv (Mv.belowG hb9)).mv (Mv.from (L := w.heap.size + 3) g10 (by omega) (Nat.le_refl _))).mv (Mv.from (L := w.heap.size + 3) g11 (by omega) (Nat.le_refl _))
  clear C1' o8 e8 o9 e9 o10 e10 g10 g11 r8 B8 B9 B10 t9 f9 hb9 hs8
  have C2' := C2.out w11 B11 D3.2.1
  rw [← E4.out] at C2'
  go_upto_region 9 with (first
    | (go_at_call 63; refine C2'.mono ?_; rintro e w11 ⟨rfl, rfl⟩)
    | (refine wl_set rfl _ _ _ rfl (w.heap.size + 1) 4 _ rfl rfl _ _ o11 (show 4 < 5 by decide) (by kernel_rfl) rfl ?_; intro w12 o12 g12; have e12 := e11.grown g12 (fun e => by injection e with e; omega))
    | (refine wl_set rfl _ _ _ rfl (w.heap.size + 2) 4 _ rfl rfl _ _ e12 (show 4 < 5 by decide) (by kernel_rfl) rfl ?_; intro w13 e13 g13))
  have o13 : Row w13 (w.heap.size + 1) 127 [.int .i64 D0.1, v3, v6, v9, .int .i64 D4.1] := o12.out.grown g13 (fun e => by injection e with e; omega)
  have e13 : Row w13 (w.heap.size + 2) 141 [.int .i64 D0.2.2, .int .i64 D1.2.2, .int .i64 D2.2.2, .int .i64 D3.2.2, .int .i64 D4.2.2] := e13.out
  have r13 := (r11.grown g12 (fun e => by injection e with e; omega)).grown g13 (fun e => by injection e with e; omega)
  have hs13 : w.heap.size + 3 ≤ w13.heap.size := by have := g12.size; have := g13.size; omega
  have B12 := B11.trans (grown_below g12 B11.size (fun k hk => by cases hk; omega))
  have B13 := B12.trans (grown_below g13 B12.size (fun k hk => by cases hk; omega))
  have q3 := (q3.mv (Mv.from (L := w.heap.size + 3) g12 (by omega) (Nat.le_refl _))).mv (Mv.from (L := w.heap.size + 3) g13 (by omega) (Nat.le_refl _))
  have q6 := (q6.mv (Mv.from (L := w.heap.size + 3) g12 (by omega) (Nat.le_refl _))).mv (Mv.from (L := w.heap.size + 3) g13 (by omega) (Nat.le_refl _))
  have q9 := (q9.mv (Mv.from (L := w.heap.size + 3) g12 (by omega) (Nat.le_refl _))).mv (Mv.from (L := w.heap.size + 3) g13 (by omega) (Nat.le_refl _))
  clear C2' o11 e11 o12 e12 g12 g13 r11 B11 B12 hs11 C1 C2 E1 E2 E3 E4
  rw [F0.out, F1.out, F2.out, F3.out, F4.out] at e13
  have hne := neE d0 d1 d2 d3 d4
  obtain ⟨ES, hES⟩ : ∃ ES : List Value, ES = [.int .i64 (if d0 = true then 11 else 0), .int .i64 (if d1 = true then 11 else 0), .int .i64 (if d2 = true then 11 else 0), .int .i64 (if d3 = true then 11 else 0), .int .i64 (if d4 = true then 11 else 0)] := ⟨_, rfl⟩
  have hEL : ES.length = 5 := by rw [hES]; rfl
  have hne : ∀ u : World, (binOp .neq 141 (.agg ES.toArray) (.agg #[.int .i64 0, .int .i64 0, .int .i64 0, .int .i64 0, .int .i64 0])).run Tryz.prog u = .ok (.bool (d0 || d1 || d2 || d3 || d4)) u := by rw [hES]; exact hne
  rw [← hES] at e13
  clear hES
  have HEL := (show Hid (ES.length = 5) from hEL)
  clear hEL
  have HK : Hid ((if D0.2.2 = 0 ∧ D1.2.2 = 0 ∧ D2.2.2 = 0 ∧ D3.2.2 = 0 ∧ D4.2.2 = 0 ∧ D4.2.1 = (l.length : Int) ∧ wok (D0.1, D1.1, D2.1, D3.1, D4.1) then some (D0.1, D1.1, D2.1, D3.1, D4.1) else none) = rdO l) := HK
  have bad : ¬ (D0.2.2 = 0 ∧ D1.2.2 = 0 ∧ D2.2.2 = 0 ∧ D3.2.2 = 0 ∧ D4.2.2 = 0 ∧ D4.2.1 = (l.length : Int) ∧ wok (D0.1, D1.1, D2.1, D3.1, D4.1)) → rdO l = none := fun h => by rw [← HK.out, if_neg h]
  have fin : ∀ {w14 w15 : World}, rdO l = none → Below w13.heap.size w13 w14 → w14.grownBy w15 (some w.heap.size) → ∃ r' : List Value, (Ending.returned (.tuple #[.agg ([.int .i64 0, .slice none 0 0, .slice none 0 0, .slice none 0 0, .int .i64 0] : List Value).toArray, .int .i64 71])) = .returned (.tuple #[.agg r'.toArray, .int .i64 (errR l)]) ∧ ROp (From w.heap.size) w15 r' (opR l) ∧ Below w.heap.size w w15 := fun {w14 w15} h hb14 hg15 => by
    have b14 := below_and B13 le hb14
    refine ⟨[.int .i64 0, .slice none 0 0, .slice none 0 0, .slice none 0 0, .int .i64 0], by unfold errR; rw [h], ?_, b14.trans (grown_below hg15 b14.size (fun k hk => by cases hk; exact Nat.le_refl _))⟩
    unfold opR
    rw [h]
    exact ⟨_, _, _, rfl, RT.nil _ _, RT.nil _ _, RT.nil _ _⟩
  have BAD := (show Hid (¬ (D0.2.2 = 0 ∧ D1.2.2 = 0 ∧ D2.2.2 = 0 ∧ D3.2.2 = 0 ∧ D4.2.2 = 0 ∧ D4.2.1 = (l.length : Int) ∧ wok (D0.1, D1.1, D2.1, D3.1, D4.1)) → rdO l = none) from bad)
  clear bad
  cases hd : (d0 || d1 || d2 || d3 || d4) with
  | true =>
    rw [hd] at hne
    have hn : rdO l = none := BAD.out fun ⟨x0, x1, x2, x3, x4, _⟩ => by
      rw [F0.out] at x0
      rw [F1.out] at x1
      rw [F2.out] at x2
      rw [F3.out] at x3
      rw [F4.out] at x4
      revert hd x0 x1 x2 x3 x4
      cases d0 <;> cases d1 <;> cases d2 <;> cases d3 <;> cases d4 <;> simp
    have HN := (show Hid (rdO l = none) from hn)
    clear hn hd
    go_wp2_with (first
      | (refine wl_load rfl _ _ rfl (w.heap.size + 2) rfl _ _ e13 _ Tryz.underlying141 rfl (by rw [HEL.out]; kernel_rfl) ?_)
      | (refine wl_store rfl _ _ _ rfl w.heap.size [.int .i64 0, .slice none 0 0, .slice none 0 0, .slice none 0 0, .int .i64 0] rfl rfl _ _ r13 rfl (by kernel_rfl) one5z ?_; intro w15 hr15 hg15))
    refine bodyPost_ret (results_ct rfl _ _ w.heap.size _ _ (0, 0) _ (by rfl) hr15.out Tryz.underlying127 rfl (by kernel_rfl)) rfl ?_
    exact fin HN.out (Below.refl _ _) hg15
  | false =>
    rw [hd] at hne
    obtain ⟨rfl, rfl, rfl, rfl, rfl⟩ : d0 = false ∧ d1 = false ∧ d2 = false ∧ d3 = false ∧ d4 = false := by
      revert hd
      cases d0 <;> cases d1 <;> cases d2 <;> cases d3 <;> cases d4 <;> simp
    clear hd
    by_cases hp : D4.2.1 = (l.length : Int)
    rotate_left
    · have HN := (show Hid (rdO l = none) from BAD.out fun h => hp h.2.2.2.2.2.1)
      have hpn : (D4.2.1 != (l.length : Int)) = true := by simp [hp]
      clear hp
      go_wp2_with (first
        | (refine wl_load rfl _ _ rfl (w.heap.size + 2) rfl _ _ e13 _ Tryz.underlying141 rfl (by rw [HEL.out]; kernel_rfl) ?_)
        | (refine wl_store rfl _ _ _ rfl w.heap.size [.int .i64 0, .slice none 0 0, .slice none 0 0, .slice none 0 0, .int .i64 0] rfl rfl _ _ r13 rfl (by kernel_rfl) one5z ?_; intro w15 hr15 hg15))
      refine bodyPost_ret (results_ct rfl _ _ w.heap.size _ _ (0, 0) _ (by rfl) hr15.out Tryz.underlying127 rfl (by kernel_rfl)) rfl ?_
      exact fin HN.out (Below.refl _ _) hg15
    have hpn : (D4.2.1 != (l.length : Int)) = false := by simp [hp]
    have HP := (show Hid (D4.2.1 = (l.length : Int)) from hp)
    clear hp
    have hW := writable_any w13 [.int .i64 D0.1, v3, v6, v9, .int .i64 D4.1] (D0.1, D1.1, D2.1, D3.1, D4.1) ⟨_, _, _, rfl, q3.mv Mv.any, q6.mv Mv.any, q9.mv Mv.any⟩
    by_cases hw : wok (D0.1, D1.1, D2.1, D3.1, D4.1)
    rotate_left
    · rw [decide_eq_false hw] at hW
      have HN := (show Hid (rdO l = none) from BAD.out fun h => hw h.2.2.2.2.2.2)
      clear hw
      go_wp2_with (first
        | (refine wl_load rfl _ _ rfl (w.heap.size + 2) rfl _ _ e13 _ Tryz.underlying141 rfl (by rw [HEL.out]; kernel_rfl) ?_)
        | (refine wl_load_w rfl _ _ rfl (w.heap.size + 1) rfl _ _ o13 _ Tryz.underlying127 rfl (by kernel_rfl) ?_)
        | (go_at_call 90; refine hW.mono ?_; rintro e w14 ⟨rfl, hb14⟩; have r14 := r13.below hb14)
        | (refine wl_store rfl _ _ _ rfl w.heap.size [.int .i64 0, .slice none 0 0, .slice none 0 0, .slice none 0 0, .int .i64 0] rfl rfl _ _ r14 rfl (by kernel_rfl) one5z ?_; intro w15 hr15 hg15))
      refine bodyPost_ret (results_ct rfl _ _ w.heap.size _ _ (0, 0) _ (by rfl) hr15.out Tryz.underlying127 rfl (by kernel_rfl)) rfl ?_
      exact fin HN.out hb14 hg15
    rw [decide_eq_true hw] at hW
    have hs : rdO l = some (D0.1, D1.1, D2.1, D3.1, D4.1) := by
      rw [← HK.out, if_pos ⟨F0.out, F1.out, F2.out, F3.out, F4.out, HP.out, hw⟩]
    have HN := (show Hid (rdO l = some (D0.1, D1.1, D2.1, D3.1, D4.1)) from hs)
    clear hw hs
    go_wp2_with (first
      | (refine wl_load rfl _ _ rfl (w.heap.size + 2) rfl _ _ e13 _ Tryz.underlying141 rfl (by rw [HEL.out]; kernel_rfl) ?_)
      | (refine wl_load_w rfl _ _ rfl (w.heap.size + 1) rfl _ _ o13 _ Tryz.underlying127 rfl (by kernel_rfl) ?_)
      | (go_at_call 90; refine hW.mono ?_; rintro e w14 ⟨rfl, hb14⟩; have r14 := r13.below hb14; have o14 := o13.below hb14)
      | (refine wl_load rfl _ _ rfl (w.heap.size + 1) rfl _ _ o14 _ Tryz.underlying127 rfl (by kernel_rfl) ?_)
      | (refine wl_store rfl _ _ _ rfl w.heap.size [.int .i64 D0.1, v3, v6, v9, .int .i64 D4.1] rfl rfl _ _ r14 rfl (by kernel_rfl) (one5 q3.one q6.one q9.one) ?_; intro w15 hr15 hg15))
    refine bodyPost_ret (results_ct rfl _ _ w.heap.size _ _ (0, 0) _ (by rfl) hr15.out Tryz.underlying127 rfl (by kernel_rfl)) rfl ?_
    have b14 := below_and B13 le hb14
    refine ⟨[.int .i64 D0.1, v3, v6, v9, .int .i64 D4.1], by unfold errR; rw [HN.out]; rfl, ?_, b14.trans (grown_below hg15 b14.size (fun k hk => by cases hk; exact Nat.le_refl _))⟩
    unfold opR
    rw [HN.out]
    exact ⟨_, _, _, rfl, (q3.mv (Mv.belowG hb14)).mv (Mv.from (L := w.heap.size) hg15 (by omega) (by omega)), (q6.mv (Mv.belowG hb14)).mv (Mv.from (L := w.heap.size) hg15 (by omega) (by omega)), (q9.mv (Mv.belowG hb14)).mv (Mv.from (L := w.heap.size) hg15 (by omega) (by omega))⟩
end Go.Proofs.YteafgdidjdfiiaaGreat
end

section
set_option linter.unusedVariables false
set_option linter.unusedSimpArgs false
namespace Go.Proofs.YteafgdidjdfiiaaGreat
open Go.RowKit Oct Kvl

/-- The end of session.do: x is entries, leases, code, value; the state lies in block b. -/
def Rdo (b B : Nat) (w : World) (n : Int) (vs : Value) (ss : List PEnt) (x : List PEnt × List PEnt × Int × List Int) (e : Ending) (w' : World) : Prop :=
  ∃ ve' vl' vv, e = .returned (.agg #[.int .i64 x.2.2.1, vv]) ∧ OT (From w.heap.size) w' vv x.2.2.2 ∧ LB OEnt 73 2 B w' ve' x.1 ∧ LB OLea 75 3 B w' vl' x.2.1 ∧ LB OSes 77 4 B w' vs ss ∧ Row w' b 27 [.int .i64 n, ve', vl', vs] ∧ w.grownBy w' (some b)

theorem sz_ents {es : List PEnt} (h : rgtL es) : szL 48 szE es := ⟨by have := h.1; omega, fun y hy => by
  obtain ⟨h1, h2, h3⟩ := h.2.2 y hy
  exact ⟨by unfold szT; omega, by unfold szT; omega⟩⟩
theorem sz_leas {ls : List PEnt} (h : rgtS ls) : szL 40 szS ls := ⟨by have := h.1; omega, fun y hy => by
  obtain ⟨h1, h2, h3⟩ := h.2.2 y hy
  show y.1.length ≤ _
  omega⟩
theorem sz_sess {ss : List PEnt} (h : rgtN ss) : szL 48 szN ss := ⟨by have := rgn_len h; omega, fun y hy => by
  obtain ⟨h1, h2, h3, h4⟩ := chk_all h y hy
  show (sv y).length ≤ _
  omega⟩
theorem sz_op {o : POp} (h : wok o) : szO o := by
  obtain ⟨_, ⟨n1, n2⟩, ha, hb, _⟩ := h
  have ha := Nat.le_trans ha (mA_le _)
  have hb := Nat.le_trans hb (mB_le _)
  exact ⟨by unfold szT; omega, by unfold szT; omega, by unfold szT; omega⟩

/-- A field of the state and a result are set. -/
theorem do_set {w4 : World} {b b3 : Nat} {L : List Value} {z0 z1 : Value} (rb : Row w4 b 27 L) (rz : Row w4 b3 30 [z0, z1]) (hne : b ≠ b3) (j : Nat) (v c x : Value) :
    Row (((w4.setCell ⟨b, j, none⟩ v).setCell ⟨b3, 0, none⟩ c).setCell ⟨b3, 1, none⟩ x) b 27 (L.set j v) ∧ Row (((w4.setCell ⟨b, j, none⟩ v).setCell ⟨b3, 0, none⟩ c).setCell ⟨b3, 1, none⟩ x) b3 30 [c, x] ∧
      (∀ k, k < w4.heap.size → k ≠ b → k ≠ b3 → (((w4.setCell ⟨b, j, none⟩ v).setCell ⟨b3, 0, none⟩ c).setCell ⟨b3, 1, none⟩ x).heap[k]? = w4.heap[k]?) ∧ w4.heap.size ≤ (((w4.setCell ⟨b, j, none⟩ v).setCell ⟨b3, 0, none⟩ c).setCell ⟨b3, 1, none⟩ x).heap.size ∧
      (((w4.setCell ⟨b, j, none⟩ v).setCell ⟨b3, 0, none⟩ c).setCell ⟨b3, 1, none⟩ x).os = w4.os ∧ (((w4.setCell ⟨b, j, none⟩ v).setCell ⟨b3, 0, none⟩ c).setCell ⟨b3, 1, none⟩ x).tape = w4.tape ∧ (((w4.setCell ⟨b, j, none⟩ v).setCell ⟨b3, 0, none⟩ c).setCell ⟨b3, 1, none⟩ x).output = w4.output := by
  have g1 := grown_set w4 b j v
  have g2 := grown_set (w4.setCell ⟨b, j, none⟩ v) b3 0 c
  have g3 := grown_set ((w4.setCell ⟨b, j, none⟩ v).setCell ⟨b3, 0, none⟩ c) b3 1 x
  refine ⟨((rb.set j v).grown g2 (fun e => by injection e with e; exact hne e.symm)).grown g3 (fun e => by injection e with e; exact hne e.symm), (((rz.grown g1 (fun e => by injection e with e; exact hne e)).set 0 c).set 1 x), fun k hk h1 h2 => ?_, Nat.le_trans g1.size (Nat.le_trans g2.size g3.size), g3.os.trans (g2.os.trans g1.os), g3.tape.trans (g2.tape.trans g1.tape), g3.output.trans (g2.output.trans g1.output)⟩
  exact (g3.block k (Nat.lt_of_lt_of_le hk (Nat.le_trans g1.size g2.size)) (fun e => h2 (by injection e))).trans ((g2.block k (Nat.lt_of_lt_of_le hk g1.size) (fun e => h2 (by injection e))).trans (g1.block k hk (fun e => h1 (by injection e))))

set_option maxRecDepth 10000 in
set_option maxHeartbeats 8000000 in
/-- session.do. -/
theorem doN_any (w : World) (b B : Nat) (n : Int) (ve vl vs : Value) (es ls ss : List PEnt) (h1 : LB OEnt 73 2 B w ve es) (h2 : LB OLea 75 3 B w vl ls) (h3 : LB OSes 77 4 B w vs ss) (hrow : Row w b 27 [.int .i64 n, ve, vl, vs]) (hB : B ≤ w.heap.size)
    (g1 : rgtL es) (g2 : rgtS ls) (r : List Value) (x : PReq) (hx : RReq Any w r x) (hz : szQ x) :
    Calls Tryz.prog 51 #[.pointer (some ⟨b, 0, none⟩), .agg r.toArray] w (Rdo b B w n vs ss (opA es ls x n)) := by
  have le := Nat.le_refl w.heap.size
  obtain ⟨vo, vg, rfl, ho, hg⟩ := hx
  obtain ⟨w0, hw0⟩ : ∃ w0, w0 = (w.alloc (.cells #[.int .i64 x.1, .int .i64 x.2.1, vo, vg] 34)).alloc (.cells #[.int .i64 0, .slice none 0 0] 30) := ⟨_, rfl⟩
  have ra : Row w0 w.heap.size 34 [.int .i64 x.1, .int .i64 x.2.1, vo, vg] := by rw [hw0]; exact rowA (Row.new w 34 _) _
  have rr : Row w0 (w.heap.size + 1) 30 [.int .i64 0, .slice none 0 0] := by
    rw [hw0]
    have := Row.new (w.alloc (.cells #[.int .i64 x.1, .int .i64 x.2.1, vo, vg] 34)) 30 [.int .i64 0, .slice none 0 0]
    simpa using this
  have B0 : Below w.heap.size w w0 := by rw [hw0]; exact ((Below.refl _ w).alloc (Nat.le_refl _) _).alloc (by simp) _
  have hs0 : w0.heap.size = w.heap.size + 2 := by rw [hw0]; simp
  have hR := read_any w0 vo _ (ho.mv (Mv.below B0)).1 (Nat.le_trans hz.1 (by decide))
  have c2 := ra.cell (j := 2) rfl
  have hbw := hrow.lt
  have hby := ho.1.1
  clear ho hg
  generalize hop : x.2.2.1 = op at *
  go_enter Tryz.func51, Tryz.ntmps51
  go_upto_region 1 with fail
  rw [← hw0]
  clear hw0
  go_upto_region 2 with (first
    | (go_at_call 78; refine hR.mono ?_; rintro e w1 ⟨r1, rfl, o1, hb1⟩; have o1' := o1; obtain ⟨un, ua, ub, rfl, sn, sa, sb⟩ := o1; have n1 := Row.new w1 127 [.int .i64 0, .slice none 0 0, .slice none 0 0, .slice none 0 0, .int .i64 0])
    | (refine wl_store rfl _ _ _ rfl w1.heap.size [.int .i64 (opR op).1, un, ua, ub, .int .i64 (opR op).2.2.2.2] rfl rfl _ _ n1 rfl (by kernel_rfl) (one5 sn.one sa.one sb.one) ?_; intro w2 hr2 hg2))
  have y2 := hr2.out
  have b12 : Below w1.heap.size w1 w2 := (below_alloc w1 _).trans (grown_below hg2 (by simp) (fun k hk => by cases hk; exact Nat.le_refl _))
  have b02 := below_and hb1 (Nat.le_refl _) b12
  have T2 := below_and B0 le b02
  have o2 := mov_op _ (From w0.heap.size) _ _ _ _ o1' b12.size (Mv.belowG b12)
  have HO := (show Hid (ROp (From w0.heap.size) w2 [.int .i64 (opR op).1, un, ua, ub, .int .i64 (opR op).2.2.2.2] (opR op)) from o2)
  obtain ⟨b2, hb2⟩ : ∃ b2, b2 = w1.heap.size := ⟨_, rfl⟩
  rw [← hb2] at y2 ⊢
  have hb2l : w0.heap.size ≤ b2 := by rw [hb2]; exact hb1.size
  have ra2 := ra.below b02
  have rr2 := rr.below b02
  have q1 := h1.below mov_oent T2
  have q2 := h2.below mov_olea T2
  have q3 := h3.below mov_oses T2
  have r2 := hrow.below T2
  clear hR c2 hr2 hg2 n1 sn sa sb o2 o1' hb1 b12 b02 hb2 ra rr h1 h2 h3 hrow B0
  cases hrd : rdO op with
  | none =>
    have he : errR op = 71 := by unfold errR; rw [hrd]
    have hD : opA es ls x n = (es, ls, 5, []) := by unfold opA; rw [hop, hrd]
    have HD := (show Hid (opA es ls x n = (es, ls, 5, [])) from hD)
    rw [he]
    clear hD he hrd HO
    go_wp2_with (refine wl_store rfl _ _ _ rfl (w.heap.size + 1) [.int .i64 5, .slice none 0 0] rfl rfl _ _ rr2 rfl (by kernel_rfl) (one_res rfl) ?_; intro w7 hr7 hg7)
    refine bodyPost_ret (v := .agg ([.int .i64 5, .slice none 0 0] : List Value).toArray) (results_cell_row rfl _ _ (w.heap.size + 1) _ _ (0, 0) _ (by rfl) hr7.out Tryz.underlying30 rfl (by kernel_rfl)) rfl ?_
    rw [HD.out]
    exact ⟨_, _, _, rfl, OT.nil _ _, q1.grownR rr2 (by decide) (by decide) hg7, q2.grownL rr2 (by decide) (by decide) hg7, q3.grownN rr2 (by decide) (by decide) hg7, r2.grown hg7 (fun e => by injection e with e; omega), grown_of_below (T2.trans (grown_below hg7 T2.size (fun k hk => by cases hk; omega))) _⟩
  | some o =>
    have hrd' := hrd
    have he : errR op = 0 := by unfold errR; rw [hrd]
    have hor : opR op = o := by unfold opR; rw [hrd]
    have hwo : wok o := (wr_rd hby hrd).2
    rw [he]
    rw [hor] at y2 HO
    have HZO := (show Hid (szO o) from sz_op hwo)
    obtain ⟨w3, hw3⟩ : ∃ w3, w3 = w2.alloc (.cells #[.int .i64 0, .slice none 0 0] 30) := ⟨_, rfl⟩
    have z3 : Row w3 w2.heap.size 30 [.int .i64 0, .slice none 0 0] := by rw [hw3]; exact Row.new w2 _ _
    have b23 : Below w2.heap.size w2 w3 := by rw [hw3]; exact below_alloc _ _
    go_upto_region 5 with fail
    rw [← hw3]
    clear hw3
    have y3 := y2.below b23
    have ra3 := ra2.below b23
    have rr3 := rr2.below b23
    have q13 := q1.below mov_oent b23
    have q23 := q2.below mov_olea b23
    have q33 := q3.below mov_oses b23
    have r3 := r2.below b23
    have T3 := below_and T2 le b23
    have o3 : ROp Any w3 [.int .i64 o.1, un, ua, ub, .int .i64 o.2.2.2.2] o := mov_op _ _ _ _ _ _ (mov_op _ _ _ _ _ _ HO.out b23.size (Mv.belowG b23)) (Nat.le_refl _) Mv.any
    obtain ⟨b3, hb3⟩ : ∃ b3, b3 = w2.heap.size := ⟨_, rfl⟩
    rw [← hb3] at z3 ⊢
    have hb3w : w.heap.size + 2 ≤ b3 := by rw [hb3]; have := y2.lt; omega
    have hbb3 : b ≠ b3 := by omega
    have d0 := y3.cell (j := 0) rfl
    have hdw : Below w3.heap.size w3 w3.drew := ⟨rfl, rfl, rfl, Nat.le_refl _, fun _ _ => rfl⟩
    clear HO y2 ra2 rr2 q1 q2 q3 r2 b23 T2 hor he hrd hb3
    have fin : ∀ {x' : List PEnt × List PEnt × Int × List Int} {w4 w7 w8 : World} {ve' vl' vv : Value}, opA es ls x n = x' → OT (From w3.heap.size) w4 vv x'.2.2.2 → LB OEnt 73 2 B w4 ve' x'.1 → LB OLea 75 3 B w4 vl' x'.2.1 → Below w3.heap.size w3 w4 → Row w7 b 27 [.int .i64 n, ve', vl', vs] → (∀ k, k < w4.heap.size → k ≠ b → k ≠ b3 → w7.heap[k]? = w4.heap[k]?) → w4.heap.size ≤ w7.heap.size → w7.os = w4.os → w7.tape = w4.tape → w7.output = w4.output → w7.grownBy w8 (some (w.heap.size + 1)) → Rdo b B w n vs ss (opA es ls x n) (.returned (.agg #[.int .i64 x'.2.2.1, vv])) w8 := by
      intro x' w4 w7 w8 ve' vl' vv e t4 l4 m4 b34 r7 hk hs e1 e2 e3 g8
      have r4 := r3.below b34
      have z4 := z3.below b34
      have rr4 := rr3.below b34
      have rr7 : Row w7 (w.heap.size + 1) 30 [.int .i64 0, .slice none 0 0] := (hk _ rr4.lt (by omega) (by omega)).trans rr4
      have nb : ∀ {C : Nat} {u : Value} {l : List Int} {G : Nat → Prop}, OT G w4 u l → OT G w7 u l := fun {C u l G} ho => by
        have h1 := ho.ne r4 (by decide)
        have h2 := ho.ne z4 (by decide)
        exact ⟨ho.1.at_block fun k hk' => hk k (ho.1.lt k hk') (h1.2.2 k hk').2 (h2.2.2 k hk').2, ho.2.1, ho.2.2⟩
      have hl4 : LB OEnt 73 2 B w7 ve' x'.1 := by
        have n1 := l4.apart r4 (by decide)
        have n2 := l4.apart z4 (by decide)
        obtain ⟨rows, r0, hown, hfr, hall⟩ := l4
        refine ⟨rows, r0, ⟨hown.1, ?_⟩, hfr, hall.mono fun q y hq => ?_⟩
        · rcases hown.2 with h0 | ⟨g, cap, cur, f1, f2, f3, f4⟩
          · exact .inl h0
          · exact .inr ⟨g, cap, cur, f1, f2, (hk g (Array.getElem?_eq_some_iff.1 f3).1 (fun e => n1 (by rw [f1, ← e]; rfl)) (fun e => n2 (by rw [f1, ← e]; rfl))).trans f3, f4⟩
        · obtain ⟨p, q, rfl, o1, o2⟩ := hq
          exact ⟨p, q, rfl, nb (C := 0) o1, nb (C := 0) o2⟩
      have hm4 : LB OLea 75 3 B w7 vl' x'.2.1 := by
        have n1 := m4.apart r4 (by decide)
        have n2 := m4.apart z4 (by decide)
        obtain ⟨rows, r0, hown, hfr, hall⟩ := m4
        refine ⟨rows, r0, ⟨hown.1, ?_⟩, hfr, hall.mono fun q y hq => ?_⟩
        · rcases hown.2 with h0 | ⟨g, cap, cur, f1, f2, f3, f4⟩
          · exact .inl h0
          · exact .inr ⟨g, cap, cur, f1, f2, (hk g (Array.getElem?_eq_some_iff.1 f3).1 (fun e => n1 (by rw [f1, ← e]; rfl)) (fun e => n2 (by rw [f1, ← e]; rfl))).trans f3, f4⟩
        · obtain ⟨p, q', q, rfl, o1, o2⟩ := hq
          exact ⟨p, q', q, rfl, nb (C := 0) o1, o2⟩
      have q34 := q33.below mov_oses b34
      have hq4 : LB OSes 77 4 B w7 vs ss := by
        have n1 := q34.apart r4 (by decide)
        have n2 := q34.apart z4 (by decide)
        obtain ⟨rows, r0, hown, hfr, hall⟩ := q34
        refine ⟨rows, r0, ⟨hown.1, ?_⟩, hfr, hall.mono fun q y hq => ?_⟩
        · rcases hown.2 with h0 | ⟨g, cap, cur, f1, f2, f3, f4⟩
          · exact .inl h0
          · exact .inr ⟨g, cap, cur, f1, f2, (hk g (Array.getElem?_eq_some_iff.1 f3).1 (fun e => n1 (by rw [f1, ← e]; rfl)) (fun e => n2 (by rw [f1, ← e]; rfl))).trans f3, f4⟩
        · obtain ⟨cc, dd, kk, aa, ll, rfl, o1, o2⟩ := hq
          exact ⟨cc, dd, kk, aa, ll, rfl, nb (C := 0) o1, o2⟩
      have g3w : w.grownBy w3 (some b) := grown_of_below T3 _
      have g4w : w.grownBy w4 (some b) := grown_of_below (below_and T3 le b34) _
      rw [e]
      have hs3 := T3.size
      refine ⟨ve', vl', vv, rfl, ((nb (C := 0) t4).mv (Mv.from g8 (by have := rr3.lt; omega) (by omega))), hl4.grownR rr7 (by decide) (by decide) g8, hm4.grownL rr7 (by decide) (by decide) g8, hq4.grownN rr7 (by decide) (by decide) g8, r7.grown g8 (fun e => by injection e with e; omega), ?_⟩
      have g7w : w.grownBy w7 (some b) := ⟨e1.trans g4w.os, e2.trans g4w.tape, e3.trans g4w.output, Nat.le_trans g4w.size hs, fun k hk' hne => (hk k (Nat.lt_of_lt_of_le hk' g4w.size) (fun e => hne (by rw [e])) (by omega)).trans (g4w.block k hk' hne)⟩
      exact grown_trans g7w g8 (.inr fun k hk' => by cases hk'; omega)
    have FIN := (show Hid (∀ {x' : List PEnt × List PEnt × Int × List Int} {w4 w7 w8 : World} {ve' vl' vv : Value}, opA es ls x n = x' → OT (From w3.heap.size) w4 vv x'.2.2.2 → LB OEnt 73 2 B w4 ve' x'.1 → LB OLea 75 3 B w4 vl' x'.2.1 → Below w3.heap.size w3 w4 → Row w7 b 27 [.int .i64 n, ve', vl', vs] → (∀ k, k < w4.heap.size → k ≠ b → k ≠ b3 → w7.heap[k]? = w4.heap[k]?) → w4.heap.size ≤ w7.heap.size → w7.os = w4.os → w7.tape = w4.tape → w7.output = w4.output → w7.grownBy w8 (some (w.heap.size + 1)) → Rdo b B w n vs ss (opA es ls x n) (.returned (.agg #[.int .i64 x'.2.2.1, vv])) w8) from fin)
    clear fin
    by_cases hk4 : o.1 ≤ 4
    · obtain ⟨D, hDD⟩ : ∃ D, D = doL es o := ⟨_, rfl⟩
      have HD := (show Hid (opA es ls x n = (D.1, ls, D.2)) by
        show _ = _
        unfold opA
        rw [hop, hrd']
        simp only [if_pos hk4, hDD])
      have HDo := (show Hid (∀ u, Below w3.heap.size w3 u → Calls Tryz.prog 79 #[ve, .agg #[.int .i64 o.1, un, ua, ub, .int .i64 o.2.2.2.2]] u fun e w' => ∃ ai ni ci ax cx, e = .returned (.tuple #[.slice ai ni ci, .agg #[.int .i64 D.2.1, .slice ax D.2.2.length cx]]) ∧ LB OEnt 73 2 B w' (.slice ai ni ci) D.1 ∧ OT (From w3.heap.size) w' (.slice ax D.2.2.length cx) D.2.2 ∧ Below w3.heap.size w3 w') from fun u hu => by
        rw [hDD]
        refine (do_any u ve es ((Re.rl q13).mv mov_ent hu.size (Mv.below hu)) (sz_ents g1) _ o (mov_op _ _ _ _ _ _ o3 hu.size (Mv.below hu)) HZO.out).mono ?_
        rintro e w' ⟨v', vv, rfl, l1, t1, hb'⟩
        obtain ⟨ai, ci, rfl, _⟩ := (Re.rl l1).form
        obtain ⟨ax, cx, rfl, _⟩ := t1.rt.form
        exact ⟨ai, _, ci, ax, cx, rfl, l1.weak mov_oent (Nat.le_trans hB (Nat.le_trans T3.size hu.size)), t1.mv (Mv.weak hu.size), below_and hu (Nat.le_refl _) hb'⟩)
      have hd : decide (o.1 ≤ 4) = true := by simp [hk4]
      clear hrd' hDD hk4
      go_upto_region 6 with fail
      have SK := (show Hid (∀ u, Below w3.heap.size w3 u → (u.cell? ⟨b, 1, none⟩ = some ve ∧ u.frozen? ⟨b, 1, none⟩ = false) ∧ u.cell? ⟨b2, 0, none⟩ = some (.int .i64 o.1) ∧ u.cell? ⟨b2, 1, none⟩ = some un ∧ u.cell? ⟨b2, 2, none⟩ = some ua ∧ u.cell? ⟨b2, 3, none⟩ = some ub ∧ u.cell? ⟨b2, 4, none⟩ = some (.int .i64 o.2.2.2.2) ∧ (u.cell? ⟨b3, 0, none⟩ = some (.int .i64 0) ∧ u.cell? ⟨b3, 1, none⟩ = some (.slice none 0 0) ∧ u.frozen? ⟨b3, 0, none⟩ = false ∧ u.frozen? ⟨b3, 1, none⟩ = false)) from fun u hu => ⟨⟨(r3.below hu).cell (j := 1) rfl, (r3.below hu).frozen 1⟩, (y3.below hu).cell (j := 0) rfl, (y3.below hu).cell (j := 1) rfl, (y3.below hu).cell (j := 2) rfl, (y3.below hu).cell (j := 3) rfl, (y3.below hu).cell (j := 4) rfl, (z3.below hu).cell (j := 0) rfl, (z3.below hu).cell (j := 1) rfl, (z3.below hu).frozen 0, (z3.below hu).frozen 1⟩)
      obtain ⟨⟨C1, F1⟩, D0, D1, D2, D3, D4, E0, E1, F2, F3⟩ := SK.out w3 (Below.refl _ _)
      go_region_law (go_simp; go_at_call 79; refine (HDo.out _ (by first | exact Below.refl _ _ | exact hdw)).mono ?_; rintro e w4 ⟨ai, ni, ci, ax, cx, rfl, hL4, ht4, hb4⟩; obtain ⟨⟨C1, F1⟩, D0, D1, D2, D3, D4, E0, E1, F2, F3⟩ := SK.out w4 hb4)
      all_goals (
        have r4 := r3.below hb4
        obtain ⟨r7, z7, hk7, hs7, e1, e2, e3⟩ := do_set r4 (z3.below hb4) hbb3 1 (.slice ai ni ci) (.int .i64 D.2.1) (.slice ax D.2.2.length cx)
        have rr7 := (hk7 _ (rr3.below hb4).lt (by omega) (by omega)).trans (rr3.below hb4)
        generalize ((w4.setCell ⟨b, 1, none⟩ (.slice ai ni ci)).setCell ⟨b3, 0, none⟩ (.int .i64 D.2.1)).setCell ⟨b3, 1, none⟩ (.slice ax D.2.2.length cx) = w7 at *
        have R7 := (show Hid _ from hk7)
        clear hk7 C1 F1 D0 D1 D2 D3 D4 E0 E1 F2 F3 d0
        go_wp2_with (first
          | (refine wl_load rfl _ _ rfl b3 rfl _ _ z7 _ Tryz.underlying30 rfl (by kernel_rfl) ?_)
          | (refine wl_store rfl _ _ _ rfl (w.heap.size + 1) [.int .i64 D.2.1, .slice ax D.2.2.length cx] rfl rfl _ _ rr7 rfl (by kernel_rfl) (one_res rfl) ?_; intro w8 hr8 hg8))
        refine bodyPost_ret (v := .agg ([.int .i64 D.2.1, .slice ax D.2.2.length cx] : List Value).toArray) (results_cell_row rfl _ _ (w.heap.size + 1) _ _ (0, 0) _ (by rfl) hr8.out Tryz.underlying30 rfl (by kernel_rfl)) rfl ?_
        exact FIN.out HD.out ht4 hL4 (q23.below mov_olea hb4) hb4 r7 R7.out hs7 e1 e2 e3 hg8)
    · obtain ⟨D, hDD⟩ : ∃ D, D = doS ls o x.1 n := ⟨_, rfl⟩
      have HD := (show Hid (opA es ls x n = (es, D.1, D.2)) by
        show _ = _
        unfold opA
        rw [hop, hrd']
        simp only [if_neg hk4, hDD])
      have HDo := (show Hid (∀ u, Below w3.heap.size w3 u → Calls Tryz.prog 80 #[vl, .agg #[.int .i64 o.1, un, ua, ub, .int .i64 o.2.2.2.2], .int .i64 x.1, .int .i64 n] u fun e w' => ∃ ai ni ci ax cx, e = .returned (.tuple #[.slice ai ni ci, .agg #[.int .i64 D.2.1, .slice ax D.2.2.length cx]]) ∧ LB OLea 75 3 B w' (.slice ai ni ci) D.1 ∧ OT (From w3.heap.size) w' (.slice ax D.2.2.length cx) D.2.2 ∧ Below w3.heap.size w3 w') from fun u hu => by
        rw [hDD]
        refine (doS_any u vl ls ((Rz.rl q23).mv mov_lea hu.size (Mv.below hu)) (sz_leas g2) _ o (mov_op _ _ _ _ _ _ o3 hu.size (Mv.below hu)) HZO.out x.1 n).mono ?_
        rintro e w' ⟨v', vv, rfl, l1, t1, hb'⟩
        obtain ⟨ai, ci, rfl, _⟩ := (Rz.rl l1).form
        obtain ⟨ax, cx, rfl, _⟩ := t1.rt.form
        exact ⟨ai, _, ci, ax, cx, rfl, l1.weak mov_olea (Nat.le_trans hB (Nat.le_trans T3.size hu.size)), t1.mv (Mv.weak hu.size), below_and hu (Nat.le_refl _) hb'⟩)
      have hd : decide (o.1 ≤ 4) = false := by simp; omega
      clear hrd' hDD hk4
      go_upto_region 7 with fail
      have SK := (show Hid (∀ u, Below w3.heap.size w3 u → (u.cell? ⟨b, 2, none⟩ = some vl ∧ u.frozen? ⟨b, 2, none⟩ = false ∧ u.cell? ⟨b, 0, none⟩ = some (.int .i64 n) ∧ u.cell? ⟨w.heap.size, 0, none⟩ = some (.int .i64 x.1)) ∧ u.cell? ⟨b2, 0, none⟩ = some (.int .i64 o.1) ∧ u.cell? ⟨b2, 1, none⟩ = some un ∧ u.cell? ⟨b2, 2, none⟩ = some ua ∧ u.cell? ⟨b2, 3, none⟩ = some ub ∧ u.cell? ⟨b2, 4, none⟩ = some (.int .i64 o.2.2.2.2) ∧ (u.cell? ⟨b3, 0, none⟩ = some (.int .i64 0) ∧ u.cell? ⟨b3, 1, none⟩ = some (.slice none 0 0) ∧ u.frozen? ⟨b3, 0, none⟩ = false ∧ u.frozen? ⟨b3, 1, none⟩ = false)) from fun u hu => ⟨⟨(r3.below hu).cell (j := 2) rfl, (r3.below hu).frozen 2, (r3.below hu).cell (j := 0) rfl, (ra3.below hu).cell (j := 0) rfl⟩, (y3.below hu).cell (j := 0) rfl, (y3.below hu).cell (j := 1) rfl, (y3.below hu).cell (j := 2) rfl, (y3.below hu).cell (j := 3) rfl, (y3.below hu).cell (j := 4) rfl, (z3.below hu).cell (j := 0) rfl, (z3.below hu).cell (j := 1) rfl, (z3.below hu).frozen 0, (z3.below hu).frozen 1⟩)
      obtain ⟨⟨C1, F1, N0, X0⟩, D0, D1, D2, D3, D4, E0, E1, F2, F3⟩ := SK.out w3 (Below.refl _ _)
      go_region_law (go_simp; go_at_call 80; refine (HDo.out _ (by first | exact Below.refl _ _ | exact hdw)).mono ?_; rintro e w4 ⟨ai, ni, ci, ax, cx, rfl, hL4, ht4, hb4⟩; obtain ⟨⟨C1, F1, N0, X0⟩, D0, D1, D2, D3, D4, E0, E1, F2, F3⟩ := SK.out w4 hb4)
      all_goals (
        have r4 := r3.below hb4
        obtain ⟨r7, z7, hk7, hs7, e1, e2, e3⟩ := do_set r4 (z3.below hb4) hbb3 2 (.slice ai ni ci) (.int .i64 D.2.1) (.slice ax D.2.2.length cx)
        have rr7 := (hk7 _ (rr3.below hb4).lt (by omega) (by omega)).trans (rr3.below hb4)
        generalize ((w4.setCell ⟨b, 2, none⟩ (.slice ai ni ci)).setCell ⟨b3, 0, none⟩ (.int .i64 D.2.1)).setCell ⟨b3, 1, none⟩ (.slice ax D.2.2.length cx) = w7 at *
        have R7 := (show Hid _ from hk7)
        clear hk7 C1 F1 N0 X0 D0 D1 D2 D3 D4 E0 E1 F2 F3 d0
        go_wp2_with (first
          | (refine wl_load rfl _ _ rfl b3 rfl _ _ z7 _ Tryz.underlying30 rfl (by kernel_rfl) ?_)
          | (refine wl_store rfl _ _ _ rfl (w.heap.size + 1) [.int .i64 D.2.1, .slice ax D.2.2.length cx] rfl rfl _ _ rr7 rfl (by kernel_rfl) (one_res rfl) ?_; intro w8 hr8 hg8))
        refine bodyPost_ret (v := .agg ([.int .i64 D.2.1, .slice ax D.2.2.length cx] : List Value).toArray) (results_cell_row rfl _ _ (w.heap.size + 1) _ _ (0, 0) _ (by rfl) hr8.out Tryz.underlying30 rfl (by kernel_rfl)) rfl ?_
        exact FIN.out HD.out ht4 (q13.below mov_oent hb4) hL4 hb4 r7 R7.out hs7 e1 e2 e3 hg8)
end Go.Proofs.YteafgdidjdfiiaaGreat
end
