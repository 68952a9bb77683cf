/- The document's Apply. (Made by mk9a.py.) -/
import Derived.Test.YtejkkhlblnepeaaGreatXB
import Derived.Deep.Cut
import Derived.Deep.RegionLaw
import Derived.Deep.QuietTactic
import Derived.BigQuiet
import Derived.Test.YtejkkhlblnepeaaGreatRB
import Derived.Test.YtejkkhlblnepeaaGreatRP
import Derived.Test.YtejkkhlblnepeaaGreatRG
import Derived.Test.YtejkkhlblnepeaaGreatKv
import Derived.Test.YtejkkhlblnepeaaGreatSQ
import Derived.Test.YtejkkhlblnepeaaGreatXH
section
set_option linter.unusedVariables false
set_option linter.unusedSimpArgs false
namespace Go.Proofs.YtejkkhlblnepeaaGreat
open Go.RowKit Oct Kvl

/-- The end of the document's Apply. -/
def RapG (GG : Nat → Prop) (w : World) (x : PApp × (Int × List Int) × Bool) (e : Ending) (w' : World) : Prop :=
  ∃ row vv, e = .returned (.tuple #[.agg row.toArray, .agg #[.int .i64 x.2.1.1, vv], .bool x.2.2]) ∧ RApp GG w' row x.1 ∧ RT GG w' vv x.2.1.2 ∧ Below w.heap.size w w'
/-- Blocks of which GG holds, but for the call's five boxes. -/
theorem rt_low {G : Nat → Prop} {w : World} {v : Value} {l : List Int} (h : RT G w v l) : RT (fun k => G k ∧ k < w.heap.size) w v l := rt_rng h
theorem sesA_rng (G : Nat → Prop) (w : World) (r : List Value) (a : PEnt) (h : RSes G w r a) : RSes (fun k => G k ∧ k < w.heap.size) w r a := by
  obtain ⟨c, d, k, x, l, e, h1, h2⟩ := h
  exact ⟨c, d, k, x, l, e, rt_rng h1, h2⟩
theorem rapp_low {G : Nat → Prop} {w : World} {r : List Value} {a : PApp} (h : RApp G w r a) : RApp (fun k => G k ∧ k < w.heap.size) w r a := by
  obtain ⟨ve, vl, vs, e, h1, h2, h3⟩ := h
  exact ⟨ve, vl, vs, e, rl_rng ent_rng h1, rl_rng lea_rng h2, rl_rng sesA_rng h3⟩
def HG (GG : Nat → Prop) (w : World) : Nat → Prop := fun k => GG k ∧ (k < w.heap.size ∨ w.heap.size + 5 ≤ k)
/-- .. and but for two boxes more. -/
def HG2 (GG : Nat → Prop) (w : World) (b c : Nat) : Nat → Prop := fun k => HG GG w k ∧ k ≠ b ∧ k ≠ c
theorem op_three (es ls : List PEnt) (x : PReq) (n : Int) :
    (errR x.2.2.1 = 71 ∧ opA es ls x n = (es, ls, 5, [])) ∨ (errR x.2.2.1 = 0 ∧ (opR x.2.2.1).1 ≤ 4 ∧ opA es ls x n = ((doL es (opR x.2.2.1)).1, ls, (doL es (opR x.2.2.1)).2)) ∨ (errR x.2.2.1 = 0 ∧ 4 < (opR x.2.2.1).1 ∧ opA es ls x n = (es, (doS ls (opR x.2.2.1) x.1 n).1, (doS ls (opR x.2.2.1) x.1 n).2)) := by
  unfold opA opR errR
  cases rdO x.2.2.1 with
  | none => exact .inl ⟨rfl, rfl⟩
  | some o =>
    by_cases h : o.1 ≤ 4
    · exact .inr (.inl ⟨rfl, h, if_pos h⟩)
    · exact .inr (.inr ⟨rfl, Int.not_le.1 h, if_neg h⟩)
theorem isZ_eq (x : PReq) : x = (0, 0, [], []) ↔ isZ x := by
  constructor
  · rintro rfl; exact ⟨rfl, rfl, rfl, rfl⟩
  · rintro ⟨h1, h2, h3, h4⟩; obtain ⟨a, b, c, d⟩ := x; simp only at h1 h2 h3 h4; rw [h1, h2, h3, h4]

set_option maxRecDepth 10000 in
set_option maxHeartbeats 16000000 in
/-- The document's Apply. -/
theorem refApply_any {GG : Nat → Prop} (w : World) (hGG : ∀ k, w.heap.size ≤ k → GG k) (row : List Value) (a : PApp) (h : RApp GG w row a) (r : List Value) (x : PReq) (hx : RReq GG w r x) (hz : szQ x) :
    Calls Tryz.prog 9 #[.agg row.toArray, .agg r.toArray] w (RapG GG w (applyA a x)) := by
  have le := Nat.le_refl w.heap.size
  have HGG := (show Hid (∀ k, w.heap.size ≤ k → GG k) from hGG)
  have hwf := h.wf
  obtain ⟨ve, vl, vs, rfl, h1, h2, h3⟩ := h
  obtain ⟨ae, ce, rfl, _⟩ := h1.form
  obtain ⟨al, cl, rfl, _⟩ := h2.form
  obtain ⟨an, cn, rfl, _⟩ := h3.form
  generalize hne : a.2.1.length = ne at *
  generalize hnl : a.2.2.1.length = nl at *
  generalize hnn : a.2.2.2.length = nn at *
  clear hne hnl hnn
  have mvL : Mv GG (HG GG w) w w := fun k hk hlt => ⟨rfl, hk, .inl hlt⟩
  have mvX : Mv GG (fun k => GG k ∧ k < w.heap.size) w w := fun k hk hlt => ⟨rfl, hk, hlt⟩
  have HAL := (show Hid (∀ (u : World), Below w.heap.size w u → RL REnt 2 (fun k => GG k ∧ k < w.heap.size) u (.slice ae ne ce) a.2.1 ∧ RL RLea 3 (fun k => GG k ∧ k < w.heap.size) u (.slice al nl cl) a.2.2.1 ∧ RL RSes 4 (fun k => GG k ∧ k < w.heap.size) u (.slice an nn cn) a.2.2.2) from fun u hu => ⟨(h1.mv mov_ent (Nat.le_refl _) mvX).mv mov_ent hu.size (Mv.belowG hu), (h2.mv mov_lea (Nat.le_refl _) mvX).mv mov_lea hu.size (Mv.belowG hu), (h3.mv mov_ses (Nat.le_refl _) mvX).mv mov_ses hu.size (Mv.belowG hu)⟩)
  clear mvX
  have HZ := (show Hid (szQ x) from hz)
  have HA := (show Hid (∀ (u : World) (n : Int), Below w.heap.size w u → RApp (HG GG w) u [.int .i64 n, .slice ae ne ce, .slice al nl cl, .slice an nn cn] (n, a.2)) from fun u n hu => ⟨_, _, _, rfl, (h1.mv mov_ent (Nat.le_refl _) mvL).mv mov_ent hu.size (Mv.belowG hu), (h2.mv mov_lea (Nat.le_refl _) mvL).mv mov_lea hu.size (Mv.belowG hu), (h3.mv mov_ses (Nat.le_refl _) mvL).mv mov_ses hu.size (Mv.belowG hu)⟩)
  have HAA := (show Hid (∀ (u : World) (n : Int), Below w.heap.size w u → RApp Any u [.int .i64 n, .slice ae ne ce, .slice al nl cl, .slice an nn cn] (n, a.2)) from fun u n hu => mov_app _ _ _ _ _ _ (HA.out u n hu) (Nat.le_refl _) Mv.any)
  obtain ⟨vo, vg, rfl, ho, hg⟩ := hx
  obtain ⟨ao, co, rfl, _⟩ := ho.form
  obtain ⟨ag, cg, rfl, _⟩ := hg.form
  have HQo := (show Hid (∀ u, Below w.heap.size w u → Rd u (.slice ao x.2.2.1.length co) x.2.2.1) from fun u hu => (ho.mv (Mv.belowG hu)).1)
  have HQ := (show Hid (∀ u, Below w.heap.size w u → RReq Any u [.int .i64 x.1, .int .i64 x.2.1, .slice ao x.2.2.1.length co, .slice ag x.2.2.2.length cg] x) from fun u hu => ⟨_, _, rfl, (ho.mv (Mv.belowG hu)).weak, (hg.mv (Mv.belowG hu)).weak⟩)
  generalize hno : x.2.2.1.length = no at *
  generalize hng : x.2.2.2.length = ng at *
  clear hno hng
  obtain ⟨w0, hw0⟩ : ∃ w0, w0 = ((((w.alloc (.cells #[.int .i64 a.1, .slice ae ne ce, .slice al nl cl, .slice an nn cn] 26)).alloc (.cells #[.int .i64 x.1, .int .i64 x.2.1, .slice ao no co, .slice ag ng cg] 29)).alloc (.cells #[.int .i64 0, .slice none 0 0, .slice none 0 0, .slice none 0 0] 26)).alloc (.cells #[.int .i64 0, .slice none 0 0] 34)).alloc (.cells #[.int .i64 5, .slice none 0 0] 34) := ⟨_, rfl⟩
  have ra : Row w0 w.heap.size 26 [.int .i64 a.1, .slice ae ne ce, .slice al nl cl, .slice an nn cn] := by rw [hw0]; exact rowA (rowA (rowA (rowA (Row.new w _ _) _) _) _) _
  have rq : Row w0 (w.heap.size + 1) 29 [.int .i64 x.1, .int .i64 x.2.1, .slice ao no co, .slice ag ng cg] := by
    rw [hw0]; refine rowA (rowA (rowA ?_ _) _) _
    have := Row.new (w.alloc (.cells #[.int .i64 a.1, .slice ae ne ce, .slice al nl cl, .slice an nn cn] 26)) 29 [.int .i64 x.1, .int .i64 x.2.1, .slice ao no co, .slice ag ng cg]
    simpa using this
  have rs : Row w0 (w.heap.size + 1 + 1) 26 [.int .i64 0, .slice none 0 0, .slice none 0 0, .slice none 0 0] := by
    rw [hw0]; refine rowA (rowA ?_ _) _
    have := Row.new ((w.alloc (.cells #[.int .i64 a.1, .slice ae ne ce, .slice al nl cl, .slice an nn cn] 26)).alloc (.cells #[.int .i64 x.1, .int .i64 x.2.1, .slice ao no co, .slice ag ng cg] 29)) 26 [.int .i64 0, .slice none 0 0, .slice none 0 0, .slice none 0 0]
    simpa using this
  have rr : Row w0 (w.heap.size + 1 + 1 + 1) 34 [.int .i64 0, .slice none 0 0] := by
    rw [hw0]; refine rowA ?_ _
    have := Row.new (((w.alloc (.cells #[.int .i64 a.1, .slice ae ne ce, .slice al nl cl, .slice an nn cn] 26)).alloc (.cells #[.int .i64 x.1, .int .i64 x.2.1, .slice ao no co, .slice ag ng cg] 29)).alloc (.cells #[.int .i64 0, .slice none 0 0, .slice none 0 0, .slice none 0 0] 26)) 34 [.int .i64 0, .slice none 0 0]
    simpa using this
  have rb : Row w0 (w.heap.size + 1 + 1 + 1 + 1) 34 [.int .i64 5, .slice none 0 0] := by
    rw [hw0]
    have := Row.new ((((w.alloc (.cells #[.int .i64 a.1, .slice ae ne ce, .slice al nl cl, .slice an nn cn] 26)).alloc (.cells #[.int .i64 x.1, .int .i64 x.2.1, .slice ao no co, .slice ag ng cg] 29)).alloc (.cells #[.int .i64 0, .slice none 0 0, .slice none 0 0, .slice none 0 0] 26)).alloc (.cells #[.int .i64 0, .slice none 0 0] 34)) 34 [.int .i64 5, .slice none 0 0]
    simpa using this
  have B0 : Below w.heap.size w w0 := by rw [hw0]; exact below_and (below_and (below_and (below_and (below_alloc _ _) le (below_alloc _ _)) le (below_alloc _ _)) le (below_alloc _ _)) le (below_alloc _ _)
  have hs0 : w0.heap.size = w.heap.size + 5 := by rw [hw0]; simp
  have FIN := (show Hid (∀ {wz z1 Z : World} {row : List Value} {vv : Value} {S : PApp × (Int × List Int) × Bool}, applyA a x = S → RApp (HG GG w) wz row S.1 → RT (HG GG w) wz vv S.2.1.2 → Below w.heap.size w wz → wz.grownBy z1 (some (w.heap.size + 1 + 1)) → z1.grownBy Z (some (w.heap.size + 1 + 1 + 1)) → RapG GG w (applyA a x) (.returned (.tuple #[.agg row.toArray, .agg #[.int .i64 S.2.1.1, vv], .bool S.2.2])) Z) from fun {wz z1 Z row vv S} e rA rV hb gA gB => by
    rw [e]
    have mA : Mv (HG GG w) (HG GG w) wz z1 := fun k hk hlt => ⟨gA.block k hlt (fun e => by injection e with e; rcases hk.2 with h | h <;> omega), hk⟩
    have mB : Mv (HG GG w) GG z1 Z := fun k hk hlt => ⟨gB.block k hlt (fun e => by injection e with e; rcases hk.2 with h | h <;> omega), hk.1⟩
    exact ⟨_, _, rfl, mov_app _ _ _ _ _ _ (mov_app _ _ _ _ _ _ rA gA.size mA) gB.size mB, (rV.mv mA).mv mB, (hb.trans (grown_below gA hb.size (fun k hk => by cases hk; omega))).trans (grown_below gB (Nat.le_trans hb.size gA.size) (fun k hk => by cases hk; omega))⟩)
  clear h1 h2 h3 ho hg mvL hGG
  go_enter Tryz.func9, Tryz.ntmps9
  go_upto_region 2 with fail
  rw [← hw0]
  clear hw0
  have ea : (a.1, a.2) = a := rfl
  have hR := refRightA_any w0 _ a (by have := HAA.out w0 a.1 B0; exact this)
  have c0 := ra.cell (j := 0) rfl
  by_cases hr : rgtA a
  rotate_left
  · rw [decide_eq_false hr] at hR
    have HN := (show Hid (applyA a x = (a, (5, []), false)) by show _ = _; unfold applyA; rw [if_neg (fun h => hr h.1)])
    clear hr
    go_upto_region 3 with (first
      | (refine wl_load rfl _ _ rfl w.heap.size rfl _ _ ra _ Tryz.underlying26 rfl (by kernel_rfl) ?_)
      | (go_at_call 13; refine hR.mono ?_; rintro e w1 ⟨rfl, hb1⟩))
    have ra1 := ra.below hb1
    have rs1 := rs.below hb1
    have rr1 := rr.below hb1
    have rb1 := rb.below hb1
    have B1 := below_and B0 le hb1
    clear c0
    have i0 := ra1.cell (j := 0) rfl
    have i1 := ra1.cell (j := 1) rfl
    have i2 := ra1.cell (j := 2) rfl
    have i3 := ra1.cell (j := 3) rfl
    have j0 := rb1.cell (j := 0) rfl
    have j1 := rb1.cell (j := 1) rfl
    have m0 := rs1.cell (j := 0) rfl
    have m1 := rs1.cell (j := 1) rfl
    have m2 := rs1.cell (j := 2) rfl
    have m3 := rs1.cell (j := 3) rfl
    have n0 := rr1.cell (j := 0) rfl
    have n1 := rr1.cell (j := 1) rfl
    have f0 := rs1.frozen 0
    have f1 := rs1.frozen 1
    have f2 := rs1.frozen 2
    have f3 := rs1.frozen 3
    have f4 := rr1.frozen 0
    have f5 := rr1.frozen 1
    have ROWS := (show Hid (Row w1 (w.heap.size + 1 + 1) 26 [.int .i64 0, .slice none 0 0, .slice none 0 0, .slice none 0 0] ∧ Row w1 (w.heap.size + 1 + 1 + 1) 34 [.int .i64 0, .slice none 0 0]) from ⟨rs1, rr1⟩)
    go_region
    all_goals (
      obtain ⟨z1, gA, gB, _, rA, rB⟩ := two_rowsS ROWS.out.1 ROWS.out.2 (by omega) (.int .i64 a.1) (.slice ae ne ce) (.slice al nl cl) (.slice an nn cn) (.int .i64 5) (.slice none 0 0)
      clear ROWS i0 i1 i2 i3 j0 j1 m0 m1 m2 m3 n0 n1 f0 f1 f2 f3 f4 f5
      generalize ((((((w1.setCell ⟨w.heap.size + 1 + 1, 0, none⟩ (.int .i64 a.1)).setCell ⟨w.heap.size + 1 + 1, 1, none⟩ (.slice ae ne ce)).setCell ⟨w.heap.size + 1 + 1, 2, none⟩ (.slice al nl cl)).setCell ⟨w.heap.size + 1 + 1, 3, none⟩ (.slice an nn cn)).setCell ⟨w.heap.size + 1 + 1 + 1, 0, none⟩ (.int .i64 5)).setCell ⟨w.heap.size + 1 + 1 + 1, 1, none⟩ (.slice none 0 0)).drew = z at *
      go_wp2_with fail
      refine bodyPost_ret (results_cct rfl _ _ (w.heap.size + 1 + 1) (w.heap.size + 1 + 1 + 1) _ _ _ _ (0, 0) (0, 0) _ _ (by rfl) (by rfl) rA rB Tryz.underlying26 rfl (by kernel_rfl) Tryz.underlying34 rfl (by kernel_rfl)) rfl ?_
      exact FIN.out HN.out (HA.out w1 a.1 B1) (RT.nil _ _) B1 gA gB)
  rw [decide_eq_true hr] at hR
  by_cases hm : a.1 = 1000000
  · have hm' : (a.1 == 1000000) = true := by simp [hm]
    have HN := (show Hid (applyA a x = (a, (5, []), false)) by show _ = _; unfold applyA; rw [if_neg (fun h => by have := h.2; omega)])
    clear hr hm
    go_upto_region 3 with (first
      | (refine wl_load rfl _ _ rfl w.heap.size rfl _ _ ra _ Tryz.underlying26 rfl (by kernel_rfl) ?_)
      | (go_at_call 13; refine hR.mono ?_; rintro e w1 ⟨rfl, hb1⟩; have c0 := (ra.below hb1).cell (j := 0) rfl))
    have ra1 := ra.below hb1
    have rs1 := rs.below hb1
    have rr1 := rr.below hb1
    have rb1 := rb.below hb1
    have B1 := below_and B0 le hb1
    clear c0
    have i0 := ra1.cell (j := 0) rfl
    have i1 := ra1.cell (j := 1) rfl
    have i2 := ra1.cell (j := 2) rfl
    have i3 := ra1.cell (j := 3) rfl
    have j0 := rb1.cell (j := 0) rfl
    have j1 := rb1.cell (j := 1) rfl
    have m0 := rs1.cell (j := 0) rfl
    have m1 := rs1.cell (j := 1) rfl
    have m2 := rs1.cell (j := 2) rfl
    have m3 := rs1.cell (j := 3) rfl
    have n0 := rr1.cell (j := 0) rfl
    have n1 := rr1.cell (j := 1) rfl
    have f0 := rs1.frozen 0
    have f1 := rs1.frozen 1
    have f2 := rs1.frozen 2
    have f3 := rs1.frozen 3
    have f4 := rr1.frozen 0
    have f5 := rr1.frozen 1
    have ROWS := (show Hid (Row w1 (w.heap.size + 1 + 1) 26 [.int .i64 0, .slice none 0 0, .slice none 0 0, .slice none 0 0] ∧ Row w1 (w.heap.size + 1 + 1 + 1) 34 [.int .i64 0, .slice none 0 0]) from ⟨rs1, rr1⟩)
    go_region
    all_goals (
      obtain ⟨z1, gA, gB, _, rA, rB⟩ := two_rowsS ROWS.out.1 ROWS.out.2 (by omega) (.int .i64 a.1) (.slice ae ne ce) (.slice al nl cl) (.slice an nn cn) (.int .i64 5) (.slice none 0 0)
      clear ROWS i0 i1 i2 i3 j0 j1 m0 m1 m2 m3 n0 n1 f0 f1 f2 f3 f4 f5
      generalize ((((((w1.setCell ⟨w.heap.size + 1 + 1, 0, none⟩ (.int .i64 a.1)).setCell ⟨w.heap.size + 1 + 1, 1, none⟩ (.slice ae ne ce)).setCell ⟨w.heap.size + 1 + 1, 2, none⟩ (.slice al nl cl)).setCell ⟨w.heap.size + 1 + 1, 3, none⟩ (.slice an nn cn)).setCell ⟨w.heap.size + 1 + 1 + 1, 0, none⟩ (.int .i64 5)).setCell ⟨w.heap.size + 1 + 1 + 1, 1, none⟩ (.slice none 0 0)).drew = z at *
      go_wp2_with fail
      refine bodyPost_ret (results_cct rfl _ _ (w.heap.size + 1 + 1) (w.heap.size + 1 + 1 + 1) _ _ _ _ (0, 0) (0, 0) _ _ (by rfl) (by rfl) rA rB Tryz.underlying26 rfl (by kernel_rfl) Tryz.underlying34 rfl (by kernel_rfl)) rfl ?_
      exact FIN.out HN.out (HA.out w1 a.1 B1) (RT.nil _ _) B1 gA gB)
  have hm' : (a.1 == 1000000) = false := by simp [hm]
  have hgo : goA a := ⟨hr, by have := hr.1.2; omega⟩
  have hn0 : 0 ≤ a.1 := hr.1.1
  have hn1 : a.1 < 1000000 := hgo.2
  have HAP := (show Hid (applyA a x = stepA a x) by show _ = _; unfold applyA; rw [if_pos hgo])
  have HRG := (show Hid (rgtA a) from hr)
  clear hm hgo hr
  go_upto_region 4 with (first
    | (refine wl_load rfl _ _ rfl w.heap.size rfl _ _ ra _ Tryz.underlying26 rfl (by kernel_rfl) ?_)
    | (go_at_call 13; refine hR.mono ?_; rintro e w1 ⟨rfl, hb1⟩; have c0 := (ra.below hb1).cell (j := 0) rfl))
  have ra1 := ra.below hb1
  have c0 := ra1.cell (j := 0) rfl
  go_upto_region 5 with (refine wl_set rfl _ _ _ rfl w.heap.size 0 _ rfl rfl _ _ ra1 (show 0 < 4 by decide) (by kernel_rfl) rfl ?_; intro w2 hr2 hg2)
  have ra2 : Row w2 w.heap.size 26 [.int .i64 (a.1 + 1), .slice ae ne ce, .slice al nl cl, .slice an nn cn] := hr2.out
  have rq2 := (rq.below hb1).grown hg2 (fun e => by injection e with e; omega)
  have rs2 := (rs.below hb1).grown hg2 (fun e => by injection e with e; omega)
  have rr2 := (rr.below hb1).grown hg2 (fun e => by injection e with e; omega)
  have rb2 := (rb.below hb1).grown hg2 (fun e => by injection e with e; omega)
  have B1 := below_and B0 le hb1
  have B2 : Below w.heap.size w w2 := B1.trans (grown_below hg2 B1.size (fun k hk => by cases hk; omega))
  have hs2 : w.heap.size + 5 ≤ w2.heap.size := by have := rb2.lt; omega
  have hSQ := sameReq_any w2 [.int .i64 x.1, .int .i64 x.2.1, .slice ao no co, .slice ag ng cg] [.int .i64 0, .int .i64 0, .slice none 0 0, .slice none 0 0] x (0, 0, [], []) (HQ.out w2 B2) ⟨_, _, rfl, RT.nil _ _, RT.nil _ _⟩
  clear hR c0 hr2 hg2 ra1 ra rq rs rr rb hb1 B1 B0
  by_cases hzz : isZ x
  · rw [decide_eq_true ((isZ_eq x).2 hzz)] at hSQ
    have HN := (show Hid (applyA a x = ((a.1 + 1, a.2), (0, []), false)) by show _ = _; rw [HAP.out]; unfold stepA; rw [if_pos hzz])
    clear hzz
    go_upto_region 6 with (first
      | (refine wl_load rfl _ _ rfl (w.heap.size + 1) rfl _ _ rq2 _ Tryz.underlying29 rfl (by kernel_rfl) ?_)
      | (go_at_call 16; refine hSQ.mono ?_; rintro e w3 ⟨rfl, hb3⟩))
    have ra3 := ra2.below hb3
    have rs3 := rs2.below hb3
    have rr3 := rr2.below hb3
    have B3 := below_and B2 le hb3
    go_wp2_with (first
      | fail
      | (refine wl_load rfl _ _ rfl w.heap.size rfl _ _ ra3 _ Tryz.underlying26 rfl (by kernel_rfl) ?_)
      | (refine wl_store rfl _ _ _ rfl (w.heap.size + 1 + 1) [.int .i64 (a.1 + 1), .slice ae ne ce, .slice al nl cl, .slice an nn cn] rfl rfl _ _ rs3 rfl (by kernel_rfl) (onA4 rfl rfl rfl) ?_; intro wA hrA gA; have rrA := rr3.grown gA (fun e => by injection e with e; omega))
      | (refine wl_store rfl _ _ _ rfl (w.heap.size + 1 + 1 + 1) [.int .i64 0, .slice none 0 0] rfl rfl _ _ rrA rfl (by kernel_rfl) (one_res rfl) ?_; intro wB hrB gB; have rsB := hrA.out.grown gB (fun e => by injection e with e; omega)))
    refine bodyPost_ret (results_cct rfl _ _ (w.heap.size + 1 + 1) (w.heap.size + 1 + 1 + 1) _ _ _ _ (0, 0) (0, 0) _ _ (by rfl) (by rfl) rsB hrB.out Tryz.underlying26 rfl (by kernel_rfl) Tryz.underlying34 rfl (by kernel_rfl)) rfl ?_
    exact FIN.out HN.out (HA.out w3 (a.1 + 1) B3) (RT.nil _ _) B3 gA gB
  rw [decide_eq_false (fun h => hzz ((isZ_eq x).1 h))] at hSQ
  have HZZ := (show Hid (¬ isZ x) from hzz)
  clear hzz
  go_upto_region 7 with (first
    | (refine wl_load rfl _ _ rfl (w.heap.size + 1) rfl _ _ rq2 _ Tryz.underlying29 rfl (by kernel_rfl) ?_)
    | (go_at_call 16; refine hSQ.mono ?_; rintro e w3 ⟨rfl, hb3⟩))
  have ra3 := ra2.below hb3
  have rq3 := rq2.below hb3
  have rs3 := rs2.below hb3
  have rr3 := rr2.below hb3
  have rb3 := rb2.below hb3
  have B3 := below_and B2 le hb3
  have hs3 := Nat.le_trans hs2 hb3.size
  clear hSQ ra2 rq2 rs2 rr2 rb2 hb3 B2 hs2
  have c0 := rq3.cell (j := 0) rfl
  have c1 := rq3.cell (j := 1) rfl
  by_cases hok : okR x
  rotate_left
  · have HN := (show Hid (applyA a x = ((a.1 + 1, a.2), (5, []), false)) by show _ = _; rw [HAP.out]; unfold stepA; rw [if_neg HZZ.out, if_pos hok])
    have hcs : (x.1 < 1) ∨ (¬ x.1 < 1 ∧ 4 < x.1) ∨ (¬ x.1 < 1 ∧ ¬ 4 < x.1 ∧ x.2.1 < 1) ∨ (¬ x.1 < 1 ∧ ¬ 4 < x.1 ∧ ¬ x.2.1 < 1 ∧ 2147483647 < x.2.1) := by
      unfold okR at hok
      omega
    clear hok
    rcases hcs with h | ⟨h0, h⟩ | ⟨h0, h0', h⟩ | ⟨h0, h0', h0'', h⟩
    · skip
      have t0 : decide (x.1 < 1) = true := by simp; omega
      clear h
      go_upto_region 8 with fail
      clear c0 c1
      have i0 := ra3.cell (j := 0) rfl
      have i1 := ra3.cell (j := 1) rfl
      have i2 := ra3.cell (j := 2) rfl
      have i3 := ra3.cell (j := 3) rfl
      have j0 := rb3.cell (j := 0) rfl
      have j1 := rb3.cell (j := 1) rfl
      have m0 := rs3.cell (j := 0) rfl
      have m1 := rs3.cell (j := 1) rfl
      have m2 := rs3.cell (j := 2) rfl
      have m3 := rs3.cell (j := 3) rfl
      have n0 := rr3.cell (j := 0) rfl
      have n1 := rr3.cell (j := 1) rfl
      have f0 := rs3.frozen 0
      have f1 := rs3.frozen 1
      have f2 := rs3.frozen 2
      have f3 := rs3.frozen 3
      have f4 := rr3.frozen 0
      have f5 := rr3.frozen 1
      have ROWS := (show Hid (Row w3 (w.heap.size + 1 + 1) 26 [.int .i64 0, .slice none 0 0, .slice none 0 0, .slice none 0 0] ∧ Row w3 (w.heap.size + 1 + 1 + 1) 34 [.int .i64 0, .slice none 0 0]) from ⟨rs3, rr3⟩)
      go_region
      all_goals (
        obtain ⟨z1, gA, gB, _, rA, rB⟩ := two_rowsS ROWS.out.1 ROWS.out.2 (by omega) (.int .i64 (a.1 + 1)) (.slice ae ne ce) (.slice al nl cl) (.slice an nn cn) (.int .i64 5) (.slice none 0 0)
        clear ROWS i0 i1 i2 i3 j0 j1 m0 m1 m2 m3 n0 n1 f0 f1 f2 f3 f4 f5
        generalize ((((((w3.setCell ⟨w.heap.size + 1 + 1, 0, none⟩ (.int .i64 (a.1 + 1))).setCell ⟨w.heap.size + 1 + 1, 1, none⟩ (.slice ae ne ce)).setCell ⟨w.heap.size + 1 + 1, 2, none⟩ (.slice al nl cl)).setCell ⟨w.heap.size + 1 + 1, 3, none⟩ (.slice an nn cn)).setCell ⟨w.heap.size + 1 + 1 + 1, 0, none⟩ (.int .i64 5)).setCell ⟨w.heap.size + 1 + 1 + 1, 1, none⟩ (.slice none 0 0)).drew = z at *
        go_wp2_with fail
        refine bodyPost_ret (results_cct rfl _ _ (w.heap.size + 1 + 1) (w.heap.size + 1 + 1 + 1) _ _ _ _ (0, 0) (0, 0) _ _ (by rfl) (by rfl) rA rB Tryz.underlying26 rfl (by kernel_rfl) Tryz.underlying34 rfl (by kernel_rfl)) rfl ?_
        exact FIN.out HN.out (HA.out w3 (a.1 + 1) B3) (RT.nil _ _) B3 gA gB)
    · skip
      have t0 : decide (x.1 < 1) = false := by simp; omega
      have t1 : decide (4 < x.1) = true := by simp; omega
      clear h
      go_upto_region 8 with fail
      clear c0 c1
      have i0 := ra3.cell (j := 0) rfl
      have i1 := ra3.cell (j := 1) rfl
      have i2 := ra3.cell (j := 2) rfl
      have i3 := ra3.cell (j := 3) rfl
      have j0 := rb3.cell (j := 0) rfl
      have j1 := rb3.cell (j := 1) rfl
      have m0 := rs3.cell (j := 0) rfl
      have m1 := rs3.cell (j := 1) rfl
      have m2 := rs3.cell (j := 2) rfl
      have m3 := rs3.cell (j := 3) rfl
      have n0 := rr3.cell (j := 0) rfl
      have n1 := rr3.cell (j := 1) rfl
      have f0 := rs3.frozen 0
      have f1 := rs3.frozen 1
      have f2 := rs3.frozen 2
      have f3 := rs3.frozen 3
      have f4 := rr3.frozen 0
      have f5 := rr3.frozen 1
      have ROWS := (show Hid (Row w3 (w.heap.size + 1 + 1) 26 [.int .i64 0, .slice none 0 0, .slice none 0 0, .slice none 0 0] ∧ Row w3 (w.heap.size + 1 + 1 + 1) 34 [.int .i64 0, .slice none 0 0]) from ⟨rs3, rr3⟩)
      go_region
      all_goals (
        obtain ⟨z1, gA, gB, _, rA, rB⟩ := two_rowsS ROWS.out.1 ROWS.out.2 (by omega) (.int .i64 (a.1 + 1)) (.slice ae ne ce) (.slice al nl cl) (.slice an nn cn) (.int .i64 5) (.slice none 0 0)
        clear ROWS i0 i1 i2 i3 j0 j1 m0 m1 m2 m3 n0 n1 f0 f1 f2 f3 f4 f5
        generalize ((((((w3.setCell ⟨w.heap.size + 1 + 1, 0, none⟩ (.int .i64 (a.1 + 1))).setCell ⟨w.heap.size + 1 + 1, 1, none⟩ (.slice ae ne ce)).setCell ⟨w.heap.size + 1 + 1, 2, none⟩ (.slice al nl cl)).setCell ⟨w.heap.size + 1 + 1, 3, none⟩ (.slice an nn cn)).setCell ⟨w.heap.size + 1 + 1 + 1, 0, none⟩ (.int .i64 5)).setCell ⟨w.heap.size + 1 + 1 + 1, 1, none⟩ (.slice none 0 0)).drew = z at *
        go_wp2_with fail
        refine bodyPost_ret (results_cct rfl _ _ (w.heap.size + 1 + 1) (w.heap.size + 1 + 1 + 1) _ _ _ _ (0, 0) (0, 0) _ _ (by rfl) (by rfl) rA rB Tryz.underlying26 rfl (by kernel_rfl) Tryz.underlying34 rfl (by kernel_rfl)) rfl ?_
        exact FIN.out HN.out (HA.out w3 (a.1 + 1) B3) (RT.nil _ _) B3 gA gB)
    · skip
      have t0 : decide (x.1 < 1) = false := by simp; omega
      have t1 : decide (4 < x.1) = false := by simp; omega
      have t2 : decide (x.2.1 < 1) = true := by simp; omega
      clear h
      go_upto_region 8 with fail
      clear c0 c1
      have i0 := ra3.cell (j := 0) rfl
      have i1 := ra3.cell (j := 1) rfl
      have i2 := ra3.cell (j := 2) rfl
      have i3 := ra3.cell (j := 3) rfl
      have j0 := rb3.cell (j := 0) rfl
      have j1 := rb3.cell (j := 1) rfl
      have m0 := rs3.cell (j := 0) rfl
      have m1 := rs3.cell (j := 1) rfl
      have m2 := rs3.cell (j := 2) rfl
      have m3 := rs3.cell (j := 3) rfl
      have n0 := rr3.cell (j := 0) rfl
      have n1 := rr3.cell (j := 1) rfl
      have f0 := rs3.frozen 0
      have f1 := rs3.frozen 1
      have f2 := rs3.frozen 2
      have f3 := rs3.frozen 3
      have f4 := rr3.frozen 0
      have f5 := rr3.frozen 1
      have ROWS := (show Hid (Row w3 (w.heap.size + 1 + 1) 26 [.int .i64 0, .slice none 0 0, .slice none 0 0, .slice none 0 0] ∧ Row w3 (w.heap.size + 1 + 1 + 1) 34 [.int .i64 0, .slice none 0 0]) from ⟨rs3, rr3⟩)
      go_region
      all_goals (
        obtain ⟨z1, gA, gB, _, rA, rB⟩ := two_rowsS ROWS.out.1 ROWS.out.2 (by omega) (.int .i64 (a.1 + 1)) (.slice ae ne ce) (.slice al nl cl) (.slice an nn cn) (.int .i64 5) (.slice none 0 0)
        clear ROWS i0 i1 i2 i3 j0 j1 m0 m1 m2 m3 n0 n1 f0 f1 f2 f3 f4 f5
        generalize ((((((w3.setCell ⟨w.heap.size + 1 + 1, 0, none⟩ (.int .i64 (a.1 + 1))).setCell ⟨w.heap.size + 1 + 1, 1, none⟩ (.slice ae ne ce)).setCell ⟨w.heap.size + 1 + 1, 2, none⟩ (.slice al nl cl)).setCell ⟨w.heap.size + 1 + 1, 3, none⟩ (.slice an nn cn)).setCell ⟨w.heap.size + 1 + 1 + 1, 0, none⟩ (.int .i64 5)).setCell ⟨w.heap.size + 1 + 1 + 1, 1, none⟩ (.slice none 0 0)).drew = z at *
        go_wp2_with fail
        refine bodyPost_ret (results_cct rfl _ _ (w.heap.size + 1 + 1) (w.heap.size + 1 + 1 + 1) _ _ _ _ (0, 0) (0, 0) _ _ (by rfl) (by rfl) rA rB Tryz.underlying26 rfl (by kernel_rfl) Tryz.underlying34 rfl (by kernel_rfl)) rfl ?_
        exact FIN.out HN.out (HA.out w3 (a.1 + 1) B3) (RT.nil _ _) B3 gA gB)
    · skip
      have t0 : decide (x.1 < 1) = false := by simp; omega
      have t1 : decide (4 < x.1) = false := by simp; omega
      have t2 : decide (x.2.1 < 1) = false := by simp; omega
      have t3 : decide (2147483647 < x.2.1) = true := by simp; omega
      clear h
      go_upto_region 8 with fail
      clear c0 c1
      have i0 := ra3.cell (j := 0) rfl
      have i1 := ra3.cell (j := 1) rfl
      have i2 := ra3.cell (j := 2) rfl
      have i3 := ra3.cell (j := 3) rfl
      have j0 := rb3.cell (j := 0) rfl
      have j1 := rb3.cell (j := 1) rfl
      have m0 := rs3.cell (j := 0) rfl
      have m1 := rs3.cell (j := 1) rfl
      have m2 := rs3.cell (j := 2) rfl
      have m3 := rs3.cell (j := 3) rfl
      have n0 := rr3.cell (j := 0) rfl
      have n1 := rr3.cell (j := 1) rfl
      have f0 := rs3.frozen 0
      have f1 := rs3.frozen 1
      have f2 := rs3.frozen 2
      have f3 := rs3.frozen 3
      have f4 := rr3.frozen 0
      have f5 := rr3.frozen 1
      have ROWS := (show Hid (Row w3 (w.heap.size + 1 + 1) 26 [.int .i64 0, .slice none 0 0, .slice none 0 0, .slice none 0 0] ∧ Row w3 (w.heap.size + 1 + 1 + 1) 34 [.int .i64 0, .slice none 0 0]) from ⟨rs3, rr3⟩)
      go_region
      all_goals (
        obtain ⟨z1, gA, gB, _, rA, rB⟩ := two_rowsS ROWS.out.1 ROWS.out.2 (by omega) (.int .i64 (a.1 + 1)) (.slice ae ne ce) (.slice al nl cl) (.slice an nn cn) (.int .i64 5) (.slice none 0 0)
        clear ROWS i0 i1 i2 i3 j0 j1 m0 m1 m2 m3 n0 n1 f0 f1 f2 f3 f4 f5
        generalize ((((((w3.setCell ⟨w.heap.size + 1 + 1, 0, none⟩ (.int .i64 (a.1 + 1))).setCell ⟨w.heap.size + 1 + 1, 1, none⟩ (.slice ae ne ce)).setCell ⟨w.heap.size + 1 + 1, 2, none⟩ (.slice al nl cl)).setCell ⟨w.heap.size + 1 + 1, 3, none⟩ (.slice an nn cn)).setCell ⟨w.heap.size + 1 + 1 + 1, 0, none⟩ (.int .i64 5)).setCell ⟨w.heap.size + 1 + 1 + 1, 1, none⟩ (.slice none 0 0)).drew = z at *
        go_wp2_with fail
        refine bodyPost_ret (results_cct rfl _ _ (w.heap.size + 1 + 1) (w.heap.size + 1 + 1 + 1) _ _ _ _ (0, 0) (0, 0) _ _ (by rfl) (by rfl) rA rB Tryz.underlying26 rfl (by kernel_rfl) Tryz.underlying34 rfl (by kernel_rfl)) rfl ?_
        exact FIN.out HN.out (HA.out w3 (a.1 + 1) B3) (RT.nil _ _) B3 gA gB)
  have HOK := (show Hid (okR x) from hok)
  have t0 : decide (x.1 < 1) = false := by have := hok.1.1; simp; omega
  have t1 : decide (4 < x.1) = false := by have := hok.1.2; simp; omega
  have t2 : decide (x.2.1 < 1) = false := by have := hok.2.1; simp; omega
  have t3 : decide (2147483647 < x.2.1) = false := by have := hok.2.2; simp; omega
  clear hok
  obtain ⟨LV, hLV⟩ : ∃ LV, LV = lasN a.2.2.2 x.1 := ⟨_, rfl⟩
  have HLV := (show Hid (LV = lasN a.2.2.2 x.1) from hLV)
  have hL := refLast_any (GG := fun k => HG GG w k ∧ k < w3.heap.size) w3 [.int .i64 (a.1 + 1), .slice ae ne ce, .slice al nl cl, .slice an nn cn] (a.1 + 1, a.2) (rapp_low (HA.out w3 (a.1 + 1) B3)) x.1 (fun k hk => by have := hk.2; omega)
  rw [show lasN ((a.1 + 1, a.2) : PApp).2.2.2 x.1 = LV from hLV.symm] at hL
  clear hLV
  go_upto_region 10 with (first
    | (refine wl_load rfl _ _ rfl w.heap.size rfl _ _ ra3 _ Tryz.underlying26 rfl (by kernel_rfl) ?_)
    | (go_at_call 11; refine hL.mono ?_; rintro e w4 ⟨vv4, rfl, v4, hb4⟩; have n4 := Row.new w4 34 [.int .i64 0, .slice none 0 0])
    | (refine wl_store rfl _ _ _ rfl w4.heap.size [.int .i64 LV.2.1, vv4] rfl rfl _ _ n4 rfl (by kernel_rfl) (one_res v4.one) ?_; intro w5 hr5 hg5))
  obtain ⟨av, cv, rfl, _⟩ := v4.form
  have r9 : Row w5 w4.heap.size 34 [.int .i64 LV.2.1, .slice av LV.2.2.length cv] := hr5.out
  have b45 : Below w4.heap.size w4 w5 := (below_alloc w4 _).trans (grown_below hg5 (by simp) (fun k hk => by cases hk; exact Nat.le_refl _))
  have b35 := below_and hb4 (Nat.le_refl _) b45
  have v5 := v4.mv (Mv.belowG b45)
  obtain ⟨b9, hb9⟩ : ∃ b9, b9 = w4.heap.size := ⟨_, rfl⟩
  rw [← hb9] at r9 ⊢
  have hl9 : w3.heap.size ≤ b9 := by rw [hb9]; exact hb4.size
  have ra5 := ra3.below b35
  have rq5 := rq3.below b35
  have rs5 := rs3.below b35
  have rr5 := rr3.below b35
  have rb5 := rb3.below b35
  have B5 := below_and B3 le b35
  clear hL n4 hr5 hg5 v4 b45 hb4 hb9 c0 c1 ra3 rq3 rs3 rr3 rb3 t0 t1 t2 t3
  have c1 := rq5.cell (j := 1) rfl
  have q1 : b9 ≠ w.heap.size + 1 + 1 := by omega
  have q2 : b9 ≠ w.heap.size + 1 + 1 + 1 := by omega
  have q3 : b9 ≠ w.heap.size := by omega
  by_cases e1 : x.2.1 = LV.1
  · have HN := (show Hid (applyA a x = ((a.1 + 1, a.2), (LV.2.1, LV.2.2), false)) by
      show _ = _
      rw [HAP.out]
      unfold stepA
      rw [if_neg HZZ.out, if_neg (not_not_intro HOK.out), ← HLV.out, if_pos e1])
    have e1' : (x.2.1 == LV.1) = true := by simp [e1]
    have rV := v5.mv (G' := HG GG w) (fun k hk _ => ⟨rfl, hk.1⟩)
    clear e1
    go_upto_region 11 with fail
    clear c1
    have i0 := ra5.cell (j := 0) rfl
    have i1 := ra5.cell (j := 1) rfl
    have i2 := ra5.cell (j := 2) rfl
    have i3 := ra5.cell (j := 3) rfl
    have j0 := r9.cell (j := 0) rfl
    have j1 := r9.cell (j := 1) rfl
    have m0 := rs5.cell (j := 0) rfl
    have m1 := rs5.cell (j := 1) rfl
    have m2 := rs5.cell (j := 2) rfl
    have m3 := rs5.cell (j := 3) rfl
    have n0 := rr5.cell (j := 0) rfl
    have n1 := rr5.cell (j := 1) rfl
    have f0 := rs5.frozen 0
    have f1 := rs5.frozen 1
    have f2 := rs5.frozen 2
    have f3 := rs5.frozen 3
    have f4 := rr5.frozen 0
    have f5 := rr5.frozen 1
    have ROWS := (show Hid (Row w5 (w.heap.size + 1 + 1) 26 [.int .i64 0, .slice none 0 0, .slice none 0 0, .slice none 0 0] ∧ Row w5 (w.heap.size + 1 + 1 + 1) 34 [.int .i64 0, .slice none 0 0]) from ⟨rs5, rr5⟩)
    go_region
    all_goals (
      obtain ⟨z1, gA, gB, _, rA, rB⟩ := two_rowsS ROWS.out.1 ROWS.out.2 (by omega) (.int .i64 (a.1 + 1)) (.slice ae ne ce) (.slice al nl cl) (.slice an nn cn) (.int .i64 LV.2.1) (.slice av LV.2.2.length cv)
      clear ROWS i0 i1 i2 i3 j0 j1 m0 m1 m2 m3 n0 n1 f0 f1 f2 f3 f4 f5
      generalize ((((((w5.setCell ⟨w.heap.size + 1 + 1, 0, none⟩ (.int .i64 (a.1 + 1))).setCell ⟨w.heap.size + 1 + 1, 1, none⟩ (.slice ae ne ce)).setCell ⟨w.heap.size + 1 + 1, 2, none⟩ (.slice al nl cl)).setCell ⟨w.heap.size + 1 + 1, 3, none⟩ (.slice an nn cn)).setCell ⟨w.heap.size + 1 + 1 + 1, 0, none⟩ (.int .i64 LV.2.1)).setCell ⟨w.heap.size + 1 + 1 + 1, 1, none⟩ (.slice av LV.2.2.length cv)).drew = z at *
      go_wp2_with fail
      refine bodyPost_ret (results_cct rfl _ _ (w.heap.size + 1 + 1) (w.heap.size + 1 + 1 + 1) _ _ _ _ (0, 0) (0, 0) _ _ (by rfl) (by rfl) rA rB Tryz.underlying26 rfl (by kernel_rfl) Tryz.underlying34 rfl (by kernel_rfl)) rfl ?_
      exact FIN.out HN.out (HA.out w5 (a.1 + 1) B5) rV B5 gA gB)
  have e1' : (x.2.1 == LV.1) = false := by simp [e1]
  by_cases e2 : x.2.1 < LV.1
  · have HN := (show Hid (applyA a x = ((a.1 + 1, a.2), (6, []), false)) by
      show _ = _
      rw [HAP.out]
      unfold stepA
      rw [if_neg HZZ.out, if_neg (not_not_intro HOK.out), ← HLV.out, if_neg e1, if_pos e2])
    clear e1
    go_wp2_with (first
      | fail
      | (refine wl_load rfl _ _ rfl w.heap.size rfl _ _ ra5 _ Tryz.underlying26 rfl (by kernel_rfl) ?_)
      | (refine wl_store rfl _ _ _ rfl (w.heap.size + 1 + 1) [.int .i64 (a.1 + 1), .slice ae ne ce, .slice al nl cl, .slice an nn cn] rfl rfl _ _ rs5 rfl (by kernel_rfl) (onA4 rfl rfl rfl) ?_; intro wA hrA gA; have rrA := rr5.grown gA (fun e => by injection e with e; omega))
      | (refine wl_store rfl _ _ _ rfl (w.heap.size + 1 + 1 + 1) [.int .i64 6, .slice none 0 0] rfl rfl _ _ rrA rfl (by kernel_rfl) (one_res rfl) ?_; intro wB hrB gB; have rsB := hrA.out.grown gB (fun e => by injection e with e; omega)))
    refine bodyPost_ret (results_cct rfl _ _ (w.heap.size + 1 + 1) (w.heap.size + 1 + 1 + 1) _ _ _ _ (0, 0) (0, 0) _ _ (by rfl) (by rfl) rsB hrB.out Tryz.underlying26 rfl (by kernel_rfl) Tryz.underlying34 rfl (by kernel_rfl)) rfl ?_
    exact FIN.out HN.out (HA.out w5 (a.1 + 1) B5) (RT.nil _ _) B5 gA gB
  have e2' : decide (x.2.1 < LV.1) = false := by simp; omega
  have HN := (show Hid (applyA a x = ((a.1 + 1, (opA a.2.1 a.2.2.1 x (a.1 + 1)).1, (opA a.2.1 a.2.2.1 x (a.1 + 1)).2.1, putR [x.1] (x.2.1 :: (opA a.2.1 a.2.2.1 x (a.1 + 1)).2.2.1 :: (opA a.2.1 a.2.2.1 x (a.1 + 1)).2.2.2) a.2.2.2), (opA a.2.1 a.2.2.1 x (a.1 + 1)).2.2, true)) by
    show _ = _
    rw [HAP.out]
    unfold stepA
    rw [if_neg HZZ.out, if_neg (not_not_intro HOK.out), ← HLV.out, if_neg e1, if_neg e2])
  clear e1 e2 v5
  have h3p := op_three a.2.1 a.2.2.1 x (a.1 + 1)
  have hRd := refRead_any w5 (.slice ao no co) x.2.2.1 (HQo.out w5 B5) (by have := HZ.out.1; unfold szT at this; omega)
  obtain ⟨O, hO⟩ : ∃ O, O = opR x.2.2.1 := ⟨_, rfl⟩
  obtain ⟨E, hE⟩ : ∃ E, E = errR x.2.2.1 := ⟨_, rfl⟩
  rw [← hO, ← hE] at hRd h3p
  clear hO hE
  have H3P := (show Hid _ from h3p)
  clear h3p
  have c2 := rq5.cell (j := 2) rfl
  go_upto_region 16 with (first
    | (refine wl_load rfl _ _ rfl (w.heap.size + 1 + 1 + 1 + 1) rfl _ _ rb7 _ Tryz.underlying34 rfl (by kernel_rfl) ?_)
    | (go_at_call 27; refine hRd.mono ?_; rintro e w6 ⟨r6, rfl, ho6, hb6⟩; obtain ⟨vn, va, vb, rfl, o1, o2, o3⟩ := ho6; obtain ⟨on_, oc_, rfl, _⟩ := o1.form; obtain ⟨an_, ac_, rfl, _⟩ := o2.form; obtain ⟨bn_, bc_, rfl, _⟩ := o3.form; have n6 := Row.new w6 56 [.int .i64 0, .slice none 0 0, .slice none 0 0, .slice none 0 0, .int .i64 0])
    | (refine wl_store rfl _ _ _ rfl w6.heap.size [.int .i64 O.1, .slice on_ O.2.1.length oc_, .slice an_ O.2.2.1.length ac_, .slice bn_ O.2.2.2.1.length bc_, .int .i64 O.2.2.2.2] rfl rfl _ _ n6 rfl (by kernel_rfl) (one5 rfl rfl rfl) ?_; intro w7 hr7 hg7; have rb7 := ((rb5.below hb6).below (below_alloc _ _)).grown hg7 (fun e => by injection e with e; have := (rb5.below hb6).lt; omega); have r97 := ((r9.below hb6).below (below_alloc _ _)).grown hg7 (fun e => by injection e with e; have := (r9.below hb6).lt; omega))
    | (refine wl_store rfl _ _ _ rfl b9 [.int .i64 5, .slice none 0 0] rfl rfl _ _ r97 rfl (by kernel_rfl) (one_res rfl) ?_; intro w8 hr8 hg8))
  have l9 : b9 < w5.heap.size := r9.lt
  have l6 := hb6.size
  obtain ⟨b10, hb10⟩ : ∃ b10, b10 = w6.heap.size := ⟨_, rfl⟩
  rw [← hb10] at hr7 hg7 ⊢
  have R8 := (show Hid (∀ (b : Nat) (t : TypeId) (xs : List Value), Row w5 b t xs → b ≠ b9 → Row w8 b t xs) from fun b t xs h hb => (((h.below hb6).below (below_alloc _ _)).grown hg7 (fun e => by injection e with e; have := h.lt; omega)).grown hg8 (fun e => by injection e with e; omega))
  have ra8 := R8.out _ _ _ ra5 (Ne.symm q3)
  have rq8 := R8.out _ _ _ rq5 (by omega)
  have rs8 := R8.out _ _ _ rs5 (Ne.symm q1)
  have rr8 := R8.out _ _ _ rr5 (Ne.symm q2)
  have r98 : Row w8 b9 34 [.int .i64 5, .slice none 0 0] := hr8.out
  have rX8 : Row w8 b10 56 [.int .i64 O.1, .slice on_ O.2.1.length oc_, .slice an_ O.2.2.1.length ac_, .slice bn_ O.2.2.2.1.length bc_, .int .i64 O.2.2.2.2] := hr7.out.grown hg8 (fun e => by injection e with e; omega)
  have B6 := below_and B5 le hb6
  have B6' := below_and B6 le (below_alloc w6 (.cells (List.toArray [.int .i64 0, .slice none 0 0, .slice none 0 0, .slice none 0 0, .int .i64 0]) 56))
  have B7 : Below w.heap.size w w7 := B6'.trans (grown_below hg7 B6'.size (fun k hk => by cases hk; have := B5.size; omega))
  have B8 : Below w.heap.size w w8 := B7.trans (grown_below hg8 B7.size (fun k hk => by cases hk; omega))
  have hz8 : b9 < w8.heap.size ∧ b10 < w8.heap.size ∧ w.heap.size + 5 ≤ w8.heap.size := ⟨r98.lt, rX8.lt, by have := r98.lt; omega⟩
  have M68 : Mv (From w5.heap.size) (HG2 GG w b9 b10) w6 w8 := fun k hk hlt => by
    have h1 : w5.heap.size ≤ k := hk
    refine ⟨(hg8.block k (Nat.lt_of_lt_of_le (Nat.lt_of_lt_of_le hlt (below_alloc w6 _).size) hg7.size) (fun e => by injection e with e; omega)).trans ((hg7.block k (Nat.lt_of_lt_of_le hlt (below_alloc w6 _).size) (fun e => by injection e with e; omega)).trans ((below_alloc w6 _).block k hlt)), ⟨HGG.out k (by omega), .inr (by omega)⟩, by omega, by omega⟩
  have s68 : w6.heap.size ≤ w8.heap.size := by have := rX8.lt; omega
  have HO8 := (show Hid (ROp (HG2 GG w b9 b10) w8 [.int .i64 O.1, .slice on_ O.2.1.length oc_, .slice an_ O.2.2.1.length ac_, .slice bn_ O.2.2.2.1.length bc_, .int .i64 O.2.2.2.2] O) from ⟨_, _, _, rfl, o1.mv M68, o2.mv M68, o3.mv M68⟩)
  have HGW := (show Hid (∀ u : World, (b9 < u.heap.size ∧ b10 < u.heap.size ∧ w.heap.size + 5 ≤ u.heap.size) → ∀ k, u.heap.size ≤ k → HG2 GG w b9 b10 k) from fun u hu k hk => ⟨⟨HGG.out k (by omega), .inr (by omega)⟩, by omega, by omega⟩)
  have ML : Mv (fun k => GG k ∧ k < w.heap.size) (HG2 GG w b9 b10) w8 w8 := fun k hk _ => ⟨rfl, ⟨hk.1, .inl hk.2⟩, by have := hk.2; omega, by have := hk.2; omega⟩
  have HS8 := (show Hid (RL REnt 2 (HG2 GG w b9 b10) w8 (.slice ae ne ce) a.2.1 ∧ RL RLea 3 (HG2 GG w b9 b10) w8 (.slice al nl cl) a.2.2.1 ∧ RL RSes 4 (HG2 GG w b9 b10) w8 (.slice an nn cn) a.2.2.2) from ⟨(HAL.out w8 B8).1.mv mov_ent (Nat.le_refl _) ML, (HAL.out w8 B8).2.1.mv mov_lea (Nat.le_refl _) ML, (HAL.out w8 B8).2.2.mv mov_ses (Nat.le_refl _) ML⟩)
  have lw9 : w.heap.size + 5 ≤ b9 := by omega
  have lw10 : b9 < b10 := by omega
  clear hRd c1 c2 ra5 rq5 rs5 rr5 rb5 r9 B5 n6 hr7 hg7 rb7 r97 hr8 hg8 R8 o1 o2 o3 B6 B6' B7 M68 s68 ML hb6 hb10 l6 l9 hl9 e1' e2'
  rcases H3P.out with ⟨hE, hop⟩ | ⟨hE, hk, hop⟩ | ⟨hE, hk, hop⟩
  · have HN2 := (show Hid (applyA a x = ((a.1 + 1, a.2.1, a.2.2.1, putR [x.1] (x.2.1 :: 5 :: []) a.2.2.2), (5, []), true)) by show _ = _; rw [HN.out, hop])
    have t0 : (E == 0) = false := by rw [hE]; decide
    clear hE hop H3P
    have c10 := rX8.cell (j := 0) rfl
    go_upto_region 20 with fail
    clear c10
    have hP := refPut_any (GG := HG2 GG w b9 b10) w8 (HGW.out w8 hz8) (.slice an nn cn) a.2.2.2 HS8.out.2.2 (by have := rgn_len HRG.out.2.2.2; omega) x.1 x.2.1 (5) (.slice none 0 0) ([]) (RT.nil (HG2 GG w b9 b10) w8)
    have c3 := ra8.cell (j := 3) rfl
    have d0 := rq8.cell (j := 0) rfl
    have d1 := rq8.cell (j := 1) rfl
    go_upto_region 21 with (first
      | (refine wl_load rfl _ _ rfl b9 rfl _ _ r98 _ Tryz.underlying34 rfl (by kernel_rfl) ?_)
      | (go_at_call 30; refine hP.mono ?_; rintro e wP ⟨vP, rfl, sP, hbP⟩; obtain ⟨aP, cP, eP, _⟩ := sP.form; generalize (wiS _ _ _ _).length = NP at eP; subst eP; have raP := ra8.below hbP)
      | (refine wl_set rfl _ _ _ rfl w.heap.size 3 _ rfl rfl _ _ raP (show 3 < 4 by decide) (by kernel_rfl) rfl ?_; intro wS hrS hgS))
    rw [wiS_put (chk_up hwf HRG.out.2.2.2)] at sP
    have raS : Row wS w.heap.size 26 [.int .i64 (a.1 + 1), .slice ae ne ce, .slice al nl cl, .slice aP NP cP] := hrS.out
    have rsS := (rs8.below hbP).grown hgS (fun e => by injection e with e; omega)
    have rrS := (rr8.below hbP).grown hgS (fun e => by injection e with e; omega)
    have r9S := (r98.below hbP).grown hgS (fun e => by injection e with e; omega)
    have BS : Below w.heap.size w wS := (below_and B8 le hbP).trans (grown_below hgS (below_and B8 le hbP).size (fun k hk => by cases hk; omega))
    have mS : Mv (HG2 GG w b9 b10) (HG GG w) wP wS := fun k hk hlt => ⟨hgS.block k hlt (fun e => by injection e with e; rcases hk.1.2 with h | h <;> omega), hk.1⟩
    have mP : Mv (HG2 GG w b9 b10) (HG2 GG w b9 b10) w8 wP := Mv.belowG hbP
    have FA := (show Hid (RApp (HG GG w) wS [.int .i64 (a.1 + 1), .slice ae ne ce, .slice al nl cl, .slice aP NP cP] (a.1 + 1, a.2.1, a.2.2.1, putR [x.1] (x.2.1 :: 5 :: []) a.2.2.2)) from ⟨_, _, _, rfl, (HS8.out.1.mv mov_ent hbP.size mP).mv mov_ent hgS.size mS, (HS8.out.2.1.mv mov_lea hbP.size mP).mv mov_lea hgS.size mS, sP.mv mov_ses hgS.size mS⟩)
    have FV := (show Hid (RT (HG GG w) wS (.slice none 0 0) ([])) from ((RT.nil (HG2 GG w b9 b10) w8).mv mP).mv mS)
    clear hP c3 d0 d1 sP mS mP
    have i0 := raS.cell (j := 0) rfl
    have i1 := raS.cell (j := 1) rfl
    have i2 := raS.cell (j := 2) rfl
    have i3 := raS.cell (j := 3) rfl
    have j0 := r9S.cell (j := 0) rfl
    have j1 := r9S.cell (j := 1) rfl
    have m0 := rsS.cell (j := 0) rfl
    have m1 := rsS.cell (j := 1) rfl
    have m2 := rsS.cell (j := 2) rfl
    have m3 := rsS.cell (j := 3) rfl
    have n0 := rrS.cell (j := 0) rfl
    have n1 := rrS.cell (j := 1) rfl
    have f0 := rsS.frozen 0
    have f1 := rsS.frozen 1
    have f2 := rsS.frozen 2
    have f3 := rsS.frozen 3
    have f4 := rrS.frozen 0
    have f5 := rrS.frozen 1
    have ROWS := (show Hid (Row wS (w.heap.size + 1 + 1) 26 [.int .i64 0, .slice none 0 0, .slice none 0 0, .slice none 0 0] ∧ Row wS (w.heap.size + 1 + 1 + 1) 34 [.int .i64 0, .slice none 0 0]) from ⟨rsS, rrS⟩)
    go_region
    all_goals (
      obtain ⟨z1, gA, gB, _, rA, rB⟩ := two_rowsS ROWS.out.1 ROWS.out.2 (by omega) (.int .i64 (a.1 + 1)) (.slice ae ne ce) (.slice al nl cl) (.slice aP NP cP) (.int .i64 5) (.slice none 0 0)
      clear ROWS i0 i1 i2 i3 j0 j1 m0 m1 m2 m3 n0 n1 f0 f1 f2 f3 f4 f5
      generalize ((((((wS.setCell ⟨w.heap.size + 1 + 1, 0, none⟩ (.int .i64 (a.1 + 1))).setCell ⟨w.heap.size + 1 + 1, 1, none⟩ (.slice ae ne ce)).setCell ⟨w.heap.size + 1 + 1, 2, none⟩ (.slice al nl cl)).setCell ⟨w.heap.size + 1 + 1, 3, none⟩ (.slice aP NP cP)).setCell ⟨w.heap.size + 1 + 1 + 1, 0, none⟩ (.int .i64 5)).setCell ⟨w.heap.size + 1 + 1 + 1, 1, none⟩ (.slice none 0 0)).drew = z at *
      go_wp2_with fail
      refine bodyPost_ret (results_cct rfl _ _ (w.heap.size + 1 + 1) (w.heap.size + 1 + 1 + 1) _ _ _ _ (0, 0) (0, 0) _ _ (by rfl) (by rfl) rA rB Tryz.underlying26 rfl (by kernel_rfl) Tryz.underlying34 rfl (by kernel_rfl)) rfl ?_
      exact FIN.out HN2.out FA.out FV.out BS gA gB)
  · obtain ⟨D, hD⟩ : ∃ D, D = doL a.2.1 O := ⟨_, rfl⟩
    have HN2 := (show Hid (applyA a x = ((a.1 + 1, D.1, a.2.2.1, putR [x.1] (x.2.1 :: D.2.1 :: D.2.2) a.2.2.2), D.2, true)) by show _ = _; rw [HN.out, hop, ← hD])
    have hDo := refDoG_any (GG := HG2 GG w b9 b10) w8 (HGW.out w8 hz8) (.slice ae ne ce) a.2.1 HS8.out.1 [.int .i64 O.1, .slice on_ O.2.1.length oc_, .slice an_ O.2.2.1.length ac_, .slice bn_ O.2.2.2.1.length bc_, .int .i64 O.2.2.2.2] O HO8.out
    rw [← hD] at hDo
    have t0 : (E == 0) = true := by rw [hE]; decide
    have t4 : decide (O.1 ≤ 4) = true := by simp; omega
    have t5 : decide (4 < O.1) = false := by simp; omega
    clear hE hk hop H3P hD
    have c10 := rX8.cell (j := 0) rfl
    go_upto_region 17 with fail
    clear c10
    have k0 := ra8.cell (j := 0) rfl
    have kj := ra8.cell (j := 1) rfl
    have kq := rq8.cell (j := 0) rfl
    go_upto_region 18 with (first
      | (refine wl_load rfl _ _ rfl b10 rfl _ _ rX8 _ Tryz.underlying56 rfl (by kernel_rfl) ?_)
      | (go_at_call 28; refine hDo.mono ?_; rintro e w9 ⟨vD, vV, rfl, sD, sV, hb9⟩; obtain ⟨aD, cD, eD, _⟩ := sD.form; generalize D.1.length = ND at eD; subst eD; obtain ⟨aV, cV, eV, _⟩ := sV.form; generalize D.2.2.length = NV at eV; subst eV; have ra9 := ra8.below hb9)
      | (refine wl_set rfl _ _ _ rfl w.heap.size 1 _ rfl rfl _ _ ra9 (show 1 < 4 by decide) (by kernel_rfl) rfl ?_; intro wa hra hga; have r9a := (r98.below hb9).grown hga (fun e => by injection e with e; omega))
      | (refine wl_store rfl _ _ _ rfl b9 [.int .i64 D.2.1, .slice aV NV cV] rfl rfl _ _ r9a rfl (by kernel_rfl) (one_res rfl) ?_; intro wb hrb hgb))
    have raB : Row wb w.heap.size 26 [.int .i64 (a.1 + 1), .slice aD ND cD, .slice al nl cl, .slice an nn cn] := hra.out.grown hgb (fun e => by injection e with e; omega)
    have RB := (show Hid (∀ (b : Nat) (t : TypeId) (xs : List Value), Row w8 b t xs → b ≠ b9 → b ≠ w.heap.size → Row wb b t xs) from fun b t xs h h1 h2 => ((h.below hb9).grown hga (fun e => by injection e with e; omega)).grown hgb (fun e => by injection e with e; omega))
    have rqB := RB.out _ _ _ rq8 (by omega) (by omega)
    have rsB := RB.out _ _ _ rs8 (by omega) (by omega)
    have rrB := RB.out _ _ _ rr8 (by omega) (by omega)
    have rXB := RB.out _ _ _ rX8 (by omega) (by omega)
    have r9B : Row wb b9 34 [.int .i64 D.2.1, .slice aV NV cV] := hrb.out
    have Ba : Below w.heap.size w wa := (below_and B8 le hb9).trans (grown_below hga (below_and B8 le hb9).size (fun k hk => by cases hk; omega))
    have BB : Below w.heap.size w wb := Ba.trans (grown_below hgb Ba.size (fun k hk => by cases hk; omega))
    have hzB : b9 < wb.heap.size ∧ b10 < wb.heap.size ∧ w.heap.size + 5 ≤ wb.heap.size := ⟨r9B.lt, rXB.lt, by have := r9B.lt; omega⟩
    have m9 : Mv (HG2 GG w b9 b10) (HG2 GG w b9 b10) w9 wb := fun k hk hlt => ⟨(hgb.block k (Nat.lt_of_lt_of_le hlt hga.size) (fun e => by injection e with e; have := hk.2.1; omega)).trans (hga.block k hlt (fun e => by injection e with e; rcases hk.1.2 with h | h <;> omega)), hk⟩
    have s9 : w9.heap.size ≤ wb.heap.size := Nat.le_trans hga.size hgb.size
    have m8 : Mv (HG2 GG w b9 b10) (HG2 GG w b9 b10) w8 w9 := Mv.belowG hb9
    have HSB := (show Hid (RL REnt 2 (HG2 GG w b9 b10) wb (.slice aD ND cD) (D.1) ∧ RL RLea 3 (HG2 GG w b9 b10) wb (.slice al nl cl) (a.2.2.1) ∧ RL RSes 4 (HG2 GG w b9 b10) wb (.slice an nn cn) a.2.2.2) from ⟨sD.mv mov_ent s9 m9, (HS8.out.2.1.mv mov_lea hb9.size m8).mv mov_lea s9 m9, (HS8.out.2.2.mv mov_ses hb9.size m8).mv mov_ses s9 m9⟩)
    have sVB := sV.mv m9
    clear k0 kj kq hDo sD sV RB m9 m8 s9 Ba hra hga hrb hgb r9a ra9 ra8 rq8 rs8 rr8 r98 rX8 hz8 B8 HO8 HS8 hb9
    have c10 := rXB.cell (j := 0) rfl
    go_upto_region 20 with fail
    clear c10
    have hP := refPut_any (GG := HG2 GG w b9 b10) wb (HGW.out wb hzB) (.slice an nn cn) a.2.2.2 HSB.out.2.2 (by have := rgn_len HRG.out.2.2.2; omega) x.1 x.2.1 (D.2.1) (.slice aV NV cV) (D.2.2) sVB
    have c3 := raB.cell (j := 3) rfl
    have d0 := rqB.cell (j := 0) rfl
    have d1 := rqB.cell (j := 1) rfl
    go_upto_region 21 with (first
      | (refine wl_load rfl _ _ rfl b9 rfl _ _ r9B _ Tryz.underlying34 rfl (by kernel_rfl) ?_)
      | (go_at_call 30; refine hP.mono ?_; rintro e wP ⟨vP, rfl, sP, hbP⟩; obtain ⟨aP, cP, eP, _⟩ := sP.form; generalize (wiS _ _ _ _).length = NP at eP; subst eP; have raP := raB.below hbP)
      | (refine wl_set rfl _ _ _ rfl w.heap.size 3 _ rfl rfl _ _ raP (show 3 < 4 by decide) (by kernel_rfl) rfl ?_; intro wS hrS hgS))
    rw [wiS_put (chk_up hwf HRG.out.2.2.2)] at sP
    have raS : Row wS w.heap.size 26 [.int .i64 (a.1 + 1), .slice aD ND cD, .slice al nl cl, .slice aP NP cP] := hrS.out
    have rsS := (rsB.below hbP).grown hgS (fun e => by injection e with e; omega)
    have rrS := (rrB.below hbP).grown hgS (fun e => by injection e with e; omega)
    have r9S := (r9B.below hbP).grown hgS (fun e => by injection e with e; omega)
    have BS : Below w.heap.size w wS := (below_and BB le hbP).trans (grown_below hgS (below_and BB le hbP).size (fun k hk => by cases hk; omega))
    have mS : Mv (HG2 GG w b9 b10) (HG GG w) wP wS := fun k hk hlt => ⟨hgS.block k hlt (fun e => by injection e with e; rcases hk.1.2 with h | h <;> omega), hk.1⟩
    have mP : Mv (HG2 GG w b9 b10) (HG2 GG w b9 b10) wb wP := Mv.belowG hbP
    have FA := (show Hid (RApp (HG GG w) wS [.int .i64 (a.1 + 1), .slice aD ND cD, .slice al nl cl, .slice aP NP cP] (a.1 + 1, D.1, a.2.2.1, putR [x.1] (x.2.1 :: D.2.1 :: D.2.2) a.2.2.2)) from ⟨_, _, _, rfl, (HSB.out.1.mv mov_ent hbP.size mP).mv mov_ent hgS.size mS, (HSB.out.2.1.mv mov_lea hbP.size mP).mv mov_lea hgS.size mS, sP.mv mov_ses hgS.size mS⟩)
    have FV := (show Hid (RT (HG GG w) wS (.slice aV NV cV) (D.2.2)) from (sVB.mv mP).mv mS)
    clear hP c3 d0 d1 sP mS mP
    have i0 := raS.cell (j := 0) rfl
    have i1 := raS.cell (j := 1) rfl
    have i2 := raS.cell (j := 2) rfl
    have i3 := raS.cell (j := 3) rfl
    have j0 := r9S.cell (j := 0) rfl
    have j1 := r9S.cell (j := 1) rfl
    have m0 := rsS.cell (j := 0) rfl
    have m1 := rsS.cell (j := 1) rfl
    have m2 := rsS.cell (j := 2) rfl
    have m3 := rsS.cell (j := 3) rfl
    have n0 := rrS.cell (j := 0) rfl
    have n1 := rrS.cell (j := 1) rfl
    have f0 := rsS.frozen 0
    have f1 := rsS.frozen 1
    have f2 := rsS.frozen 2
    have f3 := rsS.frozen 3
    have f4 := rrS.frozen 0
    have f5 := rrS.frozen 1
    have ROWS := (show Hid (Row wS (w.heap.size + 1 + 1) 26 [.int .i64 0, .slice none 0 0, .slice none 0 0, .slice none 0 0] ∧ Row wS (w.heap.size + 1 + 1 + 1) 34 [.int .i64 0, .slice none 0 0]) from ⟨rsS, rrS⟩)
    go_region
    all_goals (
      obtain ⟨z1, gA, gB, _, rA, rB⟩ := two_rowsS ROWS.out.1 ROWS.out.2 (by omega) (.int .i64 (a.1 + 1)) (.slice aD ND cD) (.slice al nl cl) (.slice aP NP cP) (.int .i64 D.2.1) (.slice aV NV cV)
      clear ROWS i0 i1 i2 i3 j0 j1 m0 m1 m2 m3 n0 n1 f0 f1 f2 f3 f4 f5
      generalize ((((((wS.setCell ⟨w.heap.size + 1 + 1, 0, none⟩ (.int .i64 (a.1 + 1))).setCell ⟨w.heap.size + 1 + 1, 1, none⟩ (.slice aD ND cD)).setCell ⟨w.heap.size + 1 + 1, 2, none⟩ (.slice al nl cl)).setCell ⟨w.heap.size + 1 + 1, 3, none⟩ (.slice aP NP cP)).setCell ⟨w.heap.size + 1 + 1 + 1, 0, none⟩ (.int .i64 D.2.1)).setCell ⟨w.heap.size + 1 + 1 + 1, 1, none⟩ (.slice aV NV cV)).drew = z at *
      go_wp2_with fail
      refine bodyPost_ret (results_cct rfl _ _ (w.heap.size + 1 + 1) (w.heap.size + 1 + 1 + 1) _ _ _ _ (0, 0) (0, 0) _ _ (by rfl) (by rfl) rA rB Tryz.underlying26 rfl (by kernel_rfl) Tryz.underlying34 rfl (by kernel_rfl)) rfl ?_
      exact FIN.out HN2.out FA.out FV.out BS gA gB)
  · obtain ⟨D, hD⟩ : ∃ D, D = doS a.2.2.1 O x.1 (a.1 + 1) := ⟨_, rfl⟩
    have HN2 := (show Hid (applyA a x = ((a.1 + 1, a.2.1, D.1, putR [x.1] (x.2.1 :: D.2.1 :: D.2.2) a.2.2.2), D.2, true)) by show _ = _; rw [HN.out, hop, ← hD])
    have hDo := refDoSG_any (GG := HG2 GG w b9 b10) w8 (HGW.out w8 hz8) (.slice al nl cl) a.2.2.1 HS8.out.2.1 [.int .i64 O.1, .slice on_ O.2.1.length oc_, .slice an_ O.2.2.1.length ac_, .slice bn_ O.2.2.2.1.length bc_, .int .i64 O.2.2.2.2] O HO8.out x.1 (a.1 + 1)
    rw [← hD] at hDo
    have t0 : (E == 0) = true := by rw [hE]; decide
    have t4 : decide (O.1 ≤ 4) = false := by simp; omega
    have t5 : decide (4 < O.1) = true := by simp; omega
    clear hE hk hop H3P hD
    have c10 := rX8.cell (j := 0) rfl
    go_upto_region 19 with fail
    clear c10
    have k0 := ra8.cell (j := 0) rfl
    have kj := ra8.cell (j := 2) rfl
    have kq := rq8.cell (j := 0) rfl
    go_upto_region 20 with (first
      | (refine wl_load rfl _ _ rfl b10 rfl _ _ rX8 _ Tryz.underlying56 rfl (by kernel_rfl) ?_)
      | (go_at_call 29; refine hDo.mono ?_; rintro e w9 ⟨vD, vV, rfl, sD, sV, hb9⟩; obtain ⟨aD, cD, eD, _⟩ := sD.form; generalize D.1.length = ND at eD; subst eD; obtain ⟨aV, cV, eV, _⟩ := sV.form; generalize D.2.2.length = NV at eV; subst eV; have ra9 := ra8.below hb9)
      | (refine wl_set rfl _ _ _ rfl w.heap.size 2 _ rfl rfl _ _ ra9 (show 2 < 4 by decide) (by kernel_rfl) rfl ?_; intro wa hra hga; have r9a := (r98.below hb9).grown hga (fun e => by injection e with e; omega))
      | (refine wl_store rfl _ _ _ rfl b9 [.int .i64 D.2.1, .slice aV NV cV] rfl rfl _ _ r9a rfl (by kernel_rfl) (one_res rfl) ?_; intro wb hrb hgb))
    have raB : Row wb w.heap.size 26 [.int .i64 (a.1 + 1), .slice ae ne ce, .slice aD ND cD, .slice an nn cn] := hra.out.grown hgb (fun e => by injection e with e; omega)
    have RB := (show Hid (∀ (b : Nat) (t : TypeId) (xs : List Value), Row w8 b t xs → b ≠ b9 → b ≠ w.heap.size → Row wb b t xs) from fun b t xs h h1 h2 => ((h.below hb9).grown hga (fun e => by injection e with e; omega)).grown hgb (fun e => by injection e with e; omega))
    have rqB := RB.out _ _ _ rq8 (by omega) (by omega)
    have rsB := RB.out _ _ _ rs8 (by omega) (by omega)
    have rrB := RB.out _ _ _ rr8 (by omega) (by omega)
    have rXB := RB.out _ _ _ rX8 (by omega) (by omega)
    have r9B : Row wb b9 34 [.int .i64 D.2.1, .slice aV NV cV] := hrb.out
    have Ba : Below w.heap.size w wa := (below_and B8 le hb9).trans (grown_below hga (below_and B8 le hb9).size (fun k hk => by cases hk; omega))
    have BB : Below w.heap.size w wb := Ba.trans (grown_below hgb Ba.size (fun k hk => by cases hk; omega))
    have hzB : b9 < wb.heap.size ∧ b10 < wb.heap.size ∧ w.heap.size + 5 ≤ wb.heap.size := ⟨r9B.lt, rXB.lt, by have := r9B.lt; omega⟩
    have m9 : Mv (HG2 GG w b9 b10) (HG2 GG w b9 b10) w9 wb := fun k hk hlt => ⟨(hgb.block k (Nat.lt_of_lt_of_le hlt hga.size) (fun e => by injection e with e; have := hk.2.1; omega)).trans (hga.block k hlt (fun e => by injection e with e; rcases hk.1.2 with h | h <;> omega)), hk⟩
    have s9 : w9.heap.size ≤ wb.heap.size := Nat.le_trans hga.size hgb.size
    have m8 : Mv (HG2 GG w b9 b10) (HG2 GG w b9 b10) w8 w9 := Mv.belowG hb9
    have HSB := (show Hid (RL REnt 2 (HG2 GG w b9 b10) wb (.slice ae ne ce) (a.2.1) ∧ RL RLea 3 (HG2 GG w b9 b10) wb (.slice aD ND cD) (D.1) ∧ RL RSes 4 (HG2 GG w b9 b10) wb (.slice an nn cn) a.2.2.2) from ⟨(HS8.out.1.mv mov_ent hb9.size m8).mv mov_ent s9 m9, sD.mv mov_lea s9 m9, (HS8.out.2.2.mv mov_ses hb9.size m8).mv mov_ses s9 m9⟩)
    have sVB := sV.mv m9
    clear k0 kj kq hDo sD sV RB m9 m8 s9 Ba hra hga hrb hgb r9a ra9 ra8 rq8 rs8 rr8 r98 rX8 hz8 B8 HO8 HS8 hb9
    have hP := refPut_any (GG := HG2 GG w b9 b10) wb (HGW.out wb hzB) (.slice an nn cn) a.2.2.2 HSB.out.2.2 (by have := rgn_len HRG.out.2.2.2; omega) x.1 x.2.1 (D.2.1) (.slice aV NV cV) (D.2.2) sVB
    have c3 := raB.cell (j := 3) rfl
    have d0 := rqB.cell (j := 0) rfl
    have d1 := rqB.cell (j := 1) rfl
    go_upto_region 21 with (first
      | (refine wl_load rfl _ _ rfl b9 rfl _ _ r9B _ Tryz.underlying34 rfl (by kernel_rfl) ?_)
      | (go_at_call 30; refine hP.mono ?_; rintro e wP ⟨vP, rfl, sP, hbP⟩; obtain ⟨aP, cP, eP, _⟩ := sP.form; generalize (wiS _ _ _ _).length = NP at eP; subst eP; have raP := raB.below hbP)
      | (refine wl_set rfl _ _ _ rfl w.heap.size 3 _ rfl rfl _ _ raP (show 3 < 4 by decide) (by kernel_rfl) rfl ?_; intro wS hrS hgS))
    rw [wiS_put (chk_up hwf HRG.out.2.2.2)] at sP
    have raS : Row wS w.heap.size 26 [.int .i64 (a.1 + 1), .slice ae ne ce, .slice aD ND cD, .slice aP NP cP] := hrS.out
    have rsS := (rsB.below hbP).grown hgS (fun e => by injection e with e; omega)
    have rrS := (rrB.below hbP).grown hgS (fun e => by injection e with e; omega)
    have r9S := (r9B.below hbP).grown hgS (fun e => by injection e with e; omega)
    have BS : Below w.heap.size w wS := (below_and BB le hbP).trans (grown_below hgS (below_and BB le hbP).size (fun k hk => by cases hk; omega))
    have mS : Mv (HG2 GG w b9 b10) (HG GG w) wP wS := fun k hk hlt => ⟨hgS.block k hlt (fun e => by injection e with e; rcases hk.1.2 with h | h <;> omega), hk.1⟩
    have mP : Mv (HG2 GG w b9 b10) (HG2 GG w b9 b10) wb wP := Mv.belowG hbP
    have FA := (show Hid (RApp (HG GG w) wS [.int .i64 (a.1 + 1), .slice ae ne ce, .slice aD ND cD, .slice aP NP cP] (a.1 + 1, a.2.1, D.1, putR [x.1] (x.2.1 :: D.2.1 :: D.2.2) a.2.2.2)) from ⟨_, _, _, rfl, (HSB.out.1.mv mov_ent hbP.size mP).mv mov_ent hgS.size mS, (HSB.out.2.1.mv mov_lea hbP.size mP).mv mov_lea hgS.size mS, sP.mv mov_ses hgS.size mS⟩)
    have FV := (show Hid (RT (HG GG w) wS (.slice aV NV cV) (D.2.2)) from (sVB.mv mP).mv mS)
    clear hP c3 d0 d1 sP mS mP
    have i0 := raS.cell (j := 0) rfl
    have i1 := raS.cell (j := 1) rfl
    have i2 := raS.cell (j := 2) rfl
    have i3 := raS.cell (j := 3) rfl
    have j0 := r9S.cell (j := 0) rfl
    have j1 := r9S.cell (j := 1) rfl
    have m0 := rsS.cell (j := 0) rfl
    have m1 := rsS.cell (j := 1) rfl
    have m2 := rsS.cell (j := 2) rfl
    have m3 := rsS.cell (j := 3) rfl
    have n0 := rrS.cell (j := 0) rfl
    have n1 := rrS.cell (j := 1) rfl
    have f0 := rsS.frozen 0
    have f1 := rsS.frozen 1
    have f2 := rsS.frozen 2
    have f3 := rsS.frozen 3
    have f4 := rrS.frozen 0
    have f5 := rrS.frozen 1
    have ROWS := (show Hid (Row wS (w.heap.size + 1 + 1) 26 [.int .i64 0, .slice none 0 0, .slice none 0 0, .slice none 0 0] ∧ Row wS (w.heap.size + 1 + 1 + 1) 34 [.int .i64 0, .slice none 0 0]) from ⟨rsS, rrS⟩)
    go_region
    all_goals (
      obtain ⟨z1, gA, gB, _, rA, rB⟩ := two_rowsS ROWS.out.1 ROWS.out.2 (by omega) (.int .i64 (a.1 + 1)) (.slice ae ne ce) (.slice aD ND cD) (.slice aP NP cP) (.int .i64 D.2.1) (.slice aV NV cV)
      clear ROWS i0 i1 i2 i3 j0 j1 m0 m1 m2 m3 n0 n1 f0 f1 f2 f3 f4 f5
      generalize ((((((wS.setCell ⟨w.heap.size + 1 + 1, 0, none⟩ (.int .i64 (a.1 + 1))).setCell ⟨w.heap.size + 1 + 1, 1, none⟩ (.slice ae ne ce)).setCell ⟨w.heap.size + 1 + 1, 2, none⟩ (.slice aD ND cD)).setCell ⟨w.heap.size + 1 + 1, 3, none⟩ (.slice aP NP cP)).setCell ⟨w.heap.size + 1 + 1 + 1, 0, none⟩ (.int .i64 D.2.1)).setCell ⟨w.heap.size + 1 + 1 + 1, 1, none⟩ (.slice aV NV cV)).drew = z at *
      go_wp2_with fail
      refine bodyPost_ret (results_cct rfl _ _ (w.heap.size + 1 + 1) (w.heap.size + 1 + 1 + 1) _ _ _ _ (0, 0) (0, 0) _ _ (by rfl) (by rfl) rA rB Tryz.underlying26 rfl (by kernel_rfl) Tryz.underlying34 rfl (by kernel_rfl)) rfl ?_
      exact FIN.out HN2.out FA.out FV.out BS gA gB)
end Go.Proofs.YtejkkhlblnepeaaGreat
end
