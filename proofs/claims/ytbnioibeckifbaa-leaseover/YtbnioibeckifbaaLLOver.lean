/- catenarylaw08.LeaseOver: its walk. -/
import Derived.Test.YtbnioibeckifbaaZy
import Derived.Test.YtbnioibeckifbaaZv
set_option linter.unusedVariables false
set_option linter.unusedSimpArgs false
namespace Go.Proofs.Ytbnioibeckifbaa
open Go.RowKit Oct Kvl

/-- A result in a box of its own. -/
theorem aftR1 {w5 : World} {c : Int} {vv : Value} : ∃ w6, w6 = w5.alloc (.cells #[.int .i64 c, vv] 30) ∧ Row w6 w5.heap.size 30 [.int .i64 c, vv] ∧ w5.grownBy w6 (some w5.heap.size) :=
  ⟨_, rfl, Row.new _ _ _, grown_of_below (below_alloc _ _) _⟩
theorem aftR2 {b : Nat} {w5 : World} {c : Int} {vv x y : Value} (q : Row w5 b 30 [x, y]) : ∃ w6, w6 = (w5.setCell ⟨b, 0, none⟩ (.int .i64 c)).setCell ⟨b, 1, none⟩ vv ∧ Row w6 b 30 [.int .i64 c, vv] ∧ w5.grownBy w6 (some b) :=
  ⟨_, rfl, (q.set 0 _).set 1 _, grown_trans (grown_set w5 b 0 _) (grown_set _ b 1 _) (.inl rfl)⟩
theorem bel_set2S {B b : Nat} {w u : World} {x y : Value} (h : Below B w u) (hw : B ≤ w.heap.size) (hb : B ≤ b) : Below B w ((u.setCell ⟨b, 0, none⟩ x).setCell ⟨b, 1, none⟩ y) :=
  h.trans (grown_below (grown_trans (grown_set u b 0 x) (grown_set _ b 1 y) (.inl rfl)) (Nat.le_trans hw h.size) (fun k hk => by cases hk; exact hb))

set_option maxRecDepth 10000 in
set_option maxHeartbeats 8000000 in
theorem over_law (w : World) (nv : Value) (l : List Int) (c0 c1 t0 t1 : Int) (hn : Rd w nv l) (hl : l.length ≤ 140737488355328) :
    Calls Try.prog 7 #[nv, .agg #[.int .i64 c0, .int .i64 c1], .agg #[.int .i64 t0, .int .i64 t1]] w fun e w' => e = .returned (.bool true) ∧ Below w.heap.size w w' := by
  have le := Nat.le_refl w.heap.size
  obtain ⟨w0, hw0⟩ : ∃ w0, w0 = (w.alloc (.cells #[.int .i64 c0, .int .i64 c1] 43)).alloc (.cells #[.int .i64 t0, .int .i64 t1] 43) := ⟨_, rfl⟩
  have x0 : Row w0 w.heap.size 43 [.int .i64 c0, .int .i64 c1] := by rw [hw0]; exact rowA (Row.new w 43 _) _
  have y0 : Row w0 (w.heap.size + 1) 43 [.int .i64 t0, .int .i64 t1] := by
    rw [hw0]
    have := Row.new (w.alloc (.cells #[.int .i64 c0, .int .i64 c1] 43)) 43 [.int .i64 t0, .int .i64 t1]
    simpa using this
  have B0 : Below w.heap.size w w0 := by rw [hw0]; exact below_and (below_alloc _ _) (Nat.le_refl _) (below_alloc _ _)
  obtain ⟨an, cn, rfl, hcn⟩ := hn.form
  go_enter Try.func7, Try.ntmps7
  go_upto_region 1 with fail
  rw [← hw0]
  clear hw0
  go_upto_region 3 with (go_at_call 19; refine (leaseAlive_any w0).mono ?_; rintro e w1 ⟨rfl, hb1⟩)
  have B1 := below_and B0 le hb1
  have x1 := x0.below hb1
  have y1 := y0.below hb1
  clear hb1 B0 x0 y0
  have a0 := x1.cell (j := 0) rfl
  have a1 := x1.cell (j := 1) rfl
  have b0 := y1.cell (j := 0) rfl
  have b1 := y1.cell (j := 1) rfl
  have hlm : (l.length : Int) ≤ 140737488355328 := by omega
  by_cases g0 : (l.length : Int) < 1
  · go_wp2_with fail
    go_ret
    exact ⟨rfl, B1⟩
  have g0' : decide ((l.length : Int) < 1) = false := by simp; omega
  by_cases g1 : (16 : Int) < l.length
  · go_wp2_with fail
    go_ret
    exact ⟨rfl, B1⟩
  have g1' : decide ((16 : Int) < l.length) = false := by simp; omega
  by_cases g2 : c0 < 1
  · go_wp2_with fail
    go_ret
    exact ⟨rfl, B1⟩
  have g2' : decide (c0 < 1) = false := by simp; omega
  by_cases g3 : 4 < c0
  · go_wp2_with fail
    go_ret
    exact ⟨rfl, B1⟩
  have g3' : decide (4 < c0) = false := by simp; omega
  by_cases g4 : c1 < 1
  · go_wp2_with fail
    go_ret
    exact ⟨rfl, B1⟩
  have g4' : decide (c1 < 1) = false := by simp; omega
  by_cases g5 : 4 < c1
  · go_wp2_with fail
    go_ret
    exact ⟨rfl, B1⟩
  have g5' : decide (4 < c1) = false := by simp; omega
  by_cases g6 : t0 < 0
  · go_wp2_with fail
    go_ret
    exact ⟨rfl, B1⟩
  have g6' : decide (t0 < 0) = false := by simp; omega
  by_cases g7 : 1000000 < t0
  · go_wp2_with fail
    go_ret
    exact ⟨rfl, B1⟩
  have g7' : decide (1000000 < t0) = false := by simp; omega
  by_cases g8 : t1 < 1
  · go_wp2_with fail
    go_ret
    exact ⟨rfl, B1⟩
  have g8' : decide (t1 < 1) = false := by simp; omega
  by_cases g9 : 1000 < t1
  · go_wp2_with fail
    go_ret
    exact ⟨rfl, B1⟩
  have g9' : decide (1000 < t1) = false := by simp; omega
  have p1 : 1 ≤ l.length := by omega
  have p2 : l.length ≤ 16 := by omega
  have hwr : IntKind.i64.wrap (t0 + t1) = t0 + t1 := wrapN (by omega) (by omega)
  have hwr2 : IntKind.i64.wrap (t0 + t1 - 1) = t0 + t1 - 1 := wrapN (by omega) (by omega)
  have m1 : 1 ≤ c0 ∧ c0 ≤ 4 := ⟨by omega, by omega⟩
  have m2 : 1 ≤ c1 ∧ c1 ≤ 4 := ⟨by omega, by omega⟩
  obtain ⟨w2, hw2⟩ : ∃ w2, w2 = w1.alloc (.cells #[.int .i64 5, .slice an l.length cn, .slice none 0 0, .slice none 0 0, .int .i64 t1] 25) := ⟨_, rfl⟩
  have o2 : Row w2 w1.heap.size 25 [.int .i64 5, .slice an l.length cn, .slice none 0 0, .slice none 0 0, .int .i64 t1] := by rw [hw2]; exact Row.new w1 _ _
  have hb2 : Below w1.heap.size w1 w2 := by rw [hw2]; exact below_alloc _ _
  go_upto_region 6 with fail
  rw [← hw2]
  clear hw2 a0 a1 b0 b1 g0' g1' g2' g3' g4' g5' g6' g7' g8' g9'
  have B2 := below_and B1 le hb2
  have x2 := x1.below hb2
  have y2 := y1.below hb2
  obtain ⟨bo, hbo⟩ : ∃ bo, bo = w1.heap.size := ⟨_, rfl⟩
  rw [← hbo] at o2 ⊢
  clear hbo x1 y1 B1 hb2
  have hop : ∀ u, Below w.heap.size w u → ROp Any u [.int .i64 5, .slice an l.length cn, .slice none 0 0, .slice none 0 0, .int .i64 t1] (5, l, [], [], t1) := fun u hu => ⟨_, _, _, rfl, rt_any (hn.below hu), RT.nil _ _, RT.nil _ _⟩
  have hzo : szO (5, l, [], [], t1) := ⟨by show l.length ≤ _; omega, by simp [szT], by simp [szT]⟩
  have hD1 := doS_any w2 (.slice none 0 0) [] (RL.nil _ _ _ _) ⟨by simp, fun y hy => by cases hy⟩ _ _ (hop w2 B2) hzo c0 t0
  rw [over1 p1 p2 m1 ⟨by omega, by omega⟩ (by omega) (by omega)] at hD1
  have HD1 := (show Hid (∀ _ : Unit, _) from fun _ => hD1)
  have a0 := x2.cell (j := 0) rfl
  have b0 := y2.cell (j := 0) rfl
  clear hD1
  go_upto_region 7 with (first
    | (refine wl_load rfl _ _ rfl bo rfl _ _ o2 _ Try.underlying25 rfl (by kernel_rfl) ?_)
    | (go_at_call 21; refine (HD1.out ()).mono ?_; rintro e w3 ⟨v3, vv3, rfl, hL3, t3, hb3⟩; have n3 := Row.new w3 30 [.int .i64 0, .slice none 0 0])
    | (refine wl_store rfl _ _ _ rfl w3.heap.size [.int .i64 0, vv3] rfl rfl _ _ n3 rfl (by kernel_rfl) (one_res t3.one) ?_; intro w4 hr4 hg4))
  have q4 : Below w3.heap.size w3 w4 := (below_alloc w3 _).trans (grown_below hg4 (by simp) (fun k hk => by cases hk; exact Nat.le_refl _))
  have q24 := below_and hb3 (Nat.le_refl _) q4
  have B4 := below_and B2 le q24
  have x4 := x2.below q24
  have y4 := y2.below q24
  have o4 := o2.below q24
  have z4 := hr4.out
  have hR4 := Rs.rl (hL3.below mov_olea q4)
  obtain ⟨bx, hbx⟩ : ∃ bx, bx = w3.heap.size := ⟨_, rfl⟩
  rw [← hbx] at z4 ⊢
  clear hbx hr4 hg4 n3 t3 hL3 hb3 q4 HD1 a0 b0 x2 y2 o2 q24
  obtain ⟨cd, hcd⟩ : ∃ cd : Int, cd = if c0 = c1 then 0 else 4 := ⟨_, rfl⟩
  have HCD := (show Hid (cd = if c0 = c1 then 0 else 4) from hcd)
  clear hcd
  have SK7 := (show Hid (∀ u, Below w4.heap.size w4 u → u.cell? ⟨bo, 0, none⟩ = some (.int .i64 5) ∧ u.cell? ⟨bo, 1, none⟩ = some (.slice an l.length cn) ∧ u.cell? ⟨bo, 2, none⟩ = some (.slice none 0 0) ∧ u.cell? ⟨bo, 3, none⟩ = some (.slice none 0 0) ∧ u.cell? ⟨bo, 4, none⟩ = some (.int .i64 t1) ∧ u.cell? ⟨w.heap.size, 1, none⟩ = some (.int .i64 c1) ∧ u.cell? ⟨w.heap.size + 1, 0, none⟩ = some (.int .i64 t0) ∧ u.cell? ⟨w.heap.size + 1, 1, none⟩ = some (.int .i64 t1)) from fun u hu => ⟨(o4.below hu).cell (j := 0) rfl, (o4.below hu).cell (j := 1) rfl, (o4.below hu).cell (j := 2) rfl, (o4.below hu).cell (j := 3) rfl, (o4.below hu).cell (j := 4) rfl, (x4.below hu).cell (j := 1) rfl, (y4.below hu).cell (j := 0) rfl, (y4.below hu).cell (j := 1) rfl⟩)
  have HC7 := (show Hid (∀ u, Below w4.heap.size w4 u → Calls Try.prog 20 #[v3] u fun e w' => ∃ v', e = .returned v' ∧ Hid (∀ u', Below w'.heap.size w' u' → RL RLea 3 Any u' v' [(l, [c0, t0 + t1])]) ∧ Below u.heap.size u w' ∧ Below w4.heap.size w4 w') from fun u hu => (refCopyS_any u v3 _ (hR4.mv mov_lea hu.size (Mv.below hu)) (sz_one p2)).mono fun e w' ⟨v', e1, e2, e3⟩ => ⟨v', e1, fun u' hu' => ((e2.rl mov_lea).mv mov_lea (Nat.le_refl _) Mv.any).mv mov_lea hu'.size (Mv.below hu'), e3, below_and hu (Nat.le_refl _) e3⟩)
  have HD7 := (show Hid (∀ (u : World) (v5 : Value), Below w4.heap.size w4 u → RL RLea 3 Any u v5 [(l, [c0, t0 + t1])] → Calls Try.prog 21 #[v5, .agg #[.int .i64 5, .slice an l.length cn, .slice none 0 0, .slice none 0 0, .int .i64 t1], .int .i64 c1, .int .i64 (t0 + t1 - 1)] u fun e w' => ∃ v' ax n cx, e = .returned (.tuple #[v', .agg #[.int .i64 (cd), .slice ax n cx]]) ∧ Below u.heap.size u w' ∧ Below w4.heap.size w4 w') from fun u v5 hu h5 => by
    have := doS_any u v5 _ h5 (sz_one p2) _ _ (hop u (below_and B4 le hu)) hzo c1 (t0 + t1 - 1)
    refine this.mono ?_
    rintro e w' ⟨v', vv, rfl, e2, e3, e4⟩
    obtain ⟨ax, cx, rfl, _⟩ := e3.rt.form
    rw [over2 p1 p2 m1 m2 ⟨by omega, by omega⟩ (by omega) (by omega) (by omega) (by omega), ← HCD.out]
    exact ⟨_, _, _, _, rfl, e4, below_and hu (Nat.le_refl _) e4⟩)
  have hdw7 : Below w4.heap.size w4 w4.drew := ⟨rfl, rfl, rfl, Nat.le_refl _, fun _ _ => rfl⟩
  try go_simp
  go_cut [10, 11] from 18 (fun sa sb wx => ∃ (b : Nat) (vv : Value), sb = .pointer (some ⟨b, 0, none⟩) ∧ Row wx b 30 [.int .i64 (cd), vv] ∧ Below w4.heap.size w4 wx)
  case first =>
    go_wp2_with fail
    go_region_held3 (fun u => u.cell? ⟨bo, 0, none⟩ = some (.int .i64 5) ∧ u.cell? ⟨bo, 1, none⟩ = some (.slice an l.length cn) ∧ u.cell? ⟨bo, 2, none⟩ = some (.slice none 0 0) ∧ u.cell? ⟨bo, 3, none⟩ = some (.slice none 0 0) ∧ u.cell? ⟨bo, 4, none⟩ = some (.int .i64 t1) ∧ u.cell? ⟨w.heap.size, 1, none⟩ = some (.int .i64 c1) ∧ u.cell? ⟨w.heap.size + 1, 0, none⟩ = some (.int .i64 t0) ∧ u.cell? ⟨w.heap.size + 1, 1, none⟩ = some (.int .i64 t1))
      (first | exact SK7.out _ (bel_set2S (by assumption) (Nat.le_refl _) (by first | exact Nat.le_refl _ | exact Below.size (by assumption))) | exact SK7.out _ (by first | assumption | exact Below.drew (by assumption) | exact below_and (by assumption) (Nat.le_refl _) (below_alloc _ _) | exact Below.drew (below_and (by assumption) (Nat.le_refl _) (below_alloc _ _)) | exact below_and (Below.drew (by assumption)) (Nat.le_refl _) (below_alloc _ _)) | go_keep)
      (first
        | (go_at_call 21; refine (HD7.out _ _ (by first | assumption | exact Below.drew (by assumption) | exact below_and (by assumption) (Nat.le_refl _) (below_alloc _ _) | exact Below.drew (below_and (by assumption) (Nat.le_refl _) (below_alloc _ _)) | exact below_and (Below.drew (by assumption)) (Nat.le_refl _) (below_alloc _ _)) (rc.out _ (by first | exact Below.refl _ _ | assumption | exact below_alloc _ _ | exact below_and (by assumption) (Nat.le_refl _) (below_alloc _ _) | exact below_and (below_alloc _ _) (Nat.le_refl _) (by assumption)))).mono ?_; rintro e w6 ⟨v6, ax6, n6, cx6, rfl, hb6, hB6⟩; (first | (have q := (Row.new _ 30 [.int .i64 0, .slice none 0 0]).below hb6; have qc0 := q.cell (j := 0) rfl; have qc1 := q.cell (j := 1) rfl; have qf0 := q.frozen 0; have qf1 := q.frozen 1) | (have q := (Row.new _ 30 [.int .i64 0, .slice none 0 0]).drew.below hb6; have qc0 := q.cell (j := 0) rfl; have qc1 := q.cell (j := 1) rfl; have qf0 := q.frozen 0; have qf1 := q.frozen 1) | (have q := q.below hb6; have qc0 := q.cell (j := 0) rfl; have qc1 := q.cell (j := 1) rfl; have qf0 := q.frozen 0; have qf1 := q.frozen 1) | skip))
        | (go_at_call 20; refine (HC7.out _ (by first | assumption | exact Below.drew (by assumption) | exact below_and (by assumption) (Nat.le_refl _) (below_alloc _ _) | exact Below.drew (below_and (by assumption) (Nat.le_refl _) (below_alloc _ _)) | exact below_and (Below.drew (by assumption)) (Nat.le_refl _) (below_alloc _ _))).mono ?_; rintro e w5 ⟨v5, rfl, rc, hb5, hB5⟩; (first | (have q := (Row.new _ 30 [.int .i64 0, .slice none 0 0]).below hb5; have qc0 := q.cell (j := 0) rfl; have qc1 := q.cell (j := 1) rfl; have qf0 := q.frozen 0; have qf1 := q.frozen 1) | (have q := (Row.new _ 30 [.int .i64 0, .slice none 0 0]).drew.below hb5; have qc0 := q.cell (j := 0) rfl; have qc1 := q.cell (j := 1) rfl; have qf0 := q.frozen 0; have qf1 := q.frozen 1) | (have q := q.below hb5; have qc0 := q.cell (j := 0) rfl; have qc1 := q.cell (j := 1) rfl; have qf0 := q.frozen 0; have qf1 := q.frozen 1) | skip)))
    all_goals (
      first
        | (obtain ⟨w7, hw7, r7, g7⟩ := aftR1 (w5 := w6) (c := cd) (vv := .slice ax6 n6 cx6); have hlo : w4.heap.size ≤ w6.heap.size := hB6.size; rw [← hw7])
        | (obtain ⟨w7, hw7, r7, g7⟩ := aftR2 (c := cd) (vv := .slice ax6 n6 cx6) q; rw [← hw7])
      have B7 : Below w4.heap.size w4 w7 := hB6.trans (grown_below g7 hB6.size (fun k hk => by cases hk; first | exact hB6.size | exact hB5.size | exact Nat.le_refl _))
      go_wp2_with fail
      go_meet
      case rel => exact ⟨_, _, rfl, r7, B7⟩)
  case rest =>
    clear SK7 HC7 HD7 hdw7
    obtain ⟨b7, vv7, rfl, z7, q7⟩ := hcut
    have Bc := below_and B4 le q7
    have xc := x4.below q7
    have yc := y4.below q7
    have oc := o4.below q7
    have zc := z4.below q7
    have hRc := hR4.mv mov_lea q7.size (Mv.below q7)
    clear q7 x4 y4 o4 z4 hR4 B4
    go_upto_region 8 with fail
    have SK8 := (show Hid (∀ u, Below wc.heap.size wc u → u.cell? ⟨bo, 0, none⟩ = some (.int .i64 5) ∧ u.cell? ⟨bo, 1, none⟩ = some (.slice an l.length cn) ∧ u.cell? ⟨bo, 2, none⟩ = some (.slice none 0 0) ∧ u.cell? ⟨bo, 3, none⟩ = some (.slice none 0 0) ∧ u.cell? ⟨bo, 4, none⟩ = some (.int .i64 t1) ∧ u.cell? ⟨w.heap.size, 1, none⟩ = some (.int .i64 c1) ∧ u.cell? ⟨w.heap.size + 1, 0, none⟩ = some (.int .i64 t0) ∧ u.cell? ⟨w.heap.size + 1, 1, none⟩ = some (.int .i64 t1)) from fun u hu => ⟨(oc.below hu).cell (j := 0) rfl, (oc.below hu).cell (j := 1) rfl, (oc.below hu).cell (j := 2) rfl, (oc.below hu).cell (j := 3) rfl, (oc.below hu).cell (j := 4) rfl, (xc.below hu).cell (j := 1) rfl, (yc.below hu).cell (j := 0) rfl, (yc.below hu).cell (j := 1) rfl⟩)
    have HC8 := (show Hid (∀ u, Below wc.heap.size wc u → Calls Try.prog 20 #[v3] u fun e w' => ∃ v', e = .returned v' ∧ Hid (∀ u', Below w'.heap.size w' u' → RL RLea 3 Any u' v' [(l, [c0, t0 + t1])]) ∧ Below u.heap.size u w' ∧ Below wc.heap.size wc w') from fun u hu => (refCopyS_any u v3 _ (hRc.mv mov_lea hu.size (Mv.below hu)) (sz_one p2)).mono fun e w' ⟨v', e1, e2, e3⟩ => ⟨v', e1, fun u' hu' => ((e2.rl mov_lea).mv mov_lea (Nat.le_refl _) Mv.any).mv mov_lea hu'.size (Mv.below hu'), e3, below_and hu (Nat.le_refl _) e3⟩)
    have HD8 := (show Hid (∀ (u : World) (v5 : Value), Below wc.heap.size wc u → RL RLea 3 Any u v5 [(l, [c0, t0 + t1])] → Calls Try.prog 21 #[v5, .agg #[.int .i64 5, .slice an l.length cn, .slice none 0 0, .slice none 0 0, .int .i64 t1], .int .i64 c1, .int .i64 (t0 + t1)] u fun e w' => ∃ v' ax n cx, e = .returned (.tuple #[v', .agg #[.int .i64 (0), .slice ax n cx]]) ∧ Below u.heap.size u w' ∧ Below wc.heap.size wc w') from fun u v5 hu h5 => by
      have := doS_any u v5 _ h5 (sz_one p2) _ _ (hop u (below_and Bc le hu)) hzo c1 (t0 + t1)
      refine this.mono ?_
      rintro e w' ⟨v', vv, rfl, e2, e3, e4⟩
      obtain ⟨ax, cx, rfl, _⟩ := e3.rt.form
      rw [over3 p1 p2 m1 m2 ⟨by omega, by omega⟩ (by omega) (by omega)]
      exact ⟨_, _, _, _, rfl, e4, below_and hu (Nat.le_refl _) e4⟩)
    have hdw8 : Below wc.heap.size wc wc.drew := ⟨rfl, rfl, rfl, Nat.le_refl _, fun _ _ => rfl⟩
    try go_simp
    go_cut [12, 13] from 18 (fun sa sb wx => ∃ (b : Nat) (vv : Value), sb = .pointer (some ⟨b, 0, none⟩) ∧ Row wx b 30 [.int .i64 (0), vv] ∧ Below wc.heap.size wc wx)
    case first =>
      go_wp2_with fail
      go_region_held3 (fun u => u.cell? ⟨bo, 0, none⟩ = some (.int .i64 5) ∧ u.cell? ⟨bo, 1, none⟩ = some (.slice an l.length cn) ∧ u.cell? ⟨bo, 2, none⟩ = some (.slice none 0 0) ∧ u.cell? ⟨bo, 3, none⟩ = some (.slice none 0 0) ∧ u.cell? ⟨bo, 4, none⟩ = some (.int .i64 t1) ∧ u.cell? ⟨w.heap.size, 1, none⟩ = some (.int .i64 c1) ∧ u.cell? ⟨w.heap.size + 1, 0, none⟩ = some (.int .i64 t0) ∧ u.cell? ⟨w.heap.size + 1, 1, none⟩ = some (.int .i64 t1))
        (first | exact SK8.out _ (bel_set2S (by assumption) (Nat.le_refl _) (by first | exact Nat.le_refl _ | exact Below.size (by assumption))) | exact SK8.out _ (by first | assumption | exact Below.drew (by assumption) | exact below_and (by assumption) (Nat.le_refl _) (below_alloc _ _) | exact Below.drew (below_and (by assumption) (Nat.le_refl _) (below_alloc _ _)) | exact below_and (Below.drew (by assumption)) (Nat.le_refl _) (below_alloc _ _)) | go_keep)
        (first
          | (go_at_call 21; refine (HD8.out _ _ (by first | assumption | exact Below.drew (by assumption) | exact below_and (by assumption) (Nat.le_refl _) (below_alloc _ _) | exact Below.drew (below_and (by assumption) (Nat.le_refl _) (below_alloc _ _)) | exact below_and (Below.drew (by assumption)) (Nat.le_refl _) (below_alloc _ _)) (rc.out _ (by first | exact Below.refl _ _ | assumption | exact below_alloc _ _ | exact below_and (by assumption) (Nat.le_refl _) (below_alloc _ _) | exact below_and (below_alloc _ _) (Nat.le_refl _) (by assumption)))).mono ?_; rintro e w6 ⟨v6, ax6, n6, cx6, rfl, hb6, hB6⟩; (first | (have q := (Row.new _ 30 [.int .i64 0, .slice none 0 0]).below hb6; have qc0 := q.cell (j := 0) rfl; have qc1 := q.cell (j := 1) rfl; have qf0 := q.frozen 0; have qf1 := q.frozen 1) | (have q := (Row.new _ 30 [.int .i64 0, .slice none 0 0]).drew.below hb6; have qc0 := q.cell (j := 0) rfl; have qc1 := q.cell (j := 1) rfl; have qf0 := q.frozen 0; have qf1 := q.frozen 1) | (have q := q.below hb6; have qc0 := q.cell (j := 0) rfl; have qc1 := q.cell (j := 1) rfl; have qf0 := q.frozen 0; have qf1 := q.frozen 1) | skip))
          | (go_at_call 20; refine (HC8.out _ (by first | assumption | exact Below.drew (by assumption) | exact below_and (by assumption) (Nat.le_refl _) (below_alloc _ _) | exact Below.drew (below_and (by assumption) (Nat.le_refl _) (below_alloc _ _)) | exact below_and (Below.drew (by assumption)) (Nat.le_refl _) (below_alloc _ _))).mono ?_; rintro e w5 ⟨v5, rfl, rc, hb5, hB5⟩; (first | (have q := (Row.new _ 30 [.int .i64 0, .slice none 0 0]).below hb5; have qc0 := q.cell (j := 0) rfl; have qc1 := q.cell (j := 1) rfl; have qf0 := q.frozen 0; have qf1 := q.frozen 1) | (have q := (Row.new _ 30 [.int .i64 0, .slice none 0 0]).drew.below hb5; have qc0 := q.cell (j := 0) rfl; have qc1 := q.cell (j := 1) rfl; have qf0 := q.frozen 0; have qf1 := q.frozen 1) | (have q := q.below hb5; have qc0 := q.cell (j := 0) rfl; have qc1 := q.cell (j := 1) rfl; have qf0 := q.frozen 0; have qf1 := q.frozen 1) | skip)))
      all_goals (
        first
          | (obtain ⟨w7, hw7, r7, g7⟩ := aftR1 (w5 := w6) (c := 0) (vv := .slice ax6 n6 cx6); have hlo : wc.heap.size ≤ w6.heap.size := hB6.size; rw [← hw7])
          | (obtain ⟨w7, hw7, r7, g7⟩ := aftR2 (c := 0) (vv := .slice ax6 n6 cx6) q; rw [← hw7])
        have B7 : Below wc.heap.size wc w7 := hB6.trans (grown_below g7 hB6.size (fun k hk => by cases hk; first | exact hB6.size | exact hB5.size | exact Nat.le_refl _))
        go_wp2_with fail
        go_meet
        case rel => exact ⟨_, _, rfl, r7, B7⟩)
    case rest =>
      clear SK8 HC8 HD8 hdw8
      obtain ⟨b9, vv9, rfl, z9, q9⟩ := hcut
      have B9 := below_and Bc le q9
      have x9 := xc.below q9
      have y9 := yc.below q9
      have r9 := zc.below q9
      have s9 := z7.below q9
      have hR9 := hRc.mv mov_lea q9.size (Mv.below q9)
      clear q9 xc yc zc z7 hRc Bc oc
      have hH1 := holder_any _ v3 _ hR9 _ _ (hn.below B9) (t0 + t1 - 1)
      rw [over4 (by omega)] at hH1
      generalize (holS [(l, [c0, t0 + t1])] l (t0 + t1 - 1)).2 = k1 at hH1
      have b0 := y9.cell (j := 0) rfl
      have b1 := y9.cell (j := 1) rfl
      go_upto_region 10 with (go_at_call 18; refine hH1.mono ?_; rintro e w11 ⟨rfl, hb11⟩)
      have B11 := below_and B9 le hb11
      have hH2 := holder_any w11 v3 _ (hR9.mv mov_lea hb11.size (Mv.below hb11)) _ _ (hn.below B11) (t0 + t1)
      rw [over5] at hH2
      generalize (holS [(l, [c0, t0 + t1])] l (t0 + t1)).2 = k2 at hH2
      have d0 := (y9.below hb11).cell (j := 0) rfl
      have d1 := (y9.below hb11).cell (j := 1) rfl
      clear b0 b1
      go_upto_region 11 with (go_at_call 18; refine hH2.mono ?_; rintro e w12 ⟨rfl, hb12⟩)
      have q12 := below_and hb11 (Nat.le_refl _) hb12
      have e0 := (x9.below q12).cell (j := 0) rfl
      have e1 := (x9.below q12).cell (j := 1) rfl
      have f0 := (r9.below q12).cell (j := 0) rfl
      have f1 := (s9.below q12).cell (j := 0) rfl
      have f2 := (z9.below q12).cell (j := 0) rfl
      clear d0 d1 hH1 hH2
      by_cases hcc : c0 = c1
      · have h0 : cd = 0 := by rw [HCD.out, if_pos hcc]
        subst h0
        subst hcc
        have hbb : (c0 != c0) = false := by simp
        go_wp2_with fail
        go_ret
        exact ⟨rfl, below_and B11 le hb12⟩
      · have h4 : cd = 4 := by rw [HCD.out, if_neg hcc]
        subst h4
        have hbb : (c0 != c1) = true := by simp [hcc]
        clear hcc
        go_wp2_with fail
        go_ret
        exact ⟨rfl, below_and B11 le hb12⟩
end Go.Proofs.Ytbnioibeckifbaa
