/- catenarylaw07.KvKeeps: its walk. -/
import Derived.Test.YtmfmfjndigjlfabKp
import Derived.Deep.Cut
import Derived.Sort.AtCall
set_option linter.unusedVariables false
set_option linter.unusedSimpArgs false
namespace Go.Proofs.Ytmfmfjndigjlfab
open Go.RowKit Oct Kvl

theorem bel_set2 {B b : Nat} {w u : World} {x y : Value} (h : Below B w u) (hw : B ≤ w.heap.size) (hb : B ≤ b) : Below B w ((u.setCell ⟨b, 0, none⟩ x).setCell ⟨b, 1, none⟩ y) :=
  h.trans (grown_below (grown_trans (grown_set u b 0 x) (grown_set _ b 1 y) (.inl rfl)) (Nat.le_trans hw h.size) (fun k hk => by cases hk; exact hb))

theorem rgt_sz {ys : List PEnt} (h : rgtL ys) : szL 48 szE ys := ⟨by have := h.1; omega, fun y hy => by have := h.2.2 y hy; unfold rgt1 at this; exact ⟨by unfold szT; omega, by unfold szT; omega⟩⟩
/-- Behind a call of Do: its result in a box of its own. -/
theorem aft1 {B : Nat} {w5 : World} {v5 vv : Value} {D : List PEnt × Int × List Int} (hL : LB OEnt 50 2 B w5 v5 D.1) (ht : OT (From B) w5 vv D.2.2) :
    ∃ w6, w6 = w5.alloc (.cells #[.int .i64 D.2.1, vv] 43) ∧ RL REnt 2 Any w6 v5 D.1 ∧ Rd w6 vv D.2.2 ∧ Row w6 w5.heap.size 43 [.int .i64 D.2.1, vv] ∧ w5.grownBy w6 (some w5.heap.size) :=
  ⟨_, rfl, (Rp.rl hL).mv mov_ent (below_alloc _ _).size (Mv.below (below_alloc _ _)), ht.rt.1.below (below_alloc _ _), Row.new _ _ _, grown_of_below (below_alloc _ _) _⟩
theorem aft2 {B b : Nat} {w5 : World} {v5 vv x y : Value} {D : List PEnt × Int × List Int} (hL : LB OEnt 50 2 B w5 v5 D.1) (ht : OT (From B) w5 vv D.2.2) (q : Row w5 b 43 [x, y]) :
    ∃ w6, w6 = (w5.setCell ⟨b, 0, none⟩ (.int .i64 D.2.1)).setCell ⟨b, 1, none⟩ vv ∧ RL REnt 2 Any w6 v5 D.1 ∧ Rd w6 vv D.2.2 ∧ Row w6 b 43 [.int .i64 D.2.1, vv] ∧ w5.grownBy w6 (some b) := by
  have hg : w5.grownBy ((w5.setCell ⟨b, 0, none⟩ (.int .i64 D.2.1)).setCell ⟨b, 1, none⟩ vv) (some b) := grown_trans (grown_set w5 b 0 _) (grown_set _ b 1 _) (.inl rfl)
  exact ⟨_, rfl, Rp.rl (hL.grownR q (by decide) (by decide) hg), ((ht.ne q (by decide)).mv (G' := Any) (fun k hk hlt => ⟨hg.block k hlt (fun e => by injection e with e; exact hk.2 e), trivial⟩)).rt.1, (q.set 0 _).set 1 _, hg⟩

set_option maxRecDepth 10000 in
set_option maxHeartbeats 4000000 in
theorem keeps_any (w : World) (v : Value) (ys : List PEnt) (r : List Value) (o : POp) (ov : Value) (l : List Int) (h0 : RL REnt 2 Any w v ys) (h1 : ROp Any w r o) (h2 : Rd w ov l) (z0 : szL 48 szE ys) (z1 : szO o) :
    Calls Try.prog 6 #[v, .agg r.toArray, ov] w fun e w' => e = .returned (.bool true) ∧ Below w.heap.size w w' := by
  have le := Nat.le_refl w.heap.size
  have hall := h1
  obtain ⟨vn, va, vb, rfl, rn, ra', rb'⟩ := h1
  obtain ⟨w0, hw0⟩ : ∃ w0, w0 = w.alloc (.cells #[.int .i64 o.1, vn, va, vb, .int .i64 o.2.2.2.2] 24) := ⟨_, rfl⟩
  have x0 : Row w0 w.heap.size 24 [.int .i64 o.1, vn, va, vb, .int .i64 o.2.2.2.2] := by rw [hw0]; exact Row.new w 24 _
  have B0 : Below w.heap.size w w0 := by rw [hw0]; exact below_alloc _ _
  go_enter Try.func6, Try.ntmps6
  go_wp2_with fail
  rw [← hw0]
  clear hw0
  refine (kvAlive_any w0).mono ?_
  rintro e w1 ⟨rfl, hb1⟩
  have B1 := below_and B0 le hb1
  have x1 := x0.below hb1
  clear hb1 B0 x0
  go_wp2_with fail
  refine (right_any w1 v ys (h0.mv mov_ent B1.size (Mv.below B1))).mono ?_
  rintro e w2 ⟨rfl, hb2⟩
  have B2 := below_and B1 le hb2
  have x2 := x1.below hb2
  clear hb2 B1 x1
  by_cases hr : rgtL ys
  rotate_left
  · rw [decide_eq_false hr]
    go_wp2_with fail
    go_ret
    exact ⟨rfl, B2⟩
  rw [decide_eq_true hr]
  have HC := (show Hid (∀ u, Below w2.heap.size w2 u → Calls Try.prog 16 #[v] u fun e w' => ∃ v', e = .returned v' ∧ Hid (∀ u', Below w'.heap.size w' u' → RL REnt 2 Any u' v' ys) ∧ Below u.heap.size u w' ∧ Below w2.heap.size w2 w') from fun u hu => (refCopy_any u v ys (h0.mv mov_ent (below_and B2 le hu).size (Mv.below (below_and B2 le hu))) z0).mono fun e w' ⟨v', e1, e2, e3⟩ => ⟨v', e1, fun u' hu' => ((e2.rl mov_ent).mv mov_ent (Nat.le_refl _) Mv.any).mv mov_ent hu'.size (Mv.below hu'), e3, below_and hu (Nat.le_refl _) e3⟩)
  have HO := (show Hid (∀ u, Below w2.heap.size w2 u → Calls Try.prog 10 #[.agg #[.int .i64 o.1, vn, va, vb, .int .i64 o.2.2.2.2]] u fun e w' => ∃ r', e = .returned (.agg r'.toArray) ∧ Hid (∀ u', Below w'.heap.size w' u' → ROp Any u' r' o) ∧ Below u.heap.size u w' ∧ Below w2.heap.size w2 w') from fun u hu => (copyOp_any u _ o (mov_op _ _ _ _ _ _ hall (below_and B2 le hu).size (Mv.below (below_and B2 le hu))) z1).mono fun e w' ⟨v', e1, e2, e3⟩ => ⟨v', e1, fun u' hu' => mov_op _ _ _ _ _ _ e2 hu'.size (fun k hk hlt => ⟨hu'.block k hlt, trivial⟩), e3, below_and hu (Nat.le_refl _) e3⟩)
  have HD := (show Hid (∀ (u : World) (v3 : Value) (r4 : List Value), Below w2.heap.size w2 u → RL REnt 2 Any u v3 ys → ROp Any u r4 o → Calls Try.prog 17 #[v3, .agg r4.toArray] u fun e w' => ∃ v' vv, e = .returned (.tuple #[v', .agg #[.int .i64 (doL ys o).2.1, vv]]) ∧ LB OEnt 50 2 u.heap.size w' v' (doL ys o).1 ∧ OT (From u.heap.size) w' vv (doL ys o).2.2 ∧ Below u.heap.size u w' ∧ Below w2.heap.size w2 w') from fun u v3 r4 hu h3 h4 => (do_any u v3 ys h3 z0 r4 o h4 z1).mono fun e w' ⟨v', vv, e1, e2, e3, e4⟩ => ⟨v', vv, e1, e2, e3, e4, below_and hu (Nat.le_refl _) e4⟩)
  have SK := (show Hid (∀ u, Below w2.heap.size w2 u → u.cell? ⟨w.heap.size, 0, none⟩ = some (.int .i64 o.1) ∧ u.cell? ⟨w.heap.size, 1, none⟩ = some vn ∧ u.cell? ⟨w.heap.size, 2, none⟩ = some va ∧ u.cell? ⟨w.heap.size, 3, none⟩ = some vb ∧ u.cell? ⟨w.heap.size, 4, none⟩ = some (.int .i64 o.2.2.2.2)) from fun u hu => ⟨(x2.below hu).cell (j := 0) rfl, (x2.below hu).cell (j := 1) rfl, (x2.below hu).cell (j := 2) rfl, (x2.below hu).cell (j := 3) rfl, (x2.below hu).cell (j := 4) rfl⟩)
  obtain ⟨a0, a1, a2, a3, a4⟩ := SK.out w2 (Below.refl _ _)
  have hdw : Below w2.heap.size w2 w2.drew := ⟨rfl, rfl, rfl, Nat.le_refl _, fun _ _ => rfl⟩
  go_upto_region 5 with fail
  go_cut [7, 8] from 13 (fun s7 s8 wx => ∃ (b : Nat) (vv : Value), s8 = .pointer (some ⟨b, 0, none⟩) ∧ RL REnt 2 Any wx s7 (doL ys o).1 ∧ Rd wx vv (doL ys o).2.2 ∧ Row wx b 43 [.int .i64 (doL ys o).2.1, vv] ∧ Row wx w.heap.size 24 [.int .i64 o.1, vn, va, vb, .int .i64 o.2.2.2.2] ∧ Below w.heap.size w wx)
  case first =>
    go_wp2_with fail
    go_region_held3 (fun u => u.cell? ⟨w.heap.size, 0, none⟩ = some (.int .i64 o.1) ∧ u.cell? ⟨w.heap.size, 1, none⟩ = some vn ∧ u.cell? ⟨w.heap.size, 2, none⟩ = some va ∧ u.cell? ⟨w.heap.size, 3, none⟩ = some vb ∧ u.cell? ⟨w.heap.size, 4, none⟩ = some (.int .i64 o.2.2.2.2))
      (first | exact SK.out _ (bel_set2 (by assumption) (Nat.le_refl _) (by first | exact Nat.le_refl _ | exact Below.size (by assumption))) | exact SK.out _ (by first | assumption | exact below_and (by assumption) (Nat.le_refl _) (below_alloc _ _) | exact Below.drew (by assumption) | exact Below.drew (below_and (by assumption) (Nat.le_refl _) (below_alloc _ _)) | exact below_and (Below.drew (by assumption)) (Nat.le_refl _) (below_alloc _ _)) | go_keep)
      (first
        | (go_at_call 17; refine (HD.out _ _ _ (by first | assumption | exact Below.drew (by assumption) | exact below_and (by assumption) (Nat.le_refl _) (below_alloc _ _) | exact Below.drew (below_and (by assumption) (Nat.le_refl _) (below_alloc _ _)) | exact below_and (Below.drew (by assumption)) (Nat.le_refl _) (below_alloc _ _)) (rc.out _ (by first | exact Below.refl _ _ | assumption | exact below_alloc _ _ | exact below_and (by assumption) (Nat.le_refl _) (below_alloc _ _) | exact below_and (below_alloc _ _) (Nat.le_refl _) (by assumption))) (ro.out _ (by first | exact Below.refl _ _ | assumption | exact below_alloc _ _ | exact below_and (by assumption) (Nat.le_refl _) (below_alloc _ _) | exact below_and (below_alloc _ _) (Nat.le_refl _) (by assumption)))).mono ?_; rintro e w5 ⟨v5, vv5, rfl, hL5, t5, hb5, hB5⟩; obtain ⟨ax5, cx5, rfl, hcx5⟩ := t5.rt.form; (first | (have q := (Row.new _ 43 [.int .i64 0, .slice none 0 0]).below hb5; have qc0 := q.cell (j := 0) rfl; have qc1 := q.cell (j := 1) rfl; have qf0 := q.frozen 0; have qf1 := q.frozen 1; have qn := (x2.below hB5).apart q (by decide)) | (have q := (Row.new _ 43 [.int .i64 0, .slice none 0 0]).drew.below hb5; have qc0 := q.cell (j := 0) rfl; have qc1 := q.cell (j := 1) rfl; have qf0 := q.frozen 0; have qf1 := q.frozen 1; have qn := (x2.below hB5).apart q (by decide)) | (have q := q.below hb5; have qc0 := q.cell (j := 0) rfl; have qc1 := q.cell (j := 1) rfl; have qf0 := q.frozen 0; have qf1 := q.frozen 1; have qn := (x2.below hB5).apart q (by decide)) | skip))
        | (go_at_call 10; refine (HO.out _ (by first | assumption | exact Below.drew (by assumption) | exact below_and (by assumption) (Nat.le_refl _) (below_alloc _ _) | exact Below.drew (below_and (by assumption) (Nat.le_refl _) (below_alloc _ _)) | exact below_and (Below.drew (by assumption)) (Nat.le_refl _) (below_alloc _ _))).mono ?_; rintro e w4 ⟨r4, rfl, ro, hb4, hB4⟩; (first | (have q := (Row.new _ 43 [.int .i64 0, .slice none 0 0]).below hb4; have qc0 := q.cell (j := 0) rfl; have qc1 := q.cell (j := 1) rfl; have qf0 := q.frozen 0; have qf1 := q.frozen 1; have qn := (x2.below hB4).apart q (by decide)) | (have q := (Row.new _ 43 [.int .i64 0, .slice none 0 0]).drew.below hb4; have qc0 := q.cell (j := 0) rfl; have qc1 := q.cell (j := 1) rfl; have qf0 := q.frozen 0; have qf1 := q.frozen 1; have qn := (x2.below hB4).apart q (by decide)) | (have q := q.below hb4; have qc0 := q.cell (j := 0) rfl; have qc1 := q.cell (j := 1) rfl; have qf0 := q.frozen 0; have qf1 := q.frozen 1; have qn := (x2.below hB4).apart q (by decide)) | skip))
        | (go_at_call 16; refine (HC.out _ (by first | assumption | exact Below.drew (by assumption) | exact below_and (by assumption) (Nat.le_refl _) (below_alloc _ _) | exact Below.drew (below_and (by assumption) (Nat.le_refl _) (below_alloc _ _)) | exact below_and (Below.drew (by assumption)) (Nat.le_refl _) (below_alloc _ _))).mono ?_; rintro e w3 ⟨v3, rfl, rc, hb3, hB3⟩; (first | (have q := (Row.new _ 43 [.int .i64 0, .slice none 0 0]).below hb3; have qc0 := q.cell (j := 0) rfl; have qc1 := q.cell (j := 1) rfl; have qf0 := q.frozen 0; have qf1 := q.frozen 1; have qn := (x2.below hB3).apart q (by decide)) | (have q := (Row.new _ 43 [.int .i64 0, .slice none 0 0]).drew.below hb3; have qc0 := q.cell (j := 0) rfl; have qc1 := q.cell (j := 1) rfl; have qf0 := q.frozen 0; have qf1 := q.frozen 1; have qn := (x2.below hB3).apart q (by decide)) | (have q := q.below hb3; have qc0 := q.cell (j := 0) rfl; have qc1 := q.cell (j := 1) rfl; have qf0 := q.frozen 0; have qf1 := q.frozen 1; have qn := (x2.below hB3).apart q (by decide)) | skip)))
    all_goals (
      first
        | (obtain ⟨w6, hw6, r6, t6, y6, g6⟩ := aft1 hL5 t5; have hn6 : w.heap.size ≠ w5.heap.size := Nat.ne_of_lt (Nat.lt_of_lt_of_le x2.lt hB5.size); rw [← hw6])
        | (obtain ⟨w6, hw6, r6, t6, y6, g6⟩ := aft2 hL5 t5 q; have hn6 := qn; rw [← hw6])
      have x6 := (x2.below hB5).grown g6 (fun e => hn6 (Option.some.inj e).symm)
      have B5 := below_and B2 le hB5
      have B6 : Below w.heap.size w w6 := B5.trans (grown_below g6 B5.size (fun k hk => by cases hk; first | exact B5.size | exact Nat.le_trans B2.size hB4.size | exact Nat.le_trans B2.size hB3.size | exact B2.size))
      go_wp2_with fail
      go_meet
      case rel => exact ⟨_, _, rfl, r6, t6, y6, x6, B6⟩)
  case rest =>
    clear HC HO HD SK hdw a0 a1 a2 a3 a4 x2 B2
    obtain ⟨b, vv, rfl, r6, t6, y6, x6, B6⟩ := hcut
    go_wp2_with fail
    refine (right_any wc _ _ r6).mono ?_
    rintro e w7 ⟨rfl, hb7⟩
    rw [decide_eq_true (doL_rgt hr)]
    have B7 := below_and B6 le hb7
    have r7 := r6.mv mov_ent hb7.size (Mv.below hb7)
    have t7 := t6.below hb7
    have y7 := y6.below hb7
    have x7 := x6.below hb7
    clear hb7 B6 r6 t6 y6 x6
    go_wp2_with fail
    refine (refFind_any w7 v ys (h0.mv mov_ent B7.size (Mv.below B7)) ov l (h2.below B7)).mono ?_
    rintro e w8 ⟨rfl, hb8⟩
    have B8 := below_and B7 le hb8
    have r8 := r7.mv mov_ent hb8.size (Mv.below hb8)
    have t8 := t7.below hb8
    have y8 := y7.below hb8
    have x8 := x7.below hb8
    clear hb8 B7 r7 t7 y7 x7
    go_wp2_with fail
    refine (refFind_any w8 _ _ r8 ov l (h2.below B8)).mono ?_
    rintro e w9 ⟨rfl, hb9⟩
    have B9 := below_and B8 le hb9
    have r9 := r8.mv mov_ent hb9.size (Mv.below hb9)
    have t9 := t8.below hb9
    have y9 := y8.below hb9
    have x9 := x8.below hb9
    clear hb9 B8 r8 t8 y8 x8
    have c1 := x9.cell (j := 1) rfl
    have HS := (show Hid (∀ u, Below w.heap.size w u → Calls Try.prog 12 #[ov, vn] u fun e w' => e = .returned (.bool (decide (l = o.2.1))) ∧ w' = u) from fun u hu => same_any u ov vn _ _ (h2.below hu) (rn.mv (Mv.below hu)).1)
    go_upto_region 9 with fail
    go_cut [9, 10, 64] from 13 (fun _ _ s64 wx => s64 = .bool false ∧ Below w9.heap.size w9 wx)
    case first =>
      by_cases hlo : l = o.2.1
      · rw [decide_eq_true hlo] at HS
        generalize fI l ys = i1
        generalize fI l (doL ys o).1 = i2
        go_wp2_with fail
        go_quiet ((go_at_call 12; exact quiet_as (HS.out _ (bel_dnE B9 _)) rfl))
        go_wp2_with fail
        go_meet
        case rel => exact ⟨rfl, bel_dnE (Below.refl _ _) _⟩
      rw [decide_eq_false hlo] at HS
      have hge := doL_other (o := o) (k := l) hr hlo
      cases hgl : getR l ys with
      | none =>
        rw [hgl] at hge
        have f1 : fI l ys = -1 := fI_none (by rw [fst_pos hr.2.1, if_pos hgl])
        have f2 : fI l (doL ys o).1 = -1 := fI_none (by rw [fst_pos (doL_rgt hr).2.1, if_pos hge])
        rw [f1, f2]
        clear f1 f2 hge hgl hlo
        go_wp2_with fail
        go_quiet ((go_at_call 12; exact quiet_as (HS.out _ (bel_dnE B9 _)) rfl))
        go_wp2_with fail
        go_meet
        case rel => exact ⟨rfl, bel_dnE (Below.refl _ _) _⟩
      | some u =>
        rw [hgl] at hge
        have f1 : fI l ys = pos l ys := fI_some (by rw [fst_pos hr.2.1, if_neg (by rw [hgl]; simp)])
        have f2 : fI l (doL ys o).1 = pos l (doL ys o).1 := fI_some (by rw [fst_pos (doL_rgt hr).2.1, if_neg (by rw [hge]; simp)])
        have e1 := get_some hgl
        have e2 := get_some hge
        rw [f1, f2]
        clear f1 f2 hge hgl hlo
        have hp1 := (List.getElem?_eq_some_iff.1 e1).1
        have hp2 := (List.getElem?_eq_some_iff.1 e2).1
        obtain ⟨b1, o1, c1', rfl, hc1, hm1, _, hb1, hx1⟩ := (h0.mv mov_ent B9.size (Mv.below B9)).at (by omega)
        obtain ⟨b2, o2, c2', rfl, hc2, hm2, _, hb2, hx2⟩ := r9.at (by omega)
        obtain ⟨q1, _, g1, s1, s2, rfl, p1, p2⟩ := hx1 _ _ e1
        obtain ⟨q2, _, g2, s3, s4, rfl, p3, p4⟩ := hx2 _ _ e2
        have d1 := g1 1 _ rfl
        have d2 := g2 1 _ rfl
        have HT := (show Hid (∀ m, Calls Try.prog 12 #[s2, s4] (w9.drewN m) fun e w' => e = .returned (.bool true) ∧ w' = w9.drewN m) from fun m => by
          have := same_any (w9.drewN m) s2 s4 _ _ (p2.mv (Mv.below (bel_dnE (Below.refl _ _) m))).1 (p4.mv (Mv.below (bel_dnE (Below.refl _ _) m))).1
          rw [decide_eq_true rfl] at this
          exact this)
        have hn1 : ((pos l ys : Nat) : Int) < (ys.length : Int) := by omega
        have hn2 : ((pos l (doL ys o).1 : Nat) : Int) < ((doL ys o).1.length : Int) := by omega
        have hz1 : decide (((pos l ys : Nat) : Int) < 0) = false := by simp
        have hz2 : decide (((pos l (doL ys o).1 : Nat) : Int) < 0) = false := by simp
        generalize pos l ys = i1 at *
        generalize pos l (doL ys o).1 = i2 at *
        clear g1 g2 hx1 hx2 p1 p2 p3 p4 e1 e2 r9 h0
        go_wp2_with fail
        go_quiet (first | (go_at_call_has 12 ov; exact quiet_as (HS.out _ (bel_dnE B9 _)) rfl) | (go_at_call_has 12 s2; exact quiet_as (HT.out _) rfl))
        go_wp2_with fail
        go_meet
        case rel => exact ⟨rfl, bel_dnE (Below.refl _ _) _⟩
    case rest =>
      obtain ⟨rfl, hbc⟩ := hcut
      have B10 := below_and B9 le hbc
      have r10 := r9.mv mov_ent hbc.size (Mv.below hbc)
      have t10 := t9.below hbc
      have y10 := y9.below hbc
      have x10 := x9.below hbc
      have n10 := (rn.mv (Mv.below B10)).1
      clear HS c1 hbc r9 t9 y9 x9 B9
      have c1 := (rowA x10 (.cells #[] 5)).cell (j := 1) rfl
      obtain ⟨zn1, zn2, zn3⟩ := z1
      have HD := (show Hid (∀ (u : World) (nv : Value), RL REnt 2 Any u u7 (doL ys o).1 → Rd u nv o.2.1 → Calls Try.prog 17 #[u7, .agg #[.int .i64 1, nv, .slice none 0 0, .slice none 0 0, .int .i64 0]] u fun e w' => ∃ v' vv, e = .returned (.tuple #[v', .agg #[.int .i64 (doL (doL ys o).1 (1, o.2.1, [], [], 0)).2.1, vv]]) ∧ RT Any w' vv (doL (doL ys o).1 (1, o.2.1, [], [], 0)).2.2 ∧ Below u.heap.size u w') from fun u nv h3 h4 => (do_any u u7 _ h3 (rgt_sz (doL_rgt hr)) [.int .i64 1, nv, .slice none 0 0, .slice none 0 0, .int .i64 0] (1, o.2.1, [], [], 0) ⟨_, _, _, rfl, rt_any h4, RT.nil _ _, RT.nil _ _⟩ ⟨zn1, by simp [szT], by simp [szT]⟩).mono fun e w' ⟨v', vv, e1, e2, e3, e4⟩ => ⟨v', vv, e1, e3.rt.weak, e4⟩)
      generalize hDD : doL (doL ys o).1 (1, o.2.1, [], [], 0) = DD at HD
      have HDD := (show Hid (doL (doL ys o).1 (1, o.2.1, [], [], 0) = DD) from hDD)
      clear hDD
      go_upto_region 11 with fail
      go_upto_region 12 with (first
        | (at_builtin; refine app_copy rfl _ _ rfl rfl _ o.2.1 rfl n10 (Nat.le_trans zn1 (by decide)) ?_; intro v11 w11 hown11 hfr11 hb11; have n11 := hown11.rd n10.1; clear hown11 hfr11; obtain ⟨ax11, cx11, rfl, hcx11⟩ := n11.form; have r11 := r10.mv mov_ent hb11.size (Mv.below hb11))
        | (go_at_call 17; refine (HD.out _ _ r11 n11).mono ?_; rintro e w12 ⟨v12, vv12, rfl, t12, hb12⟩; have hb12' := below_and hb11 (Nat.le_refl _) hb12; have m12 := Row.new w12 43 [.int .i64 0, .slice none 0 0])
        | (refine wl_store rfl _ _ _ rfl w12.heap.size [.int .i64 DD.2.1, vv12] rfl rfl _ _ m12 rfl (by kernel_rfl) (one_res t12.one) ?_; intro w13 hr13 hg13))
      have hb13 : Below w12.heap.size w12 w13 := (below_alloc w12 _).trans (grown_below hg13 (by simp) (fun k hk => by cases hk; exact Nat.le_refl _))
      have hb13' := below_and hb12' (Nat.le_refl _) hb13
      have B13 := below_and B10 le hb13'
      have y13 := y10.below hb13'
      have x13 := x10.below hb13'
      have t13 := (t12.mv (Mv.below hb13)).1
      have k0 := x13.cell (j := 0) rfl
      have k2 := x13.cell (j := 2) rfl
      have k3 := x13.cell (j := 3) rfl
      have l0 := y13.cell (j := 0) rfl
      have j0 := hr13.out.cell (j := 0) rfl
      have j1 := hr13.out.cell (j := 1) rfl
      have sA := same_any w13 vv12 va _ _ t13 (ra'.mv (Mv.below B13)).1
      have sB := same_any w13 vv12 vb _ _ t13 (rb'.mv (Mv.below B13)).1
      clear hb13 hb13' hb12 hb12' hb11 t12 m12 hg13 r11 n11 n10 r10 t10 y10 x10 x13 y13 hr13 c1 HD t13 B10
      by_cases q2 : o.1 = 2
      · have b2 : (o.1 == 2) = true := by simp [q2]
        by_cases hc : (doL ys o).2.1 = 0
        · have e := put_got hr hc q2
          rw [HDD.out] at e
          rw [show DD.2.1 = 0 by rw [e]] at j0
          rw [decide_eq_true (show DD.2.2 = o.2.2.1 by rw [e])] at sA
          rw [hc] at l0
          clear e hc q2
          go_wp2_with (go_at_call 12; refine sA.mono ?_; rintro e w13 ⟨rfl, rfl⟩)
          go_ret
          exact ⟨rfl, B13⟩
        · have bc : ((doL ys o).2.1 == 0) = false := by simp [hc]
          have b3 : (o.1 == 3) = false := by simp [q2]
          have b4 : (o.1 != 4) = true := by simp [q2]
          clear hc q2
          go_wp2_with fail
          go_ret
          exact ⟨rfl, B13⟩
      have b2 : (o.1 == 2) = false := by simp [q2]
      by_cases q3 : o.1 = 3
      · have b3 : (o.1 == 3) = true := by simp [q3]
        by_cases hc : (doL ys o).2.1 = 0
        · have e := cas_got hr hc q3
          rw [HDD.out] at e
          rw [show DD.2.1 = 0 by rw [e]] at j0
          rw [decide_eq_true (show DD.2.2 = o.2.2.2.1 by rw [e])] at sB
          rw [hc] at l0
          clear e hc q2 q3
          go_wp2_with (go_at_call 12; refine sB.mono ?_; rintro e w13 ⟨rfl, rfl⟩)
          go_ret
          exact ⟨rfl, B13⟩
        · have bc : ((doL ys o).2.1 == 0) = false := by simp [hc]
          have b4 : (o.1 != 4) = true := by simp [q3]
          clear hc q2 q3
          go_wp2_with fail
          go_ret
          exact ⟨rfl, B13⟩
      have b3 : (o.1 == 3) = false := by simp [q3]
      by_cases q4 : o.1 = 4
      · have b4 : (o.1 != 4) = false := by simp [q4]
        by_cases hc : (doL ys o).2.1 = 5
        · have bc : ((doL ys o).2.1 == 5) = true := by simp [hc]
          clear hc q2 q3 q4
          go_wp2_with fail
          go_ret
          exact ⟨rfl, B13⟩
        · have bc : ((doL ys o).2.1 == 5) = false := by simp [hc]
          have e := del_got hr hc q4
          rw [HDD.out] at e
          rw [e] at j0
          clear e hc q2 q3 q4
          go_wp2_with fail
          go_ret
          exact ⟨rfl, B13⟩
      · have b4 : (o.1 != 4) = true := by simp [q4]
        clear q2 q3 q4
        go_wp2_with fail
        go_ret
        exact ⟨rfl, B13⟩
end Go.Proofs.Ytmfmfjndigjlfab
