/- catenarylaw07.KvCommutes: its walk. -/
import Derived.Test.YtmfmfjndigjlfabLKvKeeps
set_option linter.unusedVariables false
set_option linter.unusedSimpArgs false
namespace Go.Proofs.Ytmfmfjndigjlfab
open Go.RowKit Oct Kvl

set_option maxRecDepth 10000 in
set_option maxHeartbeats 4000000 in
theorem commutes_any (w : World) (v : Value) (ys : List PEnt) (ra rb : List Value) (a b : POp) (h0 : RL REnt 2 Any w v ys) (h1 : ROp Any w ra a) (h2 : ROp Any w rb b) (z0 : szL 48 szE ys) (z1 : szO a) (z2 : szO b) :
    Calls Try.prog 7 #[v, .agg ra.toArray, .agg rb.toArray] w fun e w' => e = .returned (.bool true) ∧ Below w.heap.size w w' := by
  have le := Nat.le_refl w.heap.size
  have hA := h1
  have hB := h2
  obtain ⟨an, aa, ab, rfl, rna, raa, rba⟩ := h1
  obtain ⟨bn, ba, bb, rfl, rnb, rab, rbb⟩ := h2
  obtain ⟨ao, cap, rfl, hcap⟩ := h0.form
  obtain ⟨v, hv⟩ : ∃ v, v = Value.slice ao ys.length cap := ⟨_, rfl⟩
  obtain ⟨w0, hw0⟩ : ∃ w0, w0 = (w.alloc (.cells #[.int .i64 a.1, an, aa, ab, .int .i64 a.2.2.2.2] 24)).alloc (.cells #[.int .i64 b.1, bn, ba, bb, .int .i64 b.2.2.2.2] 24) := ⟨_, rfl⟩
  have p0 : Row w0 w.heap.size 24 [.int .i64 a.1, an, aa, ab, .int .i64 a.2.2.2.2] := by rw [hw0]; exact rowA (Row.new w 24 _) _
  have q0 : Row w0 (w.heap.size + 1) 24 [.int .i64 b.1, bn, ba, bb, .int .i64 b.2.2.2.2] := by
    rw [hw0]
    have := Row.new (w.alloc (.cells #[.int .i64 a.1, an, aa, ab, .int .i64 a.2.2.2.2] 24)) 24 [.int .i64 b.1, bn, ba, bb, .int .i64 b.2.2.2.2]
    simpa using this
  have B0 : Below w.heap.size w w0 := by rw [hw0]; exact ((Below.refl _ w).alloc (Nat.le_refl _) _).alloc (by simp) _
  go_enter Try.func7, Try.ntmps7
  go_wp2_with fail
  rw [← hw0]
  clear hw0
  refine (kvAlive_any w0).mono ?_
  rintro e w1 ⟨rfl, hb1⟩
  have B1 := below_and B0 le hb1
  have p1 := p0.below hb1
  have q1 := q0.below hb1
  clear hb1 B0 p0 q0
  go_wp2_with fail
  refine (right_any w1 _ ys (h0.mv mov_ent B1.size (Mv.below B1))).mono ?_
  rintro e w2 ⟨rfl, hb2⟩
  have B2 := below_and B1 le hb2
  have p2 := p1.below hb2
  have q2 := q1.below hb2
  clear hb2 B1 p1 q1
  by_cases hr : rgtL ys
  rotate_left
  · rw [decide_eq_false hr]
    go_wp2_with fail
    go_ret
    exact ⟨rfl, B2⟩
  rw [decide_eq_true hr]
  by_cases h62 : 62 < ys.length
  · have h62' : (62 : Int) < ys.length := by omega
    go_wp2_with fail
    go_ret
    exact ⟨rfl, B2⟩
  have h62' : decide ((62 : Int) < ys.length) = false := by simp; omega
  have sN := same_any w2 an bn _ _ (rna.mv (Mv.below B2)).1 (rnb.mv (Mv.below B2)).1
  have k1 := p2.cell (j := 1) rfl
  have k2 := q2.cell (j := 1) rfl
  by_cases hab : a.2.1 = b.2.1
  · rw [decide_eq_true hab] at sN
    go_wp2_with (go_at_call 12; refine sN.mono ?_; rintro e w2 ⟨rfl, rfl⟩)
    go_ret
    exact ⟨rfl, B2⟩
  rw [decide_eq_false hab] at sN
  obtain ⟨m1, m2, m3⟩ := do_comm hr (show ys.length ≤ 62 by omega) hab
  have M1 := (show Hid ((doL (doL ys a).1 b).1 = (doL (doL ys b).1 a).1) from m1)
  have M2 := (show Hid ((doL ys a).2 = (doL (doL ys b).1 a).2) from m2)
  have M3 := (show Hid ((doL (doL ys a).1 b).2 = (doL ys b).2) from m3)
  clear m1 m2 m3
  go_upto_region 5 with (go_at_call 12; refine sN.mono ?_; rintro e w2 ⟨rfl, rfl⟩)
  clear sN k1 k2 h62' hab
  rw [← hv] at h0
  rw [← hv]
  clear hv
  have x2 := p2
  have HC := (show Hid (∀ u, Below w2.heap.size w2 u → Calls Try.prog 16 #[v] u fun e w' => ∃ v', e = .returned v' ∧ Hid (∀ u', Below w'.heap.size w' u' → RL REnt 2 Any u' v' ys) ∧ Below u.heap.size u w' ∧ Below w2.heap.size w2 w') from fun u hu => (refCopy_any u v ys (h0.mv mov_ent (below_and B2 le hu).size (Mv.below (below_and B2 le hu))) z0).mono fun e w' ⟨v', e1, e2, e3⟩ => ⟨v', e1, fun u' hu' => ((e2.rl mov_ent).mv mov_ent (Nat.le_refl _) Mv.any).mv mov_ent hu'.size (Mv.below hu'), e3, below_and hu (Nat.le_refl _) e3⟩)
  have HO := (show Hid (∀ u, Below w2.heap.size w2 u → Calls Try.prog 10 #[.agg #[.int .i64 a.1, an, aa, ab, .int .i64 a.2.2.2.2]] u fun e w' => ∃ r', e = .returned (.agg r'.toArray) ∧ Hid (∀ u', Below w'.heap.size w' u' → ROp Any u' r' a) ∧ Below u.heap.size u w' ∧ Below w2.heap.size w2 w') from fun u hu => (copyOp_any u _ a (mov_op _ _ _ _ _ _ hA (below_and B2 le hu).size (Mv.below (below_and B2 le hu))) z1).mono fun e w' ⟨v', e1, e2, e3⟩ => ⟨v', e1, fun u' hu' => mov_op _ _ _ _ _ _ e2 hu'.size (fun k hk hlt => ⟨hu'.block k hlt, trivial⟩), e3, below_and hu (Nat.le_refl _) e3⟩)
  have HD := (show Hid (∀ (u : World) (v3 : Value) (r4 : List Value), Below w2.heap.size w2 u → RL REnt 2 Any u v3 ys → ROp Any u r4 a → Calls Try.prog 17 #[v3, .agg r4.toArray] u fun e w' => ∃ v' vv, e = .returned (.tuple #[v', .agg #[.int .i64 (doL ys a).2.1, vv]]) ∧ LB OEnt 50 2 u.heap.size w' v' (doL ys a).1 ∧ OT (From u.heap.size) w' vv (doL ys a).2.2 ∧ Below u.heap.size u w' ∧ Below w2.heap.size w2 w') from fun u v3 r4 hu h3 h4 => (do_any u v3 ys h3 z0 r4 a h4 z1).mono fun e w' ⟨v', vv, e1, e2, e3, e4⟩ => ⟨v', vv, e1, e2, e3, e4, below_and hu (Nat.le_refl _) e4⟩)
  have SK := (show Hid (∀ u, Below w2.heap.size w2 u → u.cell? ⟨w.heap.size, 0, none⟩ = some (.int .i64 a.1) ∧ u.cell? ⟨w.heap.size, 1, none⟩ = some an ∧ u.cell? ⟨w.heap.size, 2, none⟩ = some aa ∧ u.cell? ⟨w.heap.size, 3, none⟩ = some ab ∧ u.cell? ⟨w.heap.size, 4, none⟩ = some (.int .i64 a.2.2.2.2)) from fun u hu => ⟨(x2.below hu).cell (j := 0) rfl, (x2.below hu).cell (j := 1) rfl, (x2.below hu).cell (j := 2) rfl, (x2.below hu).cell (j := 3) rfl, (x2.below hu).cell (j := 4) rfl⟩)
  obtain ⟨a0, a1, a2, a3, a4⟩ := SK.out w2 (Below.refl _ _)
  have hdw : Below w2.heap.size w2 w2.drew := ⟨rfl, rfl, rfl, Nat.le_refl _, fun _ _ => rfl⟩
  go_upto_region 5 with fail
  try go_simp
  go_cut [7, 8] from 13 (fun s7 s8 wx => ∃ (bx : Nat) (vv : Value), s8 = .pointer (some ⟨bx, 0, none⟩) ∧ RL REnt 2 Any wx s7 (doL ys a).1 ∧ Rd wx vv (doL ys a).2.2 ∧ Row wx bx 43 [.int .i64 (doL ys a).2.1, vv] ∧ Below w2.heap.size w2 wx)
  case first =>
    go_wp2_with fail
    go_region_held3 (fun u => u.cell? ⟨w.heap.size, 0, none⟩ = some (.int .i64 a.1) ∧ u.cell? ⟨w.heap.size, 1, none⟩ = some an ∧ u.cell? ⟨w.heap.size, 2, none⟩ = some aa ∧ u.cell? ⟨w.heap.size, 3, none⟩ = some ab ∧ u.cell? ⟨w.heap.size, 4, none⟩ = some (.int .i64 a.2.2.2.2))
      (first | exact SK.out _ (bel_set2 (by assumption) (Nat.le_refl _) (by first | exact Nat.le_refl _ | exact Below.size (by assumption))) | exact SK.out _ (by first | assumption | exact below_and (by assumption) (Nat.le_refl _) (below_alloc _ _) | exact Below.drew (by assumption) | exact Below.drew (below_and (by assumption) (Nat.le_refl _) (below_alloc _ _)) | exact below_and (Below.drew (by assumption)) (Nat.le_refl _) (below_alloc _ _)) | go_keep)
      (first
        | (go_at_call 17; refine (HD.out _ _ _ (by first | assumption | exact Below.drew (by assumption) | exact below_and (by assumption) (Nat.le_refl _) (below_alloc _ _) | exact Below.drew (below_and (by assumption) (Nat.le_refl _) (below_alloc _ _)) | exact below_and (Below.drew (by assumption)) (Nat.le_refl _) (below_alloc _ _)) (rc.out _ (by first | exact Below.refl _ _ | assumption | exact below_alloc _ _ | exact below_and (by assumption) (Nat.le_refl _) (below_alloc _ _) | exact below_and (below_alloc _ _) (Nat.le_refl _) (by assumption))) (ro.out _ (by first | exact Below.refl _ _ | assumption | exact below_alloc _ _ | exact below_and (by assumption) (Nat.le_refl _) (below_alloc _ _) | exact below_and (below_alloc _ _) (Nat.le_refl _) (by assumption)))).mono ?_; rintro e m5 ⟨v5, vv5, rfl, hL5, t5, hb5, hB5⟩; obtain ⟨ax5, cx5, rfl, hcx5⟩ := t5.rt.form; (first | (have q := (Row.new _ 43 [.int .i64 0, .slice none 0 0]).below hb5; have qc0 := q.cell (j := 0) rfl; have qc1 := q.cell (j := 1) rfl; have qf0 := q.frozen 0; have qf1 := q.frozen 1; have qn := (x2.below hB5).apart q (by decide)) | (have q := (Row.new _ 43 [.int .i64 0, .slice none 0 0]).drew.below hb5; have qc0 := q.cell (j := 0) rfl; have qc1 := q.cell (j := 1) rfl; have qf0 := q.frozen 0; have qf1 := q.frozen 1; have qn := (x2.below hB5).apart q (by decide)) | (have q := q.below hb5; have qc0 := q.cell (j := 0) rfl; have qc1 := q.cell (j := 1) rfl; have qf0 := q.frozen 0; have qf1 := q.frozen 1; have qn := (x2.below hB5).apart q (by decide)) | skip))
        | (go_at_call 10; refine (HO.out _ (by first | assumption | exact Below.drew (by assumption) | exact below_and (by assumption) (Nat.le_refl _) (below_alloc _ _) | exact Below.drew (below_and (by assumption) (Nat.le_refl _) (below_alloc _ _)) | exact below_and (Below.drew (by assumption)) (Nat.le_refl _) (below_alloc _ _))).mono ?_; rintro e m4 ⟨r4, rfl, ro, hb4, hB4⟩; (first | (have q := (Row.new _ 43 [.int .i64 0, .slice none 0 0]).below hb4; have qc0 := q.cell (j := 0) rfl; have qc1 := q.cell (j := 1) rfl; have qf0 := q.frozen 0; have qf1 := q.frozen 1; have qn := (x2.below hB4).apart q (by decide)) | (have q := (Row.new _ 43 [.int .i64 0, .slice none 0 0]).drew.below hb4; have qc0 := q.cell (j := 0) rfl; have qc1 := q.cell (j := 1) rfl; have qf0 := q.frozen 0; have qf1 := q.frozen 1; have qn := (x2.below hB4).apart q (by decide)) | (have q := q.below hb4; have qc0 := q.cell (j := 0) rfl; have qc1 := q.cell (j := 1) rfl; have qf0 := q.frozen 0; have qf1 := q.frozen 1; have qn := (x2.below hB4).apart q (by decide)) | skip))
        | (go_at_call 16; refine (HC.out _ (by first | assumption | exact Below.drew (by assumption) | exact below_and (by assumption) (Nat.le_refl _) (below_alloc _ _) | exact Below.drew (below_and (by assumption) (Nat.le_refl _) (below_alloc _ _)) | exact below_and (Below.drew (by assumption)) (Nat.le_refl _) (below_alloc _ _))).mono ?_; rintro e m3 ⟨v3, rfl, rc, hb3, hB3⟩; (first | (have q := (Row.new _ 43 [.int .i64 0, .slice none 0 0]).below hb3; have qc0 := q.cell (j := 0) rfl; have qc1 := q.cell (j := 1) rfl; have qf0 := q.frozen 0; have qf1 := q.frozen 1; have qn := (x2.below hB3).apart q (by decide)) | (have q := (Row.new _ 43 [.int .i64 0, .slice none 0 0]).drew.below hb3; have qc0 := q.cell (j := 0) rfl; have qc1 := q.cell (j := 1) rfl; have qf0 := q.frozen 0; have qf1 := q.frozen 1; have qn := (x2.below hB3).apart q (by decide)) | (have q := q.below hb3; have qc0 := q.cell (j := 0) rfl; have qc1 := q.cell (j := 1) rfl; have qf0 := q.frozen 0; have qf1 := q.frozen 1; have qn := (x2.below hB3).apart q (by decide)) | skip)))
    all_goals (
      first
        | (obtain ⟨m6, hw6, r6, t6, y6, g6⟩ := aft1 hL5 t5; have hn6 : w.heap.size ≠ m5.heap.size := Nat.ne_of_lt (Nat.lt_of_lt_of_le x2.lt hB5.size); rw [← hw6])
        | (obtain ⟨m6, hw6, r6, t6, y6, g6⟩ := aft2 hL5 t5 q; have hn6 := qn; rw [← hw6])
      have B6 : Below w2.heap.size w2 m6 := hB5.trans (grown_below g6 hB5.size (fun k hk => by cases hk; first | exact hB5.size | exact hB4.size | exact hB3.size | exact Nat.le_refl _))
      go_wp2_with fail
      go_meet
      case rel => exact ⟨_, _, rfl, r6, t6, y6, B6⟩)
  case rest =>
    clear HC HO HD SK hdw a0 a1 a2 a3 a4 x2
    obtain ⟨b1, vv1, rfl, r3, t3, y3, hb3⟩ := hcut
    have B3 := below_and B2 le hb3
    have p3 := p2.below hb3
    have q3 := q2.below hb3
    clear hb3 B2 p2 q2
    have hO := copyOp_any wc _ b (mov_op _ _ _ _ _ _ hB B3.size (Mv.below B3)) z2
    have HD := (show Hid (∀ (u : World) (r4 : List Value), RL REnt 2 Any u u7 (doL ys a).1 → ROp Any u r4 b → Calls Try.prog 17 #[u7, .agg r4.toArray] u fun e w' => ∃ v' vv, e = .returned (.tuple #[v', .agg #[.int .i64 (doL (doL ys a).1 b).2.1, vv]]) ∧ RL REnt 2 Any w' v' (doL (doL ys a).1 b).1 ∧ RT Any w' vv (doL (doL ys a).1 b).2.2 ∧ Below u.heap.size u w') from fun u r4 h3 h4 => (do_any u u7 _ h3 (rgt_sz (doL_rgt hr)) r4 b h4 z2).mono fun e w' ⟨v', vv, e1, e2, e3, e4⟩ => ⟨v', vv, e1, Rp.rl e2, e3.rt.weak, e4⟩)
    go_upto_region 7 with (first
      | (refine wl_load rfl _ _ rfl (w.heap.size + 1) rfl _ _ q3 _ Try.underlying24 rfl (by kernel_rfl) ?_)
      | (go_at_call 10; refine hO.mono ?_; rintro e w4 ⟨r4, rfl, o4, hb4⟩; have o4 := mov_op _ Any _ _ _ _ o4 (Nat.le_refl _) Mv.any; have r4' := r3.mv mov_ent hb4.size (Mv.below hb4))
      | (go_at_call 17; refine (HD.out _ _ r4' o4).mono ?_; rintro e w5 ⟨v5, vv5, rfl, r5, t5, hb5⟩; have hb45 := below_and hb4 (Nat.le_refl _) hb5; have m5 := Row.new w5 43 [.int .i64 0, .slice none 0 0])
      | (refine wl_store rfl _ _ _ rfl w5.heap.size [.int .i64 (doL (doL ys a).1 b).2.1, vv5] rfl rfl _ _ m5 rfl (by kernel_rfl) (one_res t5.one) ?_; intro w6 hr6 hg6))
    have hb6 : Below w5.heap.size w5 w6 := (below_alloc w5 _).trans (grown_below hg6 (by simp) (fun k hk => by cases hk; exact Nat.le_refl _))
    have hb36 := below_and hb45 (Nat.le_refl _) hb6
    have B6 := below_and B3 le hb36
    have p6 := p3.below hb36
    have q6 := q3.below hb36
    have t36 := t3.below hb36
    have y36 := y3.below hb36
    have r6 := r5.mv mov_ent hb6.size (Mv.below hb6)
    have t6 := (t5.mv (Mv.below hb6)).1
    have y6 := hr6.out
    clear hO HD hb6 hb36 hb45 hb4 hb5 m5 t5 r5 o4 r4' r3 t3 y3 B3 p3 q3 hg6 hr6
    have x2 := q6
    have HC := (show Hid (∀ u, Below w6.heap.size w6 u → Calls Try.prog 16 #[v] u fun e w' => ∃ v', e = .returned v' ∧ Hid (∀ u', Below w'.heap.size w' u' → RL REnt 2 Any u' v' ys) ∧ Below u.heap.size u w' ∧ Below w6.heap.size w6 w') from fun u hu => (refCopy_any u v ys (h0.mv mov_ent (below_and B6 le hu).size (Mv.below (below_and B6 le hu))) z0).mono fun e w' ⟨v', e1, e2, e3⟩ => ⟨v', e1, fun u' hu' => ((e2.rl mov_ent).mv mov_ent (Nat.le_refl _) Mv.any).mv mov_ent hu'.size (Mv.below hu'), e3, below_and hu (Nat.le_refl _) e3⟩)
    have HO := (show Hid (∀ u, Below w6.heap.size w6 u → Calls Try.prog 10 #[.agg #[.int .i64 b.1, bn, ba, bb, .int .i64 b.2.2.2.2]] u fun e w' => ∃ r', e = .returned (.agg r'.toArray) ∧ Hid (∀ u', Below w'.heap.size w' u' → ROp Any u' r' b) ∧ Below u.heap.size u w' ∧ Below w6.heap.size w6 w') from fun u hu => (copyOp_any u _ b (mov_op _ _ _ _ _ _ hB (below_and B6 le hu).size (Mv.below (below_and B6 le hu))) z2).mono fun e w' ⟨v', e1, e2, e3⟩ => ⟨v', e1, fun u' hu' => mov_op _ _ _ _ _ _ e2 hu'.size (fun k hk hlt => ⟨hu'.block k hlt, trivial⟩), e3, below_and hu (Nat.le_refl _) e3⟩)
    have HD := (show Hid (∀ (u : World) (v3 : Value) (r4 : List Value), Below w6.heap.size w6 u → RL REnt 2 Any u v3 ys → ROp Any u r4 b → Calls Try.prog 17 #[v3, .agg r4.toArray] u fun e w' => ∃ v' vv, e = .returned (.tuple #[v', .agg #[.int .i64 (doL ys b).2.1, vv]]) ∧ LB OEnt 50 2 u.heap.size w' v' (doL ys b).1 ∧ OT (From u.heap.size) w' vv (doL ys b).2.2 ∧ Below u.heap.size u w' ∧ Below w6.heap.size w6 w') from fun u v3 r4 hu h3 h4 => (do_any u v3 ys h3 z0 r4 b h4 z2).mono fun e w' ⟨v', vv, e1, e2, e3, e4⟩ => ⟨v', vv, e1, e2, e3, e4, below_and hu (Nat.le_refl _) e4⟩)
    have SK := (show Hid (∀ u, Below w6.heap.size w6 u → u.cell? ⟨(w.heap.size + 1), 0, none⟩ = some (.int .i64 b.1) ∧ u.cell? ⟨(w.heap.size + 1), 1, none⟩ = some bn ∧ u.cell? ⟨(w.heap.size + 1), 2, none⟩ = some ba ∧ u.cell? ⟨(w.heap.size + 1), 3, none⟩ = some bb ∧ u.cell? ⟨(w.heap.size + 1), 4, none⟩ = some (.int .i64 b.2.2.2.2)) from fun u hu => ⟨(x2.below hu).cell (j := 0) rfl, (x2.below hu).cell (j := 1) rfl, (x2.below hu).cell (j := 2) rfl, (x2.below hu).cell (j := 3) rfl, (x2.below hu).cell (j := 4) rfl⟩)
    obtain ⟨a0, a1, a2, a3, a4⟩ := SK.out w6 (Below.refl _ _)
    have hdw : Below w6.heap.size w6 w6.drew := ⟨rfl, rfl, rfl, Nat.le_refl _, fun _ _ => rfl⟩
    go_upto_region 7 with fail
    try go_simp
    go_cut [10, 11] from 13 (fun s7 s8 wx => ∃ (bx : Nat) (vv : Value), s8 = .pointer (some ⟨bx, 0, none⟩) ∧ RL REnt 2 Any wx s7 (doL ys b).1 ∧ Rd wx vv (doL ys b).2.2 ∧ Row wx bx 43 [.int .i64 (doL ys b).2.1, vv] ∧ Below w6.heap.size w6 wx)
    case first =>
      go_wp2_with fail
      go_region_held3 (fun u => u.cell? ⟨(w.heap.size + 1), 0, none⟩ = some (.int .i64 b.1) ∧ u.cell? ⟨(w.heap.size + 1), 1, none⟩ = some bn ∧ u.cell? ⟨(w.heap.size + 1), 2, none⟩ = some ba ∧ u.cell? ⟨(w.heap.size + 1), 3, none⟩ = some bb ∧ u.cell? ⟨(w.heap.size + 1), 4, none⟩ = some (.int .i64 b.2.2.2.2))
        (first | exact SK.out _ (bel_set2 (by assumption) (Nat.le_refl _) (by first | exact Nat.le_refl _ | exact Below.size (by assumption))) | exact SK.out _ (by first | assumption | exact below_and (by assumption) (Nat.le_refl _) (below_alloc _ _) | exact Below.drew (by assumption) | exact Below.drew (below_and (by assumption) (Nat.le_refl _) (below_alloc _ _)) | exact below_and (Below.drew (by assumption)) (Nat.le_refl _) (below_alloc _ _)) | go_keep)
        (first
          | (go_at_call 17; refine (HD.out _ _ _ (by first | assumption | exact Below.drew (by assumption) | exact below_and (by assumption) (Nat.le_refl _) (below_alloc _ _) | exact Below.drew (below_and (by assumption) (Nat.le_refl _) (below_alloc _ _)) | exact below_and (Below.drew (by assumption)) (Nat.le_refl _) (below_alloc _ _)) (rc.out _ (by first | exact Below.refl _ _ | assumption | exact below_alloc _ _ | exact below_and (by assumption) (Nat.le_refl _) (below_alloc _ _) | exact below_and (below_alloc _ _) (Nat.le_refl _) (by assumption))) (ro.out _ (by first | exact Below.refl _ _ | assumption | exact below_alloc _ _ | exact below_and (by assumption) (Nat.le_refl _) (below_alloc _ _) | exact below_and (below_alloc _ _) (Nat.le_refl _) (by assumption)))).mono ?_; rintro e m5 ⟨v5, vv5, rfl, hL5, t5, hb5, hB5⟩; obtain ⟨ax5, cx5, rfl, hcx5⟩ := t5.rt.form; (first | (have q := (Row.new _ 43 [.int .i64 0, .slice none 0 0]).below hb5; have qc0 := q.cell (j := 0) rfl; have qc1 := q.cell (j := 1) rfl; have qf0 := q.frozen 0; have qf1 := q.frozen 1; have qn := (x2.below hB5).apart q (by decide)) | (have q := (Row.new _ 43 [.int .i64 0, .slice none 0 0]).drew.below hb5; have qc0 := q.cell (j := 0) rfl; have qc1 := q.cell (j := 1) rfl; have qf0 := q.frozen 0; have qf1 := q.frozen 1; have qn := (x2.below hB5).apart q (by decide)) | (have q := q.below hb5; have qc0 := q.cell (j := 0) rfl; have qc1 := q.cell (j := 1) rfl; have qf0 := q.frozen 0; have qf1 := q.frozen 1; have qn := (x2.below hB5).apart q (by decide)) | skip))
          | (go_at_call 10; refine (HO.out _ (by first | assumption | exact Below.drew (by assumption) | exact below_and (by assumption) (Nat.le_refl _) (below_alloc _ _) | exact Below.drew (below_and (by assumption) (Nat.le_refl _) (below_alloc _ _)) | exact below_and (Below.drew (by assumption)) (Nat.le_refl _) (below_alloc _ _))).mono ?_; rintro e m4 ⟨r4, rfl, ro, hb4, hB4⟩; (first | (have q := (Row.new _ 43 [.int .i64 0, .slice none 0 0]).below hb4; have qc0 := q.cell (j := 0) rfl; have qc1 := q.cell (j := 1) rfl; have qf0 := q.frozen 0; have qf1 := q.frozen 1; have qn := (x2.below hB4).apart q (by decide)) | (have q := (Row.new _ 43 [.int .i64 0, .slice none 0 0]).drew.below hb4; have qc0 := q.cell (j := 0) rfl; have qc1 := q.cell (j := 1) rfl; have qf0 := q.frozen 0; have qf1 := q.frozen 1; have qn := (x2.below hB4).apart q (by decide)) | (have q := q.below hb4; have qc0 := q.cell (j := 0) rfl; have qc1 := q.cell (j := 1) rfl; have qf0 := q.frozen 0; have qf1 := q.frozen 1; have qn := (x2.below hB4).apart q (by decide)) | skip))
          | (go_at_call 16; refine (HC.out _ (by first | assumption | exact Below.drew (by assumption) | exact below_and (by assumption) (Nat.le_refl _) (below_alloc _ _) | exact Below.drew (below_and (by assumption) (Nat.le_refl _) (below_alloc _ _)) | exact below_and (Below.drew (by assumption)) (Nat.le_refl _) (below_alloc _ _))).mono ?_; rintro e m3 ⟨v3, rfl, rc, hb3, hB3⟩; (first | (have q := (Row.new _ 43 [.int .i64 0, .slice none 0 0]).below hb3; have qc0 := q.cell (j := 0) rfl; have qc1 := q.cell (j := 1) rfl; have qf0 := q.frozen 0; have qf1 := q.frozen 1; have qn := (x2.below hB3).apart q (by decide)) | (have q := (Row.new _ 43 [.int .i64 0, .slice none 0 0]).drew.below hb3; have qc0 := q.cell (j := 0) rfl; have qc1 := q.cell (j := 1) rfl; have qf0 := q.frozen 0; have qf1 := q.frozen 1; have qn := (x2.below hB3).apart q (by decide)) | (have q := q.below hb3; have qc0 := q.cell (j := 0) rfl; have qc1 := q.cell (j := 1) rfl; have qf0 := q.frozen 0; have qf1 := q.frozen 1; have qn := (x2.below hB3).apart q (by decide)) | skip)))
      all_goals (
        first
          | (obtain ⟨m6, hw6, r6, t6, y6, g6⟩ := aft1 hL5 t5; have hn6 : (w.heap.size + 1) ≠ m5.heap.size := Nat.ne_of_lt (Nat.lt_of_lt_of_le x2.lt hB5.size); rw [← hw6])
          | (obtain ⟨m6, hw6, r6, t6, y6, g6⟩ := aft2 hL5 t5 q; have hn6 := qn; rw [← hw6])
        have B6 : Below w6.heap.size w6 m6 := hB5.trans (grown_below g6 hB5.size (fun k hk => by cases hk; first | exact hB5.size | exact hB4.size | exact hB3.size | exact Nat.le_refl _))
        go_wp2_with fail
        go_meet
        case rel => exact ⟨_, _, rfl, r6, t6, y6, B6⟩)
    case rest =>
      clear HC HO HD SK hdw a0 a1 a2 a3 a4 x2
      obtain ⟨b3, vv3, rfl, r7, t7, y7, hb7⟩ := hcut
      have B7 := below_and B6 le hb7
      have p7 := p6.below hb7
      have t37 := t36.below hb7
      have y37 := y36.below hb7
      have r67 := r6.mv mov_ent hb7.size (Mv.below hb7)
      have t67 := t6.below hb7
      have y67 := y6.below hb7
      rename_i wcc
      clear hb7 B6 p6 q6 t36 y36 r6 t6 y6
      have hO := copyOp_any _ _ a (mov_op _ _ _ _ _ _ hA B7.size (Mv.below B7)) z1
      have HD := (show Hid (∀ (u : World) (r4 : List Value), RL REnt 2 Any u u10 (doL ys b).1 → ROp Any u r4 a → Calls Try.prog 17 #[u10, .agg r4.toArray] u fun e w' => ∃ v' vv, e = .returned (.tuple #[v', .agg #[.int .i64 (doL (doL ys b).1 a).2.1, vv]]) ∧ RL REnt 2 Any w' v' (doL (doL ys b).1 a).1 ∧ RT Any w' vv (doL (doL ys b).1 a).2.2 ∧ Below u.heap.size u w') from fun u r4 h3 h4 => (do_any u u10 _ h3 (rgt_sz (doL_rgt hr)) r4 a h4 z1).mono fun e w' ⟨v', vv, e1, e2, e3, e4⟩ => ⟨v', vv, e1, Rp.rl e2, e3.rt.weak, e4⟩)
      go_upto_region 9 with (first
        | (refine wl_load rfl _ _ rfl w.heap.size rfl _ _ p7 _ Try.underlying24 rfl (by kernel_rfl) ?_)
        | (go_at_call 10; refine hO.mono ?_; rintro e w8 ⟨r8, rfl, o8, hb8⟩; have o8 := mov_op _ Any _ _ _ _ o8 (Nat.le_refl _) Mv.any; have r8' := r7.mv mov_ent hb8.size (Mv.below hb8))
        | (go_at_call 17; refine (HD.out _ _ r8' o8).mono ?_; rintro e w9 ⟨v9, vv9, rfl, r9, t9, hb9⟩; have hb89 := below_and hb8 (Nat.le_refl _) hb9; have m9 := Row.new w9 43 [.int .i64 0, .slice none 0 0])
        | (refine wl_store rfl _ _ _ rfl w9.heap.size [.int .i64 (doL (doL ys b).1 a).2.1, vv9] rfl rfl _ _ m9 rfl (by kernel_rfl) (one_res t9.one) ?_; intro w10 hr10 hg10))
      have hb10 : Below w9.heap.size w9 w10 := (below_alloc w9 _).trans (grown_below hg10 (by simp) (fun k hk => by cases hk; exact Nat.le_refl _))
      have hb := below_and hb89 (Nat.le_refl _) hb10
      have B10 := below_and B7 le hb
      have t3a := t37.below hb
      have y3a := y37.below hb
      have r6a := r67.mv mov_ent hb.size (Mv.below hb)
      have t6a := t67.below hb
      have y6a := y67.below hb
      have t7a := t7.below hb
      have y7a := y7.below hb
      have r10 := r9.mv mov_ent hb10.size (Mv.below hb10)
      have t10 := (t9.mv (Mv.below hb10)).1
      have y10 := hr10.out
      clear hO HD hb10 hb hb89 hb8 hb9 m9 t9 r9 o8 r8' hg10 hr10 t37 y37 r67 t67 y67 t7 y7 r7 p7 B7
      rw [M1.out] at r6a
      have e2 := M2.out
      have e3 := M3.out
      rw [e2] at t3a y3a
      rw [e3] at t6a y6a
      clear e2 e3
      generalize (doL (doL ys b).1 a) = D1 at *
      generalize (doL ys b) = D2 at *
      go_wp2_with fail
      refine (sameE_eq w10 _ _ _ r6a r10).mono ?_
      rintro e w11 ⟨rfl, hb11⟩
      have B11 := below_and B10 le hb11
      have y3b := y3a.below hb11
      have y10b := y10.below hb11
      have y6b := y6a.below hb11
      have y7b := y7a.below hb11
      have t6b := t6a.below hb11
      have t7b := t7a.below hb11
      have hS1 := sameR_eq w11 D1.2.1 _ _ _ (t3a.below hb11) (t10.below hb11)
      clear B10 hb11
      go_wp2_with (first
        | (refine wl_load_w rfl _ _ rfl b1 rfl _ _ y3b _ Try.underlying43 rfl (by kernel_rfl) ?_)
        | (refine wl_load_w rfl _ _ rfl w9.heap.size rfl _ _ y10b _ Try.underlying43 rfl (by kernel_rfl) ?_)
        | (go_at_call_has 22 (Value.agg #[.int .i64 D1.2.1, vv1]); refine hS1.mono ?_; rintro e w12 ⟨rfl, hb12⟩; have y6c := y6b.below hb12; have y7c := y7b.below hb12; have hS2 := sameR_eq w12 D2.2.1 _ _ _ (t6b.below hb12) (t7b.below hb12))
        | (refine wl_load_w rfl _ _ rfl w5.heap.size rfl _ _ y6c _ Try.underlying43 rfl (by kernel_rfl) ?_)
        | (refine wl_load_w rfl _ _ rfl b3 rfl _ _ y7c _ Try.underlying43 rfl (by kernel_rfl) ?_)
        | (go_at_call_has 22 (Value.agg #[.int .i64 D2.2.1, vv5]); refine hS2.mono ?_; rintro e w13 ⟨rfl, hb13⟩))
      go_ret
      exact ⟨rfl, below_and (below_and B11 le hb12) le hb13⟩
end Go.Proofs.Ytmfmfjndigjlfab
