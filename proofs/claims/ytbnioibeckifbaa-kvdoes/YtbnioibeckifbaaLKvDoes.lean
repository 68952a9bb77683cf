/- catenarylaw07.KvDoes: its walk. -/
import Derived.Test.YtbnioibeckifbaaZap
import Derived.Test.YtbnioibeckifbaaLKvKeeps
set_option linter.unusedVariables false
set_option linter.unusedSimpArgs false
namespace Go.Proofs.Ytbnioibeckifbaa
open Go.RowKit Oct Kvl

theorem bel_set5 {B b : Nat} {w u : World} {x0 x1 x2 x3 x4 : Value} (h : Below B w u) (hw : B ≤ w.heap.size) (hb : B ≤ b) : Below B w (((((u.setCell ⟨b, 0, none⟩ x0).setCell ⟨b, 1, none⟩ x1).setCell ⟨b, 2, none⟩ x2).setCell ⟨b, 3, none⟩ x3).setCell ⟨b, 4, none⟩ x4) :=
  h.trans (grown_below (grown_trans (grown_trans (grown_trans (grown_trans (grown_set u b 0 x0) (grown_set _ b 1 x1) (.inl rfl)) (grown_set _ b 2 x2) (.inl rfl)) (grown_set _ b 3 x3) (.inl rfl)) (grown_set _ b 4 x4) (.inl rfl)) (Nat.le_trans hw h.size) (fun k hk => by cases hk; exact hb))

theorem aft5 {w4 : World} {b : Nat} {z0 z1 z2 z3 z4 x0 x1 x2 x3 x4 : Value} (q : Row w4 b 25 [z0, z1, z2, z3, z4]) :
    Row (((((w4.setCell ⟨b, 0, none⟩ x0).setCell ⟨b, 1, none⟩ x1).setCell ⟨b, 2, none⟩ x2).setCell ⟨b, 3, none⟩ x3).setCell ⟨b, 4, none⟩ x4) b 25 [x0, x1, x2, x3, x4] ∧
      w4.grownBy (((((w4.setCell ⟨b, 0, none⟩ x0).setCell ⟨b, 1, none⟩ x1).setCell ⟨b, 2, none⟩ x2).setCell ⟨b, 3, none⟩ x3).setCell ⟨b, 4, none⟩ x4) (some b) :=
  ⟨((((q.set 0 x0).set 1 x1).set 2 x2).set 3 x3).set 4 x4, grown_trans (grown_trans (grown_trans (grown_trans (grown_set w4 b 0 x0) (grown_set _ b 1 x1) (.inl rfl)) (grown_set _ b 2 x2) (.inl rfl)) (grown_set _ b 3 x3) (.inl rfl)) (grown_set _ b 4 x4) (.inl rfl)⟩

set_option maxRecDepth 10000 in
set_option maxHeartbeats 8000000 in
theorem does_any (w : World) (v : Value) (ys : List PEnt) (r : List Value) (o : POp) (h0 : RL REnt 2 Any w v ys) (h1 : ROp Any w r o) (z0 : szL 48 szE ys) (z1 : szO o) :
    Calls Try.prog 3 #[v, .agg r.toArray] w fun e w' => e = .returned (.bool true) ∧ Below w.heap.size w w' := by
  have le := Nat.le_refl w.heap.size
  have hall := h1
  obtain ⟨vn, va, vb, rfl, rn, ra', rb'⟩ := h1
  obtain ⟨w0, hw0⟩ : ∃ w0, w0 = w.alloc (.cells #[.int .i64 o.1, vn, va, vb, .int .i64 o.2.2.2.2] 25) := ⟨_, rfl⟩
  have x0 : Row w0 w.heap.size 25 [.int .i64 o.1, vn, va, vb, .int .i64 o.2.2.2.2] := by rw [hw0]; exact Row.new w 25 _
  have B0 : Below w.heap.size w w0 := by rw [hw0]; exact below_alloc _ _
  go_enter Try.func3, Try.ntmps3
  go_upto_region 1 with fail
  rw [← hw0]
  clear hw0
  go_upto_region 3 with (go_at_call 8; refine (kvAlive_any w0).mono ?_; rintro e w1 ⟨rfl, hb1⟩)
  have B1 := below_and B0 le hb1
  have x1 := x0.below hb1
  clear hb1 B0 x0
  have HC := (show Hid (∀ u, Below w1.heap.size w1 u → Calls Try.prog 9 #[v] u fun e w' => ∃ v', e = .returned v' ∧ Hid (∀ z : World, w'.heap.size ≤ z.heap.size → (∀ j, u.heap.size ≤ j → j < w'.heap.size → z.heap[j]? = w'.heap[j]?) → RL REnt 2 Any z v' ys) ∧ Below u.heap.size u w' ∧ Below w1.heap.size w1 w') from fun u hu => (refCopy_any u v ys (h0.mv mov_ent (below_and B1 le hu).size (Mv.below (below_and B1 le hu))) z0).mono fun e w' ⟨v', e1, e2, e3⟩ => ⟨v', e1, fun z hz hk => (e2.rl mov_ent).mv mov_ent hz (fun j hj hlt => ⟨hk j hj hlt, trivial⟩), e3, below_and hu (Nat.le_refl _) e3⟩)
  have HO := (show Hid (∀ u, Below w1.heap.size w1 u → Calls Try.prog 10 #[.agg #[.int .i64 o.1, vn, va, vb, .int .i64 o.2.2.2.2]] u fun e w' => ∃ an cn aa ca ab cb, e = .returned (.agg #[.int .i64 o.1, .slice an o.2.1.length cn, .slice aa o.2.2.1.length ca, .slice ab o.2.2.2.1.length cb, .int .i64 o.2.2.2.2]) ∧ Hid (∀ z : World, w'.heap.size ≤ z.heap.size → (∀ j, u.heap.size ≤ j → j < w'.heap.size → z.heap[j]? = w'.heap[j]?) → ROp Any z [.int .i64 o.1, .slice an o.2.1.length cn, .slice aa o.2.2.1.length ca, .slice ab o.2.2.2.1.length cb, .int .i64 o.2.2.2.2] o) ∧ Below u.heap.size u w' ∧ Below w1.heap.size w1 w') from fun u hu => (copyOp_any u _ o (mov_op _ _ _ _ _ _ hall (below_and B1 le hu).size (Mv.below (below_and B1 le hu))) z1).mono fun e w' ⟨r', e1, e2, e3⟩ => by
    have e2' := e2
    obtain ⟨un, ua, ub, rfl, sn, sa, sb⟩ := e2
    obtain ⟨an, cn, rfl, _⟩ := sn.form
    obtain ⟨aa, ca, rfl, _⟩ := sa.form
    obtain ⟨ab, cb, rfl, _⟩ := sb.form
    exact ⟨an, cn, aa, ca, ab, cb, e1, fun z hz hk => mov_op _ _ _ _ _ _ e2' hz (fun j hj hlt => ⟨hk j hj hlt, trivial⟩), e3, below_and hu (Nat.le_refl _) e3⟩)
  have SK := (show Hid (∀ u, Below w1.heap.size w1 u → u.cell? ⟨w.heap.size, 0, none⟩ = some (.int .i64 o.1) ∧ u.cell? ⟨w.heap.size, 1, none⟩ = some vn ∧ u.cell? ⟨w.heap.size, 2, none⟩ = some va ∧ u.cell? ⟨w.heap.size, 3, none⟩ = some vb ∧ u.cell? ⟨w.heap.size, 4, none⟩ = some (.int .i64 o.2.2.2.2)) from fun u hu => ⟨(x1.below hu).cell (j := 0) rfl, (x1.below hu).cell (j := 1) rfl, (x1.below hu).cell (j := 2) rfl, (x1.below hu).cell (j := 3) rfl, (x1.below hu).cell (j := 4) rfl⟩)
  obtain ⟨a0, a1, a2, a3, a4⟩ := SK.out w1 (Below.refl _ _)
  have hdw : Below w1.heap.size w1 w1.drew := ⟨rfl, rfl, rfl, Nat.le_refl _, fun _ _ => rfl⟩
  have qn1 : w.heap.size ≠ w1.heap.size := Nat.ne_of_lt x1.lt
  obtain ⟨b0, b1, b2, b3, b4⟩ := SK.out w1.drew hdw
  obtain ⟨d0, d1, d2, d3, d4⟩ := SK.out (w1.alloc (.cells #[.int .i64 0, .slice none 0 0, .slice none 0 0, .slice none 0 0, .int .i64 0] 25)) (below_alloc _ _)
  try go_simp
  go_cut [5, 6] from 20 (fun s5 s6 wx => ∃ (b : Nat) (rr : List Value), s6 = .pointer (some ⟨b, 0, none⟩) ∧ RL REnt 2 Any wx s5 ys ∧ ROp Any wx rr o ∧ Row wx b 25 rr ∧ Row wx w.heap.size 25 [.int .i64 o.1, vn, va, vb, .int .i64 o.2.2.2.2] ∧ Below w.heap.size w wx)
  case first =>
    go_wp2_with fail
    go_region_law (first
        | (go_simp; go_at_call 10; refine (HO.out _ (by first | assumption | exact Below.drew (by assumption) | exact below_and (by assumption) (Nat.le_refl _) (below_alloc _ _) | exact Below.drew (below_and (by assumption) (Nat.le_refl _) (below_alloc _ _)) | exact below_and (Below.drew (by assumption)) (Nat.le_refl _) (below_alloc _ _) | exact hdw)).mono ?_; rintro e w4 ⟨an, cn, aa, ca, ab, cb, rfl, ro, hb4, hB4⟩; (first | (have q := (Row.new _ 25 [.int .i64 0, .slice none 0 0, .slice none 0 0, .slice none 0 0, .int .i64 0]).below hb4; have qc0 := q.cell (j := 0) rfl; have qc1 := q.cell (j := 1) rfl; have qc2 := q.cell (j := 2) rfl; have qc3 := q.cell (j := 3) rfl; have qc4 := q.cell (j := 4) rfl; have qf0 := q.frozen 0; have qf1 := q.frozen 1; have qf2 := q.frozen 2; have qf3 := q.frozen 3; have qf4 := q.frozen 4) | (have q := (Row.new _ 25 [.int .i64 0, .slice none 0 0, .slice none 0 0, .slice none 0 0, .int .i64 0]).drew.below hb4; have qc0 := q.cell (j := 0) rfl; have qc1 := q.cell (j := 1) rfl; have qc2 := q.cell (j := 2) rfl; have qc3 := q.cell (j := 3) rfl; have qc4 := q.cell (j := 4) rfl; have qf0 := q.frozen 0; have qf1 := q.frozen 1; have qf2 := q.frozen 2; have qf3 := q.frozen 3; have qf4 := q.frozen 4) | (have q := q.below hb4; have qc0 := q.cell (j := 0) rfl; have qc1 := q.cell (j := 1) rfl; have qc2 := q.cell (j := 2) rfl; have qc3 := q.cell (j := 3) rfl; have qc4 := q.cell (j := 4) rfl; have qf0 := q.frozen 0; have qf1 := q.frozen 1; have qf2 := q.frozen 2; have qf3 := q.frozen 3; have qf4 := q.frozen 4) | skip))
        | (go_simp; go_at_call 9; refine (HC.out _ (by first | assumption | exact Below.drew (by assumption) | exact below_and (by assumption) (Nat.le_refl _) (below_alloc _ _) | exact Below.drew (below_and (by assumption) (Nat.le_refl _) (below_alloc _ _)) | exact below_and (Below.drew (by assumption)) (Nat.le_refl _) (below_alloc _ _) | exact hdw)).mono ?_; rintro e w3 ⟨v3, rfl, rc, hb3, hB3⟩; obtain ⟨p0, p1, p2, p3, p4⟩ := SK.out w3 hB3; obtain ⟨s0, s1, s2, s3, s4⟩ := SK.out (w3.alloc (.cells #[.int .i64 0, .slice none 0 0, .slice none 0 0, .slice none 0 0, .int .i64 0] 25)) (below_and hB3 (Nat.le_refl _) (below_alloc _ _)); (first | (have q := (Row.new _ 25 [.int .i64 0, .slice none 0 0, .slice none 0 0, .slice none 0 0, .int .i64 0]).below hb3) | (have q := (Row.new _ 25 [.int .i64 0, .slice none 0 0, .slice none 0 0, .slice none 0 0, .int .i64 0]).drew.below hb3) | skip)))
    all_goals (
      have hb34 : Below w3.heap.size w3 w4 := by first | exact hb4 | exact below_and (below_alloc _ _) (Nat.le_refl _) hb4
      first
        | (obtain ⟨w6, hw6⟩ : ∃ w6, w6 = w4.alloc (.cells #[.int .i64 o.1, .slice an o.2.1.length cn, .slice aa o.2.2.1.length ca, .slice ab o.2.2.2.1.length cb, .int .i64 o.2.2.2.2] 25) := ⟨_, rfl⟩; rw [← hw6]; have y6 : Row w6 w4.heap.size 25 [.int .i64 o.1, .slice an o.2.1.length cn, .slice aa o.2.2.1.length ca, .slice ab o.2.2.2.1.length cb, .int .i64 o.2.2.2.2] := (by rw [hw6]; exact Row.new w4 25 [.int .i64 o.1, .slice an o.2.1.length cn, .slice aa o.2.2.1.length ca, .slice ab o.2.2.2.1.length cb, .int .i64 o.2.2.2.2]); have g6 : w4.grownBy w6 (some w4.heap.size) := (by rw [hw6]; exact grown_of_below (below_alloc _ _) _); have hlo : w1.heap.size ≤ w4.heap.size := hB4.size)
        | (obtain ⟨w6, hw6⟩ : ∃ w6, w6 = ((((w4.setCell ⟨w3.heap.size, 0, none⟩ (.int .i64 o.1)).setCell ⟨w3.heap.size, 1, none⟩ (.slice an o.2.1.length cn)).setCell ⟨w3.heap.size, 2, none⟩ (.slice aa o.2.2.1.length ca)).setCell ⟨w3.heap.size, 3, none⟩ (.slice ab o.2.2.2.1.length cb)).setCell ⟨w3.heap.size, 4, none⟩ (.int .i64 o.2.2.2.2) := ⟨_, rfl⟩; have q5 := aft5 (b := w3.heap.size) (x0 := .int .i64 o.1) (x1 := .slice an o.2.1.length cn) (x2 := .slice aa o.2.2.1.length ca) (x3 := .slice ab o.2.2.2.1.length cb) (x4 := .int .i64 o.2.2.2.2) q; rw [← hw6] at q5 ⊢; obtain ⟨y6, g6⟩ := q5; have hlo : w1.heap.size ≤ w3.heap.size := by first | exact Nat.le_refl _ | exact hB3.size)
        | (obtain ⟨w6, hw6⟩ : ∃ w6, w6 = ((((w4.setCell ⟨w1.heap.size, 0, none⟩ (.int .i64 o.1)).setCell ⟨w1.heap.size, 1, none⟩ (.slice an o.2.1.length cn)).setCell ⟨w1.heap.size, 2, none⟩ (.slice aa o.2.2.1.length ca)).setCell ⟨w1.heap.size, 3, none⟩ (.slice ab o.2.2.2.1.length cb)).setCell ⟨w1.heap.size, 4, none⟩ (.int .i64 o.2.2.2.2) := ⟨_, rfl⟩; have q5 := aft5 (b := w1.heap.size) (x0 := .int .i64 o.1) (x1 := .slice an o.2.1.length cn) (x2 := .slice aa o.2.2.1.length ca) (x3 := .slice ab o.2.2.2.1.length cb) (x4 := .int .i64 o.2.2.2.2) q; rw [← hw6] at q5 ⊢; obtain ⟨y6, g6⟩ := q5; have hlo : w1.heap.size ≤ w1.heap.size := by first | exact Nat.le_refl _ | exact hB3.size)
      have z3 := hb34.size
      have z1' := hB3.size
      have z4 := g6.size
      have z5 := hb3.size
      try simp at z5
      have r6 := rc.out w6 (Nat.le_trans z3 z4) (fun j h1 h2 => (g6.block j (Nat.lt_of_lt_of_le h2 z3) (fun e => by injection e with e; (try simp at h1); omega)).trans (hb34.block j h2))
      have o6 := ro.out w6 z4 (fun j h1 h2 => g6.block j h2 (fun e => by injection e with e; (try simp at h1); omega))
      have x6 := (x1.below hB4).grown g6 (fun e => by injection e with e; have := x1.lt; omega)
      have B4 := below_and B1 le hB4
      have B6 : Below w.heap.size w w6 := B4.trans (grown_below g6 B4.size (fun k hk => by cases hk; exact Nat.le_trans B1.size hlo))
      go_wp2_with fail
      go_meet
      case rel => exact ⟨_, _, rfl, r6, o6, y6, x6, B6⟩)
  case rest =>
    clear HC HO SK hdw a0 a1 a2 a3 a4 b0 b1 b2 b3 b4 d0 d1 d2 d3 d4 x1 B1 qn1
    obtain ⟨b, rr, rfl, r5, o5, y5, x5, B5⟩ := hcut
    have o5' := o5
    obtain ⟨un, ua, ub, rfl, sn, sa, sb⟩ := o5'
    have yw := y5
    have hD := do_any wc _ ys r5 z0 _ o o5 z1
    have hEO := (show Hid (∀ u, Below w.heap.size w u → RL REnt 2 Any u v ys ∧ ROp Any u [.int .i64 o.1, vn, va, vb, .int .i64 o.2.2.2.2] o) from fun u hu => ⟨h0.mv mov_ent hu.size (Mv.below hu), mov_op _ _ _ _ _ _ hall hu.size (Mv.below hu)⟩)
    have hOW := (show Hid (∀ u, Below wc.heap.size wc u → RL REnt 2 Any u u5 ys ∧ ROp Any u [.int .i64 o.1, un, ua, ub, .int .i64 o.2.2.2.2] o) from fun u hu => ⟨r5.mv mov_ent hu.size (Mv.below hu), mov_op _ _ _ _ _ _ o5 hu.size (Mv.below hu)⟩)
    clear sn sa sb r5 o5
    go_upto_region 5 with (first
      | (refine wl_load rfl _ _ rfl b rfl _ _ y5 _ Try.underlying25 rfl (by kernel_rfl) ?_)
      | (go_at_call 11; refine hD.mono ?_; rintro e w6 ⟨v6, vv6, rfl, hL6, ht6, hb6⟩; obtain ⟨ax6, cx6, rfl, hcx6⟩ := ht6.rt.form))
    obtain ⟨w7, hw7⟩ : ∃ w7, w7 = w6.alloc (.cells #[.int .i64 (doL ys o).2.1, .slice ax6 (doL ys o).2.2.length cx6] 30) := ⟨_, rfl⟩
    have y7 : Row w7 w6.heap.size 30 [.int .i64 (doL ys o).2.1, .slice ax6 (doL ys o).2.2.length cx6] := by rw [hw7]; exact Row.new w6 30 _
    have hb7 : Below w6.heap.size w6 w7 := by rw [hw7]; exact below_alloc _ _
    rw [← hw7]
    have hc7 : Below wc.heap.size wc w7 := below_and hb6 (Nat.le_refl _) hb7
    have B7 := below_and B5 le hc7
    have x7 := x5.below hc7
    have y5 := y5.below hc7
    have hL7 := hL6.below mov_oent hb7
    have ht7 := ht6.mv (Mv.belowG hb7)
    obtain ⟨b8, hb8⟩ : ∃ b8, b8 = w6.heap.size := ⟨_, rfl⟩
    have hb8c : wc.heap.size ≤ b8 := by rw [hb8]; exact hb6.size
    rw [← hb8] at y7 ⊢
    have hR := refDo_any w7 v ys (hEO.out w7 B7).1 _ o (hEO.out w7 B7).2
    clear hw7 hb7 hb6 hL6 ht6 hb8 hD hcx6
    go_upto_region 6 with (first
      | (refine wl_load rfl _ _ rfl w.heap.size rfl _ _ x7 _ Try.underlying25 rfl (by kernel_rfl) ?_)
      | (go_at_call 12; refine hR.mono ?_; rintro e w8 ⟨v8, vv8, rfl, rl8, rd8, hb8⟩; obtain ⟨ax8, cx8, rfl, hcx8⟩ := rd8.form))
    obtain ⟨w9, hw9⟩ : ∃ w9, w9 = w8.alloc (.cells #[.int .i64 (doL ys o).2.1, .slice ax8 (doL ys o).2.2.length cx8] 30) := ⟨_, rfl⟩
    have y9 : Row w9 w8.heap.size 30 [.int .i64 (doL ys o).2.1, .slice ax8 (doL ys o).2.2.length cx8] := by rw [hw9]; exact Row.new w8 30 _
    have hb9 : Below w8.heap.size w8 w9 := by rw [hw9]; exact below_alloc _ _
    rw [← hw9]
    have hb79 : Below w7.heap.size w7 w9 := below_and hb8 (Nat.le_refl _) hb9
    have hc9 : Below wc.heap.size wc w9 := below_and hc7 (Nat.le_refl _) hb79
    have B9 := below_and B5 le hc9
    have x9 := x7.below hb79
    have y5 := y5.below hb79
    have z9 := y7.below hb79
    have hL9 := hL7.below mov_oent hb79
    have ht9 := ht7.mv (Mv.belowG hb79)
    have rl9 := rl8.mv mov_ent hb9.size (Mv.below hb9)
    have rd9 := rd8.below hb9
    obtain ⟨b9, hb9'⟩ : ∃ b9, b9 = w8.heap.size := ⟨_, rfl⟩
    rw [← hb9'] at y9 ⊢
    clear hw9 hb9' hb9 hb8 hb79 rl8 rd8 hL7 ht7 x7 y7 hc7 B7 hR hcx8
    have hR1 := right_any w9 u5 ys (hOW.out w9 hc9).1
    have HR2 := (show Hid (∀ u, Below w.heap.size w u → Calls Try.prog 14 #[v] u fun e w' => e = .returned (.bool (decide (rgtL ys))) ∧ Below u.heap.size u w') from fun u hu => refRight_any u v ys (hEO.out u hu).1)
    have HS1 := (show Hid (∀ u, Below w9.heap.size w9 u → Calls Try.prog 15 #[v6, v8] u fun e w' => e = .returned (.bool true) ∧ Below u.heap.size u w') from fun u hu => sameE_eq u _ _ _ ((Rp.rl hL9).mv mov_ent hu.size (Mv.below hu)) (rl9.mv mov_ent hu.size (Mv.below hu)))
    have HS2 := (show Hid (∀ u, Below w9.heap.size w9 u → Calls Try.prog 16 #[.agg #[.int .i64 (doL ys o).2.1, .slice ax6 (doL ys o).2.2.length cx6], .agg #[.int .i64 (doL ys o).2.1, .slice ax8 (doL ys o).2.2.length cx8]] u fun e w' => e = .returned (.bool true) ∧ Below u.heap.size u w') from fun u hu => sameR_eq u _ _ _ _ (ht9.rt.1.below hu) (rd9.below hu))
    have hdd : ∀ x : Bool, (x != x) = false := fun x => by cases x <;> rfl
    generalize decide (rgtL ys) = dr at *
    have hd1 := hdd dr
    clear hdd
    go_upto_region 8 with (first
      | (go_at_call 13; refine hR1.mono ?_; rintro e w10 ⟨rfl, hb10⟩; have B10 := below_and B9 le hb10)
      | (go_at_call 14; refine (HR2.out w10 B10).mono ?_; rintro e w11 ⟨rfl, hb11⟩; have hc11 := below_and hb10 (Nat.le_refl _) hb11)
      | (go_at_call 16; refine (HS2.out w12 hc12).mono ?_; rintro e w13 ⟨rfl, hb13⟩; have hc13 := below_and hc12 (Nat.le_refl _) hb13)
      | (go_at_call 15; refine (HS1.out w11 hc11).mono ?_; rintro e w12 ⟨rfl, hb12⟩; have hc12 := below_and hc11 (Nat.le_refl _) hb12; have z12 := z9.below hc12; have y12 := y9.below hc12)
      | (refine wl_load_w (by rfl) _ _ rfl b8 rfl _ _ z12 _ Try.underlying30 rfl (by kernel_rfl) ?_)
      | (refine wl_load_w (by rfl) _ _ rfl b9 rfl _ _ y12 _ Try.underlying30 rfl (by kernel_rfl) ?_))
    have hc13w : Below wc.heap.size wc w13 := below_and hc9 (Nat.le_refl _) hc13
    obtain ⟨ao, cap, rs, ts, hv6, hcap1, hcap2, hZ, hAt⟩ := Zap.of (hL9.below mov_oent hc13) hc13w (Nat.le_refl _) (show (30 : Nat) ≠ 5 by decide) (z9.below hc13) (ht9.mv (Mv.belowG hc13))
    have HAT := (show Hid (∀ i, i < (doL ys o).1.length → ∃ g cur a mm, ao = some ⟨g, 0, none⟩ ∧ (g, 37, cur) ∈ rs ∧ cur[i * 2 + 1]? = some a ∧ (a, mm) ∈ ts) from hAt)
    subst hv6
    have xw := x5
    clear hAt hL9 ht9 rl9 rd9 y9 z9 x9 z12 y12 hb10 hb11 hb12 hb13 hc11 hc12 hc13 B10 hR1 HR2 HS1 HS2 hd1 y5 B9 hc9
    generalize hN : (doL ys o).1.length = N at *
    generalize hM : (doL ys o).2.2.length = M at *
    have hlm : (N : Int) ≤ 9223372036854775807 := by unfold maxLen at hcap2; omega
    obtain ⟨rs', hrs'⟩ : ∃ rs', rs' = (b8, 30, [Value.int .i64 (doL ys o).2.1, .slice ax6 M cx6]) :: rs := ⟨_, rfl⟩
    obtain ⟨ts', hts'⟩ : ∃ ts', ts' = (Value.slice ax6 M cx6, M) :: ts := ⟨_, rfl⟩
    rw [← hrs', ← hts'] at hZ
    have HRS := (show Hid (∀ r, r ∈ rs → r ∈ rs') from fun r hr => by rw [hrs']; exact List.mem_cons_of_mem _ hr)
    have HTS := (show Hid (∀ r, r ∈ ts → r ∈ ts') from fun r hr => by rw [hts']; exact List.mem_cons_of_mem _ hr)
    have HB8 := (show Hid ((b8, 30, [Value.int .i64 (doL ys o).2.1, .slice ax6 M cx6]) ∈ rs') by rw [hrs']; exact List.mem_cons_self)
    have HXV := (show Hid ((Value.slice ax6 M cx6, M) ∈ ts') by rw [hts']; exact List.mem_cons_self)
    clear hrs' hts' hN hM
    have HZ := (show Hid (Zap wc.heap.size wc w13 rs' ts') from hZ)
    clear hZ
    go_wp2_with fail
    go_loopw [51] (fun i wr => ∃ q : Nat, q ≤ N ∧ i = .int .i64 q ∧ Hid (Zap wc.heap.size wc wr rs' ts')) (fun i _ => N - (intOf i).toNat)
    case atStart => exact ⟨0, Nat.zero_le _, rfl, HZ⟩
    case round =>
      clear HZ
      obtain ⟨q, hq, rfl, HZ⟩ := hrel
      by_cases hql : q < N
      · obtain ⟨g, cur, a, mm, rfl, hg, ha, hm⟩ := HAT.out q hql
        obtain ⟨l, hl, hot⟩ := HZ.out.txt _ (HTS.out _ hm)
        obtain ⟨_, ab, cb, rfl, hcb, hcb2, _⟩ := hot.rt.1
        have hl' : l.length = mm := hl
        rw [bc_len, hl'] at hm ha hcb
        have c1 := (HZ.out.row _ (HRS.out _ hg)).2.cell ha
        have hcbm : (mm : Int) ≤ 9223372036854775807 := by unfold maxLen at hcb2; omega
        have HM := (show Hid ((Value.slice ab mm cb, mm) ∈ ts') from HTS.out _ hm)
        have HG := (show Hid (∀ u, Zap wc.heap.size wc u rs' ts' → u.cell? ⟨g, q * 2 + 1, none⟩ = some (.slice ab mm cb)) from fun u hu => (hu.row _ (HRS.out _ hg)).2.cell ha)
        clear hot hl ha hm hl' hg
        go_wp2_with fail
        go_loopw [60] (fun i wx => ∃ j : Nat, j ≤ mm ∧ i = .int .i64 j ∧ Hid (Zap wc.heap.size wc wx rs' ts')) (fun i _ => mm - (intOf i).toNat)
        case atStart => exact ⟨0, Nat.zero_le _, rfl, HZ⟩
        case round =>
          clear HZ c1
          obtain ⟨j, hj, rfl, HZ⟩ := hrel
          by_cases hjl : j < mm
          · have c1 := HG.out _ HZ.out
            obtain ⟨k, kc, kur, y, e, k1, k2, k3, k4, k5, k6, y0, y1⟩ := HZ.out.at HM.out hjl
            injection e with e1 e2 e3
            subst e1 e3
            have c2 := k4.cell k6
            have hx := xor_rng ⟨y0, y1⟩
            go_wp2_with (refine wl_set rfl _ _ _ rfl k j _ rfl rfl _ _ k4 k5 (by kernel_rfl) rfl ?_; intro w15 hr15 hg15)
            go_roundw
            case rel => exact ⟨j + 1, by omega, by go_num, HZ.out.set k3 k4 hr15.out hg15 hx⟩
            case measure => simp [intOf]; omega
          · have hjd : decide ((j : Int) < mm) = false := by simp; omega
            go_wp2_with fail
            go_roundw
            case rel => exact ⟨q + 1, by omega, by go_num, HZ⟩
            case measure => simp [intOf]; omega
      · have hqd : decide ((q : Int) < N) = false := by simp; omega
        have c8 := (HZ.out.row _ HB8.out).2.cell (j := 1) rfl
        obtain ⟨lx, hlx, hotx⟩ := HZ.out.txt _ HXV.out
        obtain ⟨_, ax', cx', ex', hcx1, hcx2, _⟩ := hotx.rt.1
        have ex'' : Value.slice ax6 M cx6 = .slice ax' (bc lx).length cx' := ex'
        injection ex'' with f1 f2 f3
        have hMm : (M : Int) ≤ 9223372036854775807 := by unfold maxLen at hcx2; omega
        clear hlx hotx hcx1 hcx2 ex' f1 f2 f3
        go_wp2_with fail
        go_loopw [78] (fun i wx => ∃ j : Nat, j ≤ M ∧ i = .int .i64 j ∧ Hid (Zap wc.heap.size wc wx rs' ts')) (fun i _ => M - (intOf i).toNat)
        case atStart => exact ⟨0, Nat.zero_le _, rfl, HZ⟩
        case round =>
          clear HZ c8
          obtain ⟨j, hj, rfl, HZ⟩ := hrel
          by_cases hjl : j < M
          · have c1 := (HZ.out.row _ HB8.out).2.cell (j := 1) rfl
            obtain ⟨k, kc, kur, y, e, k1, k2, k3, k4, k5, k6, y0, y1⟩ := HZ.out.at HXV.out hjl
            injection e with e1 e2 e3
            subst e1 e3
            have c2 := k4.cell k6
            have hx := xor_rng ⟨y0, y1⟩
            go_wp2_with (refine wl_set rfl _ _ _ rfl k j _ rfl rfl _ _ k4 k5 (by kernel_rfl) rfl ?_; intro w15 hr15 hg15)
            go_roundw
            case rel => exact ⟨j + 1, by omega, by go_num, HZ.out.set k3 k4 hr15.out hg15 hx⟩
            case measure => simp [intOf]; omega
          · have hjd : decide ((j : Int) < M) = false := by simp; omega
            have hcb := HZ.out.bel
            have B20 := below_and B5 le hcb
            have HS3 := sameE_eq _ _ _ _ (hOW.out _ hcb).1 (hEO.out _ B20).1
            have HS4 := (show Hid (∀ u, Below wc.heap.size wc u → Calls Try.prog 17 #[.agg #[.int .i64 o.1, un, ua, ub, .int .i64 o.2.2.2.2], .agg #[.int .i64 o.1, vn, va, vb, .int .i64 o.2.2.2.2]] u fun e w' => e = .returned (.bool true) ∧ Below u.heap.size u w') from fun u hu => sameOp_eq u _ _ o (hOW.out u hu).2 (hEO.out u (below_and B5 le hu)).2)
            go_wp2_with (first
              | (go_at_call 17; refine (HS4.out w22 hc22).mono ?_; rintro e w23 ⟨rfl, hb23⟩)
              | (go_at_call 15; refine HS3.mono ?_; rintro e w22 ⟨rfl, hb22⟩; have hc22 := below_and hcb (Nat.le_refl _) hb22; have y22 := yw.below hc22; have x22 := xw.below hc22)
              | (refine wl_load_w (by rfl) _ _ rfl b rfl _ _ y22 _ Try.underlying25 rfl (by kernel_rfl) ?_)
              | (refine wl_load_w (by rfl) _ _ rfl w.heap.size rfl _ _ x22 _ Try.underlying25 rfl (by kernel_rfl) ?_))
            go_ret
            exact ⟨rfl, below_and (below_and B5 le hc22) le hb23⟩
end Go.Proofs.Ytbnioibeckifbaa
