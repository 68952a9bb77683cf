/- The walk over session.Apply. -/
import Derived.Test.YteafgdidjdfiiaaGreatJ11
import Derived.Deep.Cut
import Derived.Test.YteafgdidjdfiiaaGreatJ04
section
set_option linter.unusedVariables false
set_option linter.unusedSimpArgs false
namespace Go.Proofs.YteafgdidjdfiiaaGreat
open Go.RowKit Oct Kvl

theorem Mv.low {B : Nat} {w w' : World} (h : Below B w w') : Mv (fun k => k < B) (fun k => k < B) w w' := fun k hk _ => ⟨h.block k hk, hk⟩
theorem RT.low {w : World} {v : Value} {l : List Int} (h : RT Any w v l) {B : Nat} (hB : w.heap.size ≤ B) : RT (fun k => k < B) w v l := ⟨h.1, fun hx k hk => Nat.lt_of_lt_of_le (h.1.lt hx k hk) hB⟩
theorem req_low {w : World} {r : List Value} {x : PReq} (h : RReq Any w r x) {B : Nat} (hB : w.heap.size ≤ B) : RReq (fun k => k < B) w r x := by
  obtain ⟨o, g, e, h1, h2⟩ := h
  exact ⟨o, g, e, h1.low hB, h2.low hB⟩

/-- The end of session.step: the state lies in block b. -/
def Rst (b B : Nat) (w : World) (x : PApp × (Int × List Int) × Bool) (e : Ending) (w' : World) : Prop :=
  ∃ vv row', e = .returned (.tuple #[.agg #[.int .i64 x.2.1.1, vv], .bool x.2.2]) ∧ OT (From w.heap.size) w' vv x.2.1.2 ∧ OApp B w' row' x.1 ∧ Row w' b 27 row' ∧ Below B w w'

set_option maxRecDepth 10000 in
set_option maxHeartbeats 8000000 in
/-- session.step. -/
theorem step_any (w : World) (b B : Nat) (row : List Value) (a : PApp) (hO : OApp B w row a) (hrow : Row w b 27 row) (hB : B ≤ w.heap.size) (hBb : B ≤ b) (hgo : goA a) (r : List Value) (x : PReq) (hx : RReq (fun k => k < B) w r x) (hz : szQ x) :
    Calls Tryz.prog 19 #[.pointer (some ⟨b, 0, none⟩), .agg r.toArray] w (Rst b B w (stepA a x)) := by
  have le := Nat.le_refl w.heap.size
  have hwf := hO.app.wf
  obtain ⟨ve, vl, vs, rfl, h1, h2, h3⟩ := hO
  obtain ⟨⟨⟨s1, s2⟩, g1, g2, g3⟩, s3⟩ := hgo
  have HX := (show Hid (∀ u, Below B w u → RReq Any u r x) from fun u hu => mov_req _ _ _ _ _ _ (mov_req _ _ _ _ _ _ hx hu.size (Mv.low hu)) (Nat.le_refl _) Mv.any)
  obtain ⟨vo, vg, rfl, ho, hg⟩ := hx
  obtain ⟨ao, co, rfl, hco⟩ := ho.form
  obtain ⟨ag, cg, rfl, hcg⟩ := hg.form
  obtain ⟨w0, hw0⟩ : ∃ w0, w0 = (w.alloc (.cells #[.int .i64 x.1, .int .i64 x.2.1, .slice ao x.2.2.1.length co, .slice ag x.2.2.2.length cg] 34)).alloc (.cells #[.int .i64 0, .slice none 0 0] 30) := ⟨_, rfl⟩
  have ra : Row w0 w.heap.size 34 [.int .i64 x.1, .int .i64 x.2.1, .slice ao x.2.2.1.length co, .slice ag x.2.2.2.length cg] := by rw [hw0]; exact rowA (Row.new w 34 _) _
  have rr : Row w0 (w.heap.size + 1) 30 [.int .i64 0, .slice none 0 0] := by
    rw [hw0]
    have := Row.new (w.alloc (.cells #[.int .i64 x.1, .int .i64 x.2.1, .slice ao x.2.2.1.length co, .slice ag x.2.2.2.length cg] 34)) 30 [.int .i64 0, .slice none 0 0]
    simpa using this
  have B0 : Below w.heap.size w w0 := by rw [hw0]; exact ((Below.refl _ w).alloc (Nat.le_refl _) _).alloc (by simp) _
  have hbw := hrow.lt
  have r0 := hrow.below B0
  have c0 := r0.cell (j := 0) rfl
  clear ho hg
  go_enter Tryz.func19, Tryz.ntmps19
  go_upto_region 1 with fail
  rw [← hw0]
  clear hw0
  go_upto_region 2 with (refine wl_set rfl _ _ _ rfl b 0 _ rfl rfl _ _ r0 (show 0 < 4 by decide) (by kernel_rfl) rfl ?_; intro w1 hr1 hg1)
  have r1 : Row w1 b 27 [.int .i64 (a.1 + 1), ve, vl, vs] := hr1.out
  have ra1 := ra.grown hg1 (fun e => by injection e with e; omega)
  have rr1 := rr.grown hg1 (fun e => by injection e with e; omega)
  have q1 := (h1.below mov_oent B0).grownR r0 (by decide) (by decide) hg1
  have q2 := (h2.below mov_olea B0).grownL r0 (by decide) (by decide) hg1
  have q3 := (h3.below mov_oses B0).grownN r0 (by decide) (by decide) hg1
  have T1 : Below B w w1 := (B0.mono hB).trans (grown_below hg1 (Nat.le_trans hB B0.size) (fun k hk => by cases hk; exact hBb))
  have hs1 : w.heap.size + 2 ≤ w1.heap.size := by have := rr1.lt; omega
  clear hr1 hg1 r0 c0 ra rr B0 h1 h2 h3 hrow
  generalize hes : a.2.1 = es at *
  generalize hls : a.2.2.1 = ls at *
  generalize hss : a.2.2.2 = ss at *
  have hae : a.2 = (es, ls, ss) := by rw [← hes, ← hls, ← hss]
  have fin0 : ∀ {w2 w7 : World} {vv : Value} {c : Int} {l : List Int}, stepA a x = ((a.1 + 1, a.2), (c, l), false) → Below w1.heap.size w1 w2 → OT (From w1.heap.size) w2 vv l → w2.grownBy w7 (some (w.heap.size + 1)) → Rst b B w (stepA a x) (.returned (.tuple #[.agg #[.int .i64 c, vv], .bool false])) w7 := by
    intro w2 w7 vv c l e hb t2 hg7
    rw [e, hae]
    have rr2 := rr1.below hb
    have r2 := r1.below hb
    have hb2 := T1.trans (hb.mono (Nat.le_trans hB (by omega)))
    refine ⟨vv, [.int .i64 (a.1 + 1), ve, vl, vs], rfl, t2.mv (Mv.from hg7 (by omega) (by omega)), ⟨_, _, _, rfl, (q1.below mov_oent hb).grownR rr2 (by decide) (by decide) hg7, (q2.below mov_olea hb).grownL rr2 (by decide) (by decide) hg7, (q3.below mov_oses hb).grownN rr2 (by decide) (by decide) hg7⟩, r2.grown hg7 (fun e => by injection e with e; omega), hb2.trans (grown_below hg7 (Nat.le_trans hB hb2.size) (fun k hk => by cases hk; omega))⟩
  have FIN0 := (show Hid (∀ {w2 w7 : World} {vv : Value} {c : Int} {l : List Int}, stepA a x = ((a.1 + 1, a.2), (c, l), false) → Below w1.heap.size w1 w2 → OT (From w1.heap.size) w2 vv l → w2.grownBy w7 (some (w.heap.size + 1)) → Rst b B w (stepA a x) (.returned (.tuple #[.agg #[.int .i64 c, vv], .bool false])) w7) from fin0)
  clear fin0
  have hN := isNo_any w1 x ao ag co cg
  by_cases hzz : isZ x
  · rw [decide_eq_true hzz] at hN
    have HD := (show Hid (stepA a x = ((a.1 + 1, a.2), (0, []), false)) by show _ = _; unfold stepA; rw [if_pos hzz])
    clear hzz
    go_wp2_with (first
      | (refine wl_load rfl _ _ rfl w.heap.size rfl _ _ ra1 _ Tryz.underlying34 rfl (by kernel_rfl) ?_)
      | (go_at_call 47; refine hN.mono ?_; rintro e w2 ⟨rfl, hb2⟩; have rr2 := rr1.below hb2)
      | (refine wl_store rfl _ _ _ rfl (w.heap.size + 1) [.int .i64 0, .slice none 0 0] rfl rfl _ _ rr2 rfl (by kernel_rfl) (one_res rfl) ?_; intro w7 hr7 hg7))
    refine bodyPost_ret (results_ct rfl _ _ (w.heap.size + 1) _ _ (0, 0) _ (by rfl) hr7.out Tryz.underlying30 rfl (by kernel_rfl)) rfl ?_
    exact FIN0.out HD.out hb2 (OT.nil _ _) hg7
  rw [decide_eq_false hzz] at hN
  have HZZ := (show Hid (¬ isZ x) from hzz)
  clear hzz
  go_upto_region 4 with (first
    | (refine wl_load rfl _ _ rfl w.heap.size rfl _ _ ra1 _ Tryz.underlying34 rfl (by kernel_rfl) ?_)
    | (go_at_call 47; refine hN.mono ?_; rintro e w2 ⟨rfl, hb2⟩))
  have ra2 := ra1.below hb2
  have rr2 := rr1.below hb2
  have c0 := ra2.cell (j := 0) rfl
  have c1 := ra2.cell (j := 1) rfl
  clear hN ra1
  have HC := (show Hid (∀ u, Calls Tryz.prog 48 #[.int .i64 x.1] u fun e w' => e = .returned (.bool (decide (1 ≤ x.1 ∧ x.1 ≤ 4))) ∧ w' = u) from fun u => isClientN_any u x.1)
  have HT := (show Hid (∀ u, Calls Tryz.prog 49 #[.int .i64 x.2.1] u fun e w' => e = .returned (.bool (decide (1 ≤ x.2.1 ∧ x.2.1 ≤ 2147483647))) ∧ w' = u) from fun u => isStamp_any u x.2.1)
  by_cases hc : 1 ≤ x.1 ∧ x.1 ≤ 4
  rotate_left
  · rw [decide_eq_false hc] at HC
    have HD := (show Hid (stepA a x = ((a.1 + 1, a.2), (5, []), false)) by show _ = _; unfold stepA; rw [if_neg HZZ.out, if_pos (fun h => hc h.1)])
    clear hc
    go_wp2_with (first
      | (go_at_call 48; refine (HC.out w2).mono ?_; rintro e w2 ⟨rfl, rfl⟩)
      | (refine wl_store rfl _ _ _ rfl (w.heap.size + 1) [.int .i64 5, .slice none 0 0] rfl rfl _ _ rr2 rfl (by kernel_rfl) (one_res rfl) ?_; intro w7 hr7 hg7))
    refine bodyPost_ret (results_ct rfl _ _ (w.heap.size + 1) _ _ (0, 0) _ (by rfl) hr7.out Tryz.underlying30 rfl (by kernel_rfl)) rfl ?_
    exact FIN0.out HD.out hb2 (OT.nil _ _) hg7
  rw [decide_eq_true hc] at HC
  by_cases ht : 1 ≤ x.2.1 ∧ x.2.1 ≤ 2147483647
  rotate_left
  · rw [decide_eq_false ht] at HT
    have HD := (show Hid (stepA a x = ((a.1 + 1, a.2), (5, []), false)) by show _ = _; unfold stepA; rw [if_neg HZZ.out, if_pos (fun h => ht h.2)])
    clear ht hc
    go_wp2_with (first
      | (go_at_call 48; refine (HC.out w2).mono ?_; rintro e w2 ⟨rfl, rfl⟩)
      | (go_at_call 49; refine (HT.out w2).mono ?_; rintro e w2 ⟨rfl, rfl⟩)
      | (refine wl_store rfl _ _ _ rfl (w.heap.size + 1) [.int .i64 5, .slice none 0 0] rfl rfl _ _ rr2 rfl (by kernel_rfl) (one_res rfl) ?_; intro w7 hr7 hg7))
    refine bodyPost_ret (results_ct rfl _ _ (w.heap.size + 1) _ _ (0, 0) _ (by rfl) hr7.out Tryz.underlying30 rfl (by kernel_rfl)) rfl ?_
    exact FIN0.out HD.out hb2 (OT.nil _ _) hg7
  rw [decide_eq_true ht] at HT
  have HK := (show Hid (okR x) from ⟨hc, ht⟩)
  clear hc ht
  go_upto_region 6 with (first
    | (go_at_call 48; refine (HC.out w2).mono ?_; rintro e w2 ⟨rfl, rfl⟩)
    | (go_at_call 49; refine (HT.out w2).mono ?_; rintro e w2 ⟨rfl, rfl⟩))
  clear HC HT c0 c1
  have r2 := r1.below hb2
  have q12 := q1.below mov_oent hb2
  have q22 := q2.below mov_olea hb2
  have q32 := q3.below mov_oses hb2
  have hs2 := hb2.size
  obtain ⟨LV, hLV⟩ : ∃ LV, LV = lasN ss x.1 := ⟨_, rfl⟩
  have HLV := (show Hid (LV = lasN a.2.2.2 x.1) by show _ = _; rw [hss]; exact hLV)
  have HLa := (show Hid (∀ u, Below w2.heap.size w2 u → Calls Tryz.prog 50 #[.agg #[.int .i64 (a.1 + 1), ve, vl, vs], .int .i64 x.1] u fun e w' => ∃ ax cx, e = .returned (.tuple #[.int .i64 LV.1, .agg #[.int .i64 LV.2.1, .slice ax LV.2.2.length cx]]) ∧ Hid (∀ z : World, w'.heap.size ≤ z.heap.size → (∀ j, u.heap.size ≤ j → j < w'.heap.size → z.heap[j]? = w'.heap[j]?) → OT (From w1.heap.size) z (.slice ax LV.2.2.length cx) LV.2.2) ∧ Below u.heap.size u w' ∧ Below w2.heap.size w2 w') from fun u hu => by
    rw [hLV]
    refine (last_any u [.int .i64 (a.1 + 1), ve, vl, vs] (a.1 + 1, es, ls, ss) ⟨_, _, _, rfl, (Re.rl q12).mv mov_ent hu.size (Mv.below hu), (Rz.rl q22).mv mov_lea hu.size (Mv.below hu), (Rn.rl q32).mv mov_ses hu.size (Mv.below hu)⟩ (sz_sess g3) x.1).mono ?_
    rintro e w' ⟨vv, e1, e2, e3⟩
    obtain ⟨ax, cx, rfl, _⟩ := e2.rt.form
    exact ⟨ax, cx, e1, fun z hz hk => e2.mv (fun j hj hlt => ⟨hk j hj hlt, by have := hu.size; unfold From at hj ⊢; omega⟩), e3, below_and hu (Nat.le_refl _) e3⟩)
  have SK := (show Hid (∀ u, Below w2.heap.size w2 u → u.cell? ⟨b, 0, none⟩ = some (.int .i64 (a.1 + 1)) ∧ u.cell? ⟨b, 1, none⟩ = some ve ∧ u.cell? ⟨b, 2, none⟩ = some vl ∧ u.cell? ⟨b, 3, none⟩ = some vs ∧ u.cell? ⟨w.heap.size, 0, none⟩ = some (.int .i64 x.1)) from fun u hu => ⟨(r2.below hu).cell (j := 0) rfl, (r2.below hu).cell (j := 1) rfl, (r2.below hu).cell (j := 2) rfl, (r2.below hu).cell (j := 3) rfl, (ra2.below hu).cell (j := 0) rfl⟩)
  clear hLV
  obtain ⟨m0, m1, m2, m3, m4⟩ := SK.out w2 (Below.refl _ _)
  have hba := below_alloc w2 (.cells #[.int .i64 0, .slice none 0 0] 30)
  obtain ⟨n0, n1, n2, n3, n4⟩ := SK.out _ hba
  have hdw : Below w2.heap.size w2 w2.drew := ⟨rfl, rfl, rfl, Nat.le_refl _, fun _ _ => rfl⟩
  have qn1 : w.heap.size ≠ w2.heap.size := by have := ra2.lt; omega
  have qn2 : b ≠ w2.heap.size := by have := r2.lt; omega
  try go_simp
  go_cut [6, 7] from 8 (fun s6 s7 wx => ∃ (b7 : Nat) (vv : Value), s6 = .int .i64 LV.1 ∧ s7 = .pointer (some ⟨b7, 0, none⟩) ∧ OT (From w1.heap.size) wx vv LV.2.2 ∧ Row wx b7 30 [.int .i64 LV.2.1, vv] ∧ w2.heap.size ≤ b7 ∧ Below w2.heap.size w2 wx)
  case first =>
    go_wp2_with fail
    go_region_law (go_simp; go_at_call 50; refine (HLa.out _ (by first | exact Below.refl _ _ | exact hdw | exact hba | exact Below.drew hba)).mono ?_; rintro e w4 ⟨ax, cx, rfl, t4, hb4, hB4⟩; (first | (have q := (Row.new w2 30 [.int .i64 0, .slice none 0 0]).below hb4; have qc0 := q.cell (j := 0) rfl; have qc1 := q.cell (j := 1) rfl; have qf0 := q.frozen 0; have qf1 := q.frozen 1) | (have q := (Row.new w2 30 [.int .i64 0, .slice none 0 0]).drew.below hb4; have qc0 := q.cell (j := 0) rfl; have qc1 := q.cell (j := 1) rfl; have qf0 := q.frozen 0; have qf1 := q.frozen 1) | skip))
    all_goals (
      first
        | (obtain ⟨w6, hw6⟩ : ∃ w6, w6 = w4.alloc (.cells #[.int .i64 LV.2.1, .slice ax LV.2.2.length cx] 30) := ⟨_, rfl⟩; rw [← hw6]; have y6 : Row w6 w4.heap.size 30 [.int .i64 LV.2.1, .slice ax LV.2.2.length cx] := (by rw [hw6]; exact Row.new w4 _ _); have g6 : w4.grownBy w6 (some w4.heap.size) := (by rw [hw6]; exact grown_of_below (below_alloc _ _) _); have hlo : w2.heap.size ≤ w4.heap.size := hB4.size; clear hw6)
        | (obtain ⟨w6, hw6⟩ : ∃ w6, w6 = (w4.setCell ⟨w2.heap.size, 0, none⟩ (.int .i64 LV.2.1)).setCell ⟨w2.heap.size, 1, none⟩ (.slice ax LV.2.2.length cx) := ⟨_, rfl⟩; rw [← hw6]; have y6 : Row w6 w2.heap.size 30 [.int .i64 LV.2.1, .slice ax LV.2.2.length cx] := (by rw [hw6]; exact (q.set 0 _).set 1 _); have g6 : w4.grownBy w6 (some w2.heap.size) := (by rw [hw6]; exact grown_trans (grown_set w4 _ 0 _) (grown_set _ _ 1 _) (.inl rfl)); have hlo : w2.heap.size ≤ w2.heap.size := Nat.le_refl _; clear hw6)
      have z5 := hb4.size
      try simp at z5
      have t6 := t4.out w6 g6.size (fun j h1 h2 => g6.block j h2 (fun e => by injection e with e; (try simp at h1); omega))
      have b6 : Below w2.heap.size w2 w6 := hB4.trans (grown_below g6 hB4.size (fun k hk => by cases hk; exact hlo))
      go_wp2_with fail
      go_meet
      case rel => exact ⟨_, _, rfl, rfl, t6, y6, hlo, b6⟩)
  case rest =>
    clear HLa SK m0 m1 m2 m3 m4 n0 n1 n2 n3 n4 hba hdw qn1 qn2
    obtain ⟨b7, vv, rfl, rfl, t7, z7, hb7, hbc⟩ := hcut
    have hbc1 := below_and hb2 (Nat.le_refl _) hbc
    have rac := ra2.below hbc
    have rrc := rr2.below hbc
    have rc := r2.below hbc
    have c1 := rac.cell (j := 1) rfl
    have hbl := r2.lt
    by_cases e1 : x.2.1 = LV.1
    · have HD := (show Hid (stepA a x = ((a.1 + 1, a.2), (LV.2.1, LV.2.2), false)) by
        show _ = _
        unfold stepA
        rw [if_neg HZZ.out, if_neg (not_not_intro HK.out), ← HLV.out, if_pos e1])
      have e1' : (x.2.1 == LV.1) = true := by simp [e1]
      clear e1
      go_wp2_with (first
        | (refine wl_load rfl _ _ rfl b7 rfl _ _ z7 _ Tryz.underlying30 rfl (by kernel_rfl) ?_)
        | (refine wl_store rfl _ _ _ rfl (w.heap.size + 1) [.int .i64 LV.2.1, vv] rfl rfl _ _ rrc rfl (by kernel_rfl) (one_res t7.one) ?_; intro w8 hr8 hg8))
      refine bodyPost_ret (results_ct rfl _ _ (w.heap.size + 1) _ _ (0, 0) _ (by rfl) hr8.out Tryz.underlying30 rfl (by kernel_rfl)) rfl ?_
      exact FIN0.out HD.out hbc1 t7 hg8
    have e1' : (x.2.1 == LV.1) = false := by simp [e1]
    by_cases e2 : x.2.1 < LV.1
    · have HD := (show Hid (stepA a x = ((a.1 + 1, a.2), (6, []), false)) by
        show _ = _
        unfold stepA
        rw [if_neg HZZ.out, if_neg (not_not_intro HK.out), ← HLV.out, if_neg e1, if_pos e2])
      clear e1
      go_wp2_with (refine wl_store rfl _ _ _ rfl (w.heap.size + 1) [.int .i64 6, .slice none 0 0] rfl rfl _ _ rrc rfl (by kernel_rfl) (one_res rfl) ?_; intro w8 hr8 hg8)
      refine bodyPost_ret (results_ct rfl _ _ (w.heap.size + 1) _ _ (0, 0) _ (by rfl) hr8.out Tryz.underlying30 rfl (by kernel_rfl)) rfl ?_
      exact FIN0.out HD.out hbc1 (OT.nil _ _) hg8
    have e2' : decide (x.2.1 < LV.1) = false := by simp; omega
    obtain ⟨D, hDD⟩ : ∃ D, D = opA es ls x (a.1 + 1) := ⟨_, rfl⟩
    have HD := (show Hid (stepA a x = ((a.1 + 1, D.1, D.2.1, putR [x.1] (x.2.1 :: D.2.2.1 :: D.2.2.2) ss), D.2.2, true)) by
      show _ = _
      unfold stepA
      rw [if_neg HZZ.out, if_neg (not_not_intro HK.out), ← HLV.out, if_neg e1, if_neg e2, hae, hDD])
    have hDr := opA_rgt (r := x) (slot := a.1 + 1) g1 g2
    rw [← hDD] at hDr
    have Tc : Below B w wc := T1.trans (hbc1.mono (Nat.le_trans hB (by omega)))
    have hDo := doN_any wc b B (a.1 + 1) ve vl vs es ls ss (q12.below mov_oent hbc) (q22.below mov_olea hbc) (q32.below mov_oses hbc) rc (Nat.le_trans hB Tc.size) g1 g2 _ x (HX.out wc Tc) hz
    rw [← hDD] at hDo
    have HUP := (show Hid (up [0] ss) from chk_up hwf g3)
    have hlen : ss.length ≤ 64 := Nat.le_trans (rgn_len g3) (by decide)
    have hscs := Nat.le_trans hs2 hbc.size
    clear e1 e2 hDD FIN0 HZZ HK HLV HX hwf g1 g2 g3
    have c1 := rac.cell (j := 1) rfl
    go_upto_region 12 with (first
      | (refine wl_load rfl _ _ rfl w.heap.size rfl _ _ rac _ Tryz.underlying34 rfl (by kernel_rfl) ?_)
      | (go_at_call 51; refine hDo.mono ?_; rintro e w8 ⟨ve8, vl8, vv8, rfl, t8, l8, m8, s8, r8, hg8⟩; have z8 := z7.grown hg8 (fun e => by injection e with e; omega))
      | (refine wl_store rfl _ _ _ rfl b7 [.int .i64 D.2.2.1, vv8] rfl rfl _ _ z8 rfl (by kernel_rfl) (one_res t8.one) ?_; intro w9 hr9 hg9))
    obtain ⟨ax8, cx8, rfl, hcx8⟩ := t8.rt.form
    have z9 : Row w9 b7 30 [.int .i64 D.2.2.1, .slice ax8 D.2.2.2.length cx8] := hr9.out
    have rb9 := r8.grown hg9 (fun e => by injection e with e; omega)
    have l9 := l8.grownR z8 (by decide) (by decide) hg9
    have m9 := m8.grownL z8 (by decide) (by decide) hg9
    have s9 := s8.grownN z8 (by decide) (by decide) hg9
    have ra9 := (rac.grown hg8 (fun e => by injection e with e; omega)).grown hg9 (fun e => by injection e with e; have := rac.lt; omega)
    have rr9 := (rrc.grown hg8 (fun e => by injection e with e; omega)).grown hg9 (fun e => by injection e with e; have := rrc.lt; omega)
    have hsc := z7.lt
    have t9 : OT (From wc.heap.size) w9 (.slice ax8 D.2.2.2.length cx8) D.2.2.2 := t8.mv (Mv.from hg9 hsc (Nat.le_refl _))
    have T9 : Below B w w9 := (Tc.trans (grown_below hg8 (Nat.le_trans hB Tc.size) (fun k hk => by cases hk; exact hBb))).trans (grown_below hg9 (Nat.le_trans hB (Nat.le_trans Tc.size hg8.size)) (fun k hk => by cases hk; omega))
    have hK := keep_any w9 b B ve8 vl8 vs (a.1 + 1, D.1, D.2.1, ss) l9 m9 s9 rb9 (Nat.le_trans hB T9.size) [0] HUP.out hlen [.int .i64 x.1, .int .i64 x.2.1, .int .i64 D.2.2.1, .slice ax8 D.2.2.2.length cx8] x.1 x.2.1 D.2.2.1 D.2.2.2 ⟨_, _, _, _, _, rfl, t9.rt.weak, rfl⟩ (Nat.le_trans hDr.2.2.2 (by decide))
    have hfs := s9.fr
    clear hDo hr9 hg9 hg8 z8 r8 l8 m8 s8 c1 rac rrc rc z7 hbc t7 t8 hbc1 Tc
    have c0 := ra9.cell (j := 0) rfl
    have c1 := ra9.cell (j := 1) rfl
    go_upto_region 13 with (first
      | (refine wl_load rfl _ _ rfl b7 rfl _ _ z9 _ Tryz.underlying30 rfl (by kernel_rfl) ?_)
      | (go_at_call 52; refine hK.mono ?_; rintro e w10 ⟨rfl, row10, o10, r10, tw⟩))
    have z10 := tw.row z9 (by omega) (s9.apart z9 (by decide))
    have rr10 := tw.row rr9 (by omega) (s9.apart rr9 (by decide))
    have t10 := tw.ot s9 rb9 t9
    have T10 := T9.trans (tw.bel hBb hfs (Nat.le_trans hB T9.size))
    clear hK c0 c1 z9 rr9 t9 ra9 l9 m9 s9 rb9 T9 tw
    go_wp2_with (first
      | (refine wl_load rfl _ _ rfl b7 rfl _ _ z10 _ Tryz.underlying30 rfl (by kernel_rfl) ?_)
      | (refine wl_store rfl _ _ _ rfl (w.heap.size + 1) [.int .i64 D.2.2.1, .slice ax8 D.2.2.2.length cx8] rfl rfl _ _ rr10 rfl (by kernel_rfl) (one_res rfl) ?_; intro w11 hr11 hg11))
    refine bodyPost_ret (results_ct rfl _ _ (w.heap.size + 1) _ _ (0, 0) _ (by rfl) hr11.out Tryz.underlying30 rfl (by kernel_rfl)) rfl ?_
    rw [HD.out]
    obtain ⟨ve10, vl10, vs10, rfl, u1, u2, u3⟩ := o10
    exact ⟨_, _, rfl, t10.mv (Mv.from hg11 (by omega) (by omega)), ⟨_, _, _, rfl, u1.grownR rr10 (by decide) (by decide) hg11, u2.grownL rr10 (by decide) (by decide) hg11, u3.grownN rr10 (by decide) (by decide) hg11⟩, r10.grown hg11 (fun e => by injection e with e; omega), T10.trans (grown_below hg11 (Nat.le_trans hB T10.size) (fun k hk => by cases hk; omega))⟩
end Go.Proofs.YteafgdidjdfiiaaGreat
end

section
set_option linter.unusedVariables false
set_option linter.unusedSimpArgs false
namespace Go.Proofs.YteafgdidjdfiiaaGreat
open Go.RowKit Oct Kvl

theorem results_cct {P : Program} {fn : Func} {p t s : Tmp} {ty uy : TypeId} (h : fn.results = #[.cell p ty, .cell t uy, .tmp s]) (tmps : Array Value) (w : World) (g g2 : Nat) (tt t2 : TypeId) (cs c2 : Array Value) (fr f2 : Nat × Nat) (d d2 : TypeDesc)
    (hp : tmps.getD p undef = .pointer (some ⟨g, 0, none⟩)) (hp2 : tmps.getD t undef = .pointer (some ⟨g2, 0, none⟩)) (hg : w.heap[g]? = some (.cells cs tt fr)) (hg2 : w.heap[g2]? = some (.cells c2 t2 f2))
    (hu : P.underlying ty = some d) (hd : (match d with | .struct _ | .array _ _ => true | _ => false) = true) (hi : (P.info? ty).map (·.size) = some cs.size)
    (hu2 : P.underlying uy = some d2) (hd2 : (match d2 with | .struct _ | .array _ _ => true | _ => false) = true) (hi2 : (P.info? uy).map (·.size) = some c2.size) :
    (results fn tmps).run P w = .ok (.tuple #[.agg cs, .agg c2, tmps.getD s undef]) w := by
  have hp' : tmps[p]?.getD undef = .pointer (some ⟨g, 0, none⟩) := by simpa using hp
  have hp2' : tmps[t]?.getD undef = .pointer (some ⟨g2, 0, none⟩) := by simpa using hp2
  simp [results, h, hp', hp2', asAddr, run_loadVar_row w g tt ty cs fr d hg hu hd hi, run_loadVar_row w g2 t2 uy c2 f2 d2 hg2 hu2 hd2 hi2]
theorem grown4S (w : World) (b : Nat) (v0 v1 v2 v3 : Value) : w.grownBy ((((w.setCell ⟨b, 0, none⟩ v0).setCell ⟨b, 1, none⟩ v1).setCell ⟨b, 2, none⟩ v2).setCell ⟨b, 3, none⟩ v3) (some b) :=
  grown_trans (grown_trans (grown_trans (grown_set w b 0 v0) (grown_set _ b 1 v1) (.inl rfl)) (grown_set _ b 2 v2) (.inl rfl)) (grown_set _ b 3 v3) (.inl rfl)
theorem two_rowsS {w : World} {b c : Nat} {t u : TypeId} {x0 x1 x2 x3 y0 y1 : Value} (h : Row w b t [x0, x1, x2, x3]) (k : Row w c u [y0, y1]) (hn : b ≠ c) (v0 v1 v2 v3 u0 u1 : Value) :
    ∃ w1, w.grownBy w1 (some b) ∧ w1.grownBy ((((((w.setCell ⟨b, 0, none⟩ v0).setCell ⟨b, 1, none⟩ v1).setCell ⟨b, 2, none⟩ v2).setCell ⟨b, 3, none⟩ v3).setCell ⟨c, 0, none⟩ u0).setCell ⟨c, 1, none⟩ u1).drew (some c) ∧
      Row w1 c u [y0, y1] ∧
      Row ((((((w.setCell ⟨b, 0, none⟩ v0).setCell ⟨b, 1, none⟩ v1).setCell ⟨b, 2, none⟩ v2).setCell ⟨b, 3, none⟩ v3).setCell ⟨c, 0, none⟩ u0).setCell ⟨c, 1, none⟩ u1).drew b t [v0, v1, v2, v3] ∧
      Row ((((((w.setCell ⟨b, 0, none⟩ v0).setCell ⟨b, 1, none⟩ v1).setCell ⟨b, 2, none⟩ v2).setCell ⟨b, 3, none⟩ v3).setCell ⟨c, 0, none⟩ u0).setCell ⟨c, 1, none⟩ u1).drew c u [u0, u1] := by
  have r1 : Row ((((w.setCell ⟨b, 0, none⟩ v0).setCell ⟨b, 1, none⟩ v1).setCell ⟨b, 2, none⟩ v2).setCell ⟨b, 3, none⟩ v3) b t [v0, v1, v2, v3] := (((h.set 0 v0).set 1 v1).set 2 v2).set 3 v3
  have g1 := grown4S w b v0 v1 v2 v3
  have k1 := k.grown g1 (fun e => hn (by injection e))
  generalize (((w.setCell ⟨b, 0, none⟩ v0).setCell ⟨b, 1, none⟩ v1).setCell ⟨b, 2, none⟩ v2).setCell ⟨b, 3, none⟩ v3 = w1 at *
  have g2 := grown_to_drew (grown_trans (grown_set w1 c 0 u0) (grown_set _ c 1 u1) (.inl rfl))
  exact ⟨w1, g1, g2, k1, r1.grown g2 (fun e => hn (by injection e with e; exact e.symm)), ((k1.set 0 u0).set 1 u1).drew⟩

end Go.Proofs.YteafgdidjdfiiaaGreat
end

section
set_option linter.unusedVariables false
set_option linter.unusedSimpArgs false
namespace Go.Proofs.YteafgdidjdfiiaaGreat
open Go.RowKit Oct Kvl

/-- The end of session.Apply. -/
def Rap (w : World) (x : PApp × (Int × List Int) × Bool) (e : Ending) (w' : World) : Prop :=
  ∃ row vv, e = .returned (.tuple #[.agg row.toArray, .agg #[.int .i64 x.2.1.1, vv], .bool x.2.2]) ∧ OApp w.heap.size w' row x.1 ∧ OT (From w.heap.size) w' vv x.2.1.2 ∧ Below w.heap.size w w'
theorem OApp.weak {B C : Nat} {w : World} {r : List Value} {a : PApp} (h : OApp B w r a) (hC : C ≤ B) : OApp C w r a := by
  obtain ⟨ve, vl, vs, e, h1, h2, h3⟩ := h
  exact ⟨ve, vl, vs, e, h1.weak mov_oent hC, h2.weak mov_olea hC, h3.weak mov_oses hC⟩
theorem OApp.grown {B : Nat} {w w' : World} {r : List Value} {a : PApp} (h : OApp B w r a) {b : Nat} (hg : w.grownBy w' (some b)) (hb : b < B) : OApp B w' r a := by
  obtain ⟨ve, vl, vs, e, h1, h2, h3⟩ := h
  exact ⟨ve, vl, vs, e, h1.grown mov_oent hg hb, h2.grown mov_olea hg hb, h3.grown mov_oses hg hb⟩

set_option maxRecDepth 10000 in
set_option maxHeartbeats 8000000 in
/-- session.Apply. -/
theorem apply_any (w : World) (row : List Value) (a : PApp) (h : RApp Any w row a) (hza : szA a) (r : List Value) (x : PReq) (hx : RReq Any w r x) (hz : szQ x) :
    Calls Tryz.prog 4 #[.agg row.toArray, .agg r.toArray] w (Rap w (applyA a x)) := by
  have le := Nat.le_refl w.heap.size
  have hall := h
  have hxall := hx
  obtain ⟨ve, vl, vs, rfl, h1, h2, h3⟩ := h
  obtain ⟨vo, vg, rfl, ho, hg⟩ := hx
  obtain ⟨w0, hw0⟩ : ∃ w0, w0 = (((w.alloc (.cells #[.int .i64 a.1, ve, vl, vs] 27)).alloc (.cells #[.int .i64 x.1, .int .i64 x.2.1, vo, vg] 34)).alloc (.cells #[.int .i64 0, .slice none 0 0, .slice none 0 0, .slice none 0 0] 27)).alloc (.cells #[.int .i64 0, .slice none 0 0] 30) := ⟨_, rfl⟩
  have ra : Row w0 w.heap.size 27 [.int .i64 a.1, ve, vl, vs] := by rw [hw0]; exact rowA (rowA (rowA (Row.new w 27 _) _) _) _
  have rq : Row w0 (w.heap.size + 1) 34 [.int .i64 x.1, .int .i64 x.2.1, vo, vg] := by
    rw [hw0]; refine rowA (rowA ?_ _) _
    have := Row.new (w.alloc (.cells #[.int .i64 a.1, ve, vl, vs] 27)) 34 [.int .i64 x.1, .int .i64 x.2.1, vo, vg]
    simpa using this
  have rs : Row w0 (w.heap.size + 1 + 1) 27 [.int .i64 0, .slice none 0 0, .slice none 0 0, .slice none 0 0] := by
    rw [hw0]; refine rowA ?_ _
    have := Row.new ((w.alloc (.cells #[.int .i64 a.1, ve, vl, vs] 27)).alloc (.cells #[.int .i64 x.1, .int .i64 x.2.1, vo, vg] 34)) 27 [.int .i64 0, .slice none 0 0, .slice none 0 0, .slice none 0 0]
    simpa using this
  have rr : Row w0 (w.heap.size + 1 + 1 + 1) 30 [.int .i64 0, .slice none 0 0] := by
    rw [hw0]
    have := Row.new (((w.alloc (.cells #[.int .i64 a.1, ve, vl, vs] 27)).alloc (.cells #[.int .i64 x.1, .int .i64 x.2.1, vo, vg] 34)).alloc (.cells #[.int .i64 0, .slice none 0 0, .slice none 0 0, .slice none 0 0] 27)) 30 [.int .i64 0, .slice none 0 0]
    simpa using this
  have B0 : Below w.heap.size w w0 := by rw [hw0]; exact below_and (below_and (below_and (below_alloc _ _) le (below_alloc _ _)) le (below_alloc _ _)) le (below_alloc _ _)
  have hs0 : w0.heap.size = w.heap.size + 4 := by rw [hw0]; simp
  have hC := cloneApp_any w0 _ a (hall.below B0) hza
  have HA := (show Hid (∀ u, Below w.heap.size w u → RApp Any u [.int .i64 a.1, ve, vl, vs] a) from fun u hu => hall.below hu)
  clear h1 h2 h3 ho hg hall
  go_enter Tryz.func4, Tryz.ntmps4
  go_upto_region 1 with fail
  rw [← hw0]
  clear hw0
  go_upto_region 2 with (first
    | (refine wl_load rfl _ _ rfl w.heap.size rfl _ _ ra _ Tryz.underlying27 rfl (by kernel_rfl) ?_)
    | (go_at_call 16; refine hC.mono ?_; rintro e w1 ⟨r1, rfl, o1, hb1⟩; have o1' := o1; obtain ⟨ve1, vl1, vs1, rfl, u1, u2, u3⟩ := o1; have n1 := Row.new w1 27 [.int .i64 0, .slice none 0 0, .slice none 0 0, .slice none 0 0])
    | (refine wl_store rfl _ _ _ rfl w1.heap.size [.int .i64 a.1, ve1, vl1, vs1] rfl rfl _ _ n1 rfl (by kernel_rfl) (onA4 u1.form u2.form u3.form) ?_; intro w2 hr2 hg2))
  have y2 := hr2.out
  have b12 : Below w1.heap.size w1 w2 := (below_alloc w1 _).trans (grown_below hg2 (by simp) (fun k hk => by cases hk; exact Nat.le_refl _))
  have b02 := below_and hb1 (Nat.le_refl _) b12
  have T2 := below_and B0 le b02
  have o2 := o1'.below b12
  obtain ⟨b, hb⟩ : ∃ b, b = w1.heap.size := ⟨_, rfl⟩
  rw [← hb] at y2 ⊢
  have hbl : w0.heap.size ≤ b := by rw [hb]; exact hb1.size
  have ra2 := ra.below b02
  have rq2 := rq.below b02
  have rs2 := rs.below b02
  have rr2 := rr.below b02
  have o2 := o2.weak (C := w0.heap.size) (by omega)
  clear hC o1' u1 u2 u3 n1 hr2 hg2 b12 hb1 hb ra rq
  have hR := rightA_any w2 _ a (HA.out w2 T2)
  have HE := (show Hid (∀ u, Calls Tryz.prog 18 #[.agg #[.int .i64 a.1, ve, vl, vs]] u fun e w' => e = .returned (.bool (decide (1000000 ≤ a.1))) ∧ Below u.heap.size u w') from fun u => isAtEnd_any u a.1 ve vl vs)
  have fin5 : ∀ {w3 w4 w5 : World}, ¬ goA a → Below w2.heap.size w2 w3 → w3.grownBy w4 (some (w.heap.size + 1 + 1)) → w4.grownBy w5 (some (w.heap.size + 1 + 1 + 1)) → Rap w (applyA a x) (.returned (.tuple #[.agg #[.int .i64 a.1, ve1, vl1, vs1], .agg #[.int .i64 5, .slice none 0 0], .bool false])) w5 := by
    intro w3 w4 w5 hn hb3 g4 g5
    have e : applyA a x = (a, (5, []), false) := by unfold applyA; rw [if_neg hn]
    rw [e]
    have T3 := below_and T2 le hb3
    have o5 := ((o2.below hb3).grown g4 (by omega)).grown g5 (by omega)
    exact ⟨_, _, rfl, o5.weak (by omega), OT.nil _ _, (T3.trans (grown_below g4 T3.size (fun k hk => by cases hk; omega))).trans (grown_below g5 (Nat.le_trans T3.size g4.size) (fun k hk => by cases hk; omega))⟩
  have FIN5 := (show Hid (∀ {w3 w4 w5 : World}, ¬ goA a → Below w2.heap.size w2 w3 → w3.grownBy w4 (some (w.heap.size + 1 + 1)) → w4.grownBy w5 (some (w.heap.size + 1 + 1 + 1)) → Rap w (applyA a x) (.returned (.tuple #[.agg #[.int .i64 a.1, ve1, vl1, vs1], .agg #[.int .i64 5, .slice none 0 0], .bool false])) w5) from fin5)
  clear fin5
  have hone := o2.app.one
  by_cases hr : rgtA a
  rotate_left
  · rw [decide_eq_false hr] at hR
    have HN := (show Hid (¬ goA a) from fun h => hr h.1)
    clear hr
    go_wp2_with (first
      | (refine wl_load rfl _ _ rfl w.heap.size rfl _ _ ra2 _ Tryz.underlying27 rfl (by kernel_rfl) ?_)
      | (go_at_call 17; refine hR.mono ?_; rintro e w3 ⟨rfl, hb3⟩; have y3 := y2.below hb3; have rs3 := rs2.below hb3)
      | (refine wl_load rfl _ _ rfl b rfl _ _ y3 _ Tryz.underlying27 rfl (by kernel_rfl) ?_)
      | (refine wl_store rfl _ _ _ rfl (w.heap.size + 1 + 1) [.int .i64 a.1, ve1, vl1, vs1] rfl rfl _ _ rs3 rfl (by kernel_rfl) hone ?_; intro w4 hr4 hg4; have rr4 := (rr2.below hb3).grown hg4 (fun e => by injection e with e; omega))
      | (refine wl_store rfl _ _ _ rfl (w.heap.size + 1 + 1 + 1) [.int .i64 5, .slice none 0 0] rfl rfl _ _ rr4 rfl (by kernel_rfl) (one_res rfl) ?_; intro w5 hr5 hg5; have rs5 := hr4.out.grown hg5 (fun e => by injection e with e; omega)))
    refine bodyPost_ret (results_cct rfl _ _ (w.heap.size + 1 + 1) (w.heap.size + 1 + 1 + 1) _ _ _ _ (0, 0) (0, 0) _ _ (by rfl) (by rfl) rs5 hr5.out Tryz.underlying27 rfl (by kernel_rfl) Tryz.underlying30 rfl (by kernel_rfl)) rfl ?_
    exact FIN5.out HN.out hb3 hg4 hg5
  rw [decide_eq_true hr] at hR
  by_cases hn : 1000000 ≤ a.1
  · rw [decide_eq_true hn] at HE
    have HN := (show Hid (¬ goA a) from fun h => by have := h.2; omega)
    clear hr hn
    go_wp2_with (first
      | (refine wl_load rfl _ _ rfl w.heap.size rfl _ _ ra2 _ Tryz.underlying27 rfl (by kernel_rfl) ?_)
      | (go_at_call 17; refine hR.mono ?_; rintro e w3 ⟨rfl, hb3⟩; have ra3 := ra2.below hb3)
      | (refine wl_load_w (by rfl) _ _ rfl w.heap.size rfl _ _ ra3 _ Tryz.underlying27 rfl (by kernel_rfl) ?_)
      | (go_at_call 18; refine (HE.out w3).mono ?_; rintro e w3' ⟨rfl, hb3'⟩; have hb23 := below_and hb3 (Nat.le_refl _) hb3'; have y3 := y2.below hb23; have rs3 := rs2.below hb23)
      | (refine wl_load rfl _ _ rfl b rfl _ _ y3 _ Tryz.underlying27 rfl (by kernel_rfl) ?_)
      | (refine wl_store rfl _ _ _ rfl (w.heap.size + 1 + 1) [.int .i64 a.1, ve1, vl1, vs1] rfl rfl _ _ rs3 rfl (by kernel_rfl) hone ?_; intro w4 hr4 hg4; have rr4 := (rr2.below hb23).grown hg4 (fun e => by injection e with e; omega))
      | (refine wl_store rfl _ _ _ rfl (w.heap.size + 1 + 1 + 1) [.int .i64 5, .slice none 0 0] rfl rfl _ _ rr4 rfl (by kernel_rfl) (one_res rfl) ?_; intro w5 hr5 hg5; have rs5 := hr4.out.grown hg5 (fun e => by injection e with e; omega)))
    refine bodyPost_ret (results_cct rfl _ _ (w.heap.size + 1 + 1) (w.heap.size + 1 + 1 + 1) _ _ _ _ (0, 0) (0, 0) _ _ (by rfl) (by rfl) rs5 hr5.out Tryz.underlying27 rfl (by kernel_rfl) Tryz.underlying30 rfl (by kernel_rfl)) rfl ?_
    exact FIN5.out HN.out hb23 hg4 hg5
  rw [decide_eq_false hn] at HE
  have hgo : goA a := ⟨hr, by omega⟩
  have HAP := (show Hid (applyA a x = stepA a x) by show _ = _; unfold applyA; rw [if_pos hgo])
  have HST := (show Hid (∀ u, Below w2.heap.size w2 u → Calls Tryz.prog 19 #[.pointer (some ⟨b, 0, none⟩), .agg #[.int .i64 x.1, .int .i64 x.2.1, vo, vg]] u (Rst b w0.heap.size u (stepA a x))) from fun u hu => step_any u b w0.heap.size _ a (o2.below hu) (y2.below hu) (Nat.le_trans b02.size hu.size) hbl hgo _ x (by
    have hx2 := mov_req _ _ _ _ _ _ (req_low hxall le) (below_and T2 le hu).size (Mv.low (below_and T2 le hu))
    exact mov_req _ _ _ _ _ _ hx2 (Nat.le_refl _) (fun k hk _ => ⟨rfl, by omega⟩)) hz)
  clear hr hn hgo hxall FIN5
  generalize stepA a x = S at *
  go_upto_region 5 with (first
    | (refine wl_load rfl _ _ rfl w.heap.size rfl _ _ ra2 _ Tryz.underlying27 rfl (by kernel_rfl) ?_)
    | (go_at_call 17; refine hR.mono ?_; rintro e w3 ⟨rfl, hb3⟩; have ra3 := ra2.below hb3)
    | (refine wl_load_w (by rfl) _ _ rfl w.heap.size rfl _ _ ra3 _ Tryz.underlying27 rfl (by kernel_rfl) ?_)
    | (go_at_call 18; refine (HE.out w3).mono ?_; rintro e w3' ⟨rfl, hb3'⟩; have hb23 := below_and hb3 (Nat.le_refl _) hb3'; have rq3 := rq2.below hb23)
    | (refine wl_load rfl _ _ rfl (w.heap.size + 1) rfl _ _ rq3 _ Tryz.underlying34 rfl (by kernel_rfl) ?_)
    | (go_at_call 19; refine (HST.out w3' hb23).mono ?_; rintro e w4 ⟨vv4, row4, rfl, t4, o4, y4, T4⟩; have n4 := Row.new w4 30 [.int .i64 0, .slice none 0 0])
    | (refine wl_store rfl _ _ _ rfl w4.heap.size [.int .i64 S.2.1.1, vv4] rfl rfl _ _ n4 rfl (by kernel_rfl) (one_res t4.one) ?_; intro w5 hr5 hg5))
  have z5 := hr5.out
  have b45 : Below w4.heap.size w4 w5 := (below_alloc w4 _).trans (grown_below hg5 (by simp) (fun k hk => by cases hk; exact Nat.le_refl _))
  have b03 := below_and b02 (Nat.le_refl _) hb23
  have T05 : Below w0.heap.size w0 w5 := (b03.trans T4).trans (b45.mono (Nat.le_trans b03.size T4.size))
  have Tw5 := below_and B0 le T05
  have o5 := o4.below b45
  have y5 := y4.below b45
  have hb23s := b03.size
  have t5 := (t4.mv (Mv.belowG b45)).mv (G' := From w0.heap.size) (Mv.weak (by omega))
  have rs5 := rs.below T05
  have rr5 := rr.below T05
  obtain ⟨b8, hb8⟩ : ∃ b8, b8 = w4.heap.size := ⟨_, rfl⟩
  rw [← hb8] at z5 ⊢
  have hb8l : w0.heap.size ≤ b8 := by rw [hb8]; have := T4.size; omega
  have x1 : b8 ≠ w.heap.size + 1 + 1 := by omega
  have x2 : b8 ≠ w.heap.size + 1 + 1 + 1 := by omega
  have x3 : b ≠ w.heap.size + 1 + 1 := by omega
  have x4 : b ≠ w.heap.size + 1 + 1 + 1 := by omega
  clear HST hR HE HA ra2 rq2 rs2 rr2 o2 hone y2 hb3 hb3' ra3 rq3 hb23 b02 T2 b03 t4 o4 y4 T4 n4 hr5 hg5 b45 hb8 B0 hb23s hbl
  have o5' := o5
  obtain ⟨ve5, vl5, vs5, rfl, u1, u2, u3⟩ := o5'
  obtain ⟨ae, ce, rfl, _⟩ := (Re.rl u1).form
  obtain ⟨al, cl, rfl, _⟩ := (Rz.rl u2).form
  obtain ⟨as', cs', rfl, _⟩ := (Rn.rl u3).form
  obtain ⟨ax, cx, rfl, _⟩ := t5.rt.form
  have i0 := y5.cell (j := 0) rfl
  have i1 := y5.cell (j := 1) rfl
  have i2 := y5.cell (j := 2) rfl
  have i3 := y5.cell (j := 3) rfl
  have j0 := z5.cell (j := 0) rfl
  have j1 := z5.cell (j := 1) rfl
  have m0 := rs5.cell (j := 0) rfl
  have m1 := rs5.cell (j := 1) rfl
  have m2 := rs5.cell (j := 2) rfl
  have m3 := rs5.cell (j := 3) rfl
  have n0 := rr5.cell (j := 0) rfl
  have n1 := rr5.cell (j := 1) rfl
  have f0 := rs5.frozen 0
  have f1 := rs5.frozen 1
  have f2 := rs5.frozen 2
  have f3 := rs5.frozen 3
  have f4 := rr5.frozen 0
  have f5 := rr5.frozen 1
  have ROWS := (show Hid (Row w5 (w.heap.size + 1 + 1) 27 [.int .i64 0, .slice none 0 0, .slice none 0 0, .slice none 0 0] ∧ Row w5 (w.heap.size + 1 + 1 + 1) 30 [.int .i64 0, .slice none 0 0]) from ⟨rs5, rr5⟩)
  have OO := (show Hid (OApp w0.heap.size w5 [.int .i64 S.1.1, .slice ae S.1.2.1.length ce, .slice al S.1.2.2.1.length cl, .slice as' S.1.2.2.2.length cs'] S.1) from o5)
  clear u1 u2 u3 o5 rs5 rr5 y5 z5
  go_region
  all_goals (
    obtain ⟨z1, gA, gB, _, rA, rB⟩ := two_rowsS ROWS.out.1 ROWS.out.2 (by omega) (.int .i64 S.1.1) (.slice ae S.1.2.1.length ce) (.slice al S.1.2.2.1.length cl) (.slice as' S.1.2.2.2.length cs') (.int .i64 S.2.1.1) (.slice ax S.2.1.2.length cx)
    clear ROWS i0 i1 i2 i3 j0 j1 m0 m1 m2 m3 n0 n1 f0 f1 f2 f3 f4 f5
    generalize ((((((w5.setCell ⟨w.heap.size + 1 + 1, 0, none⟩ (.int .i64 S.1.1)).setCell ⟨w.heap.size + 1 + 1, 1, none⟩ (.slice ae S.1.2.1.length ce)).setCell ⟨w.heap.size + 1 + 1, 2, none⟩ (.slice al S.1.2.2.1.length cl)).setCell ⟨w.heap.size + 1 + 1, 3, none⟩ (.slice as' S.1.2.2.2.length cs')).setCell ⟨w.heap.size + 1 + 1 + 1, 0, none⟩ (.int .i64 S.2.1.1)).setCell ⟨w.heap.size + 1 + 1 + 1, 1, none⟩ (.slice ax S.2.1.2.length cx)).drew = z at *
    go_wp2_with fail
    refine bodyPost_ret (results_cct rfl _ _ (w.heap.size + 1 + 1) (w.heap.size + 1 + 1 + 1) _ _ _ _ (0, 0) (0, 0) _ _ (by rfl) (by rfl) rA rB Tryz.underlying27 rfl (by kernel_rfl) Tryz.underlying30 rfl (by kernel_rfl)) rfl ?_
    rw [HAP.out]
    exact ⟨_, _, rfl, ((OO.out.grown gA (by omega)).grown gB (by omega)).weak (by omega), ((t5.mv (Mv.from gA (by omega) (Nat.le_refl _))).mv (Mv.from gB (by omega) (Nat.le_refl _))).mv (Mv.weak (by omega)), (Tw5.trans (grown_below gA Tw5.size (fun k hk => by cases hk; omega))).trans (grown_below gB (Nat.le_trans Tw5.size gA.size) (fun k hk => by cases hk; omega))⟩)
end Go.Proofs.YteafgdidjdfiiaaGreat
end
