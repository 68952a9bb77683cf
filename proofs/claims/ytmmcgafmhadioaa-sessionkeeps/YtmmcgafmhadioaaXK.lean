/- catenarylaw09.SessionKeeps: its walk. (Made by mk9l.py.) -/
import Derived.Test.YtmmcgafmhadioaaXI
section
set_option linter.unusedVariables false
set_option linter.unusedSimpArgs false
namespace Go.Proofs.Ytmmcgafmhadioaa
open Go.RowKit Oct Kvl

set_option maxRecDepth 10000 in
set_option maxHeartbeats 16000000 in
theorem keepsA_any (w : World) (r0 : List Value) (a : PApp) (r1 : List Value) (x : PReq) (h0 : RApp Any w r0 a) (h1 : RReq Any w r1 x) (z0 : szA a) (z1 : szQ x) :
    Calls Try.prog 5 #[.agg r0.toArray, .agg r1.toArray] w fun e w' => e = .returned (.bool true) ∧ Below w.heap.size w w' := by
  have le := Nat.le_refl w.heap.size
  have hall := h0
  have hxall := h1
  obtain ⟨ve, vl, vs, rfl, e1, e2, e3⟩ := h0
  obtain ⟨vo, vg, rfl, o1, o2⟩ := h1
  clear e1 e2 e3 o1 o2
  obtain ⟨w0, hw0⟩ : ∃ w0, w0 = (w.alloc (.cells #[.int .i64 a.1, ve, vl, vs] 31)).alloc (.cells #[.int .i64 x.1, .int .i64 x.2.1, vo, vg] 35) := ⟨_, rfl⟩
  have xa : Row w0 w.heap.size 31 [.int .i64 a.1, ve, vl, vs] := by rw [hw0]; exact rowA (Row.new w 31 _) _
  have xq : Row w0 (w.heap.size + 1) 35 [.int .i64 x.1, .int .i64 x.2.1, vo, vg] := by
    rw [hw0]
    have := Row.new (w.alloc (.cells #[.int .i64 a.1, ve, vl, vs] 31)) 35 [.int .i64 x.1, .int .i64 x.2.1, vo, vg]
    simpa using this
  have B0 : Below w.heap.size w w0 := by rw [hw0]; exact below_and (below_alloc _ _) (Nat.le_refl _) (below_alloc _ _)
  go_enter Try.func5, Try.ntmps5
  go_upto_region 1 with fail
  rw [← hw0]
  clear hw0
  go_upto_region 3 with (go_at_call 7; refine (sessionAlive_any w0).mono ?_; rintro e w1 ⟨rfl, hb1⟩)
  have B1 := below_and B0 le hb1
  have xa := xa.below hb1
  have xq := xq.below hb1
  clear hb1 B0
  obtain ⟨S, hSS⟩ : ∃ S, S = applyA a x := ⟨_, rfl⟩
  have H0 := (show Hid (∀ u, Below w1.heap.size w1 u → RApp Any u [.int .i64 a.1, ve, vl, vs] a) from fun u hu => hall.below (below_and B1 le hu))
  have H1 := (show Hid (∀ u, Below w1.heap.size w1 u → RReq Any u [.int .i64 x.1, .int .i64 x.2.1, vo, vg] x) from fun u hu => mov_req _ _ _ _ _ _ hxall (below_and B1 le hu).size (Mv.below (below_and B1 le hu)))
  have HC := (show Hid (∀ u, Below w1.heap.size w1 u → Calls Try.prog 10 #[.agg #[.int .i64 a.1, ve, vl, vs]] u fun e w' => ∃ ae ne ce al nl cl an nn cn, e = .returned (.agg #[.int .i64 a.1, .slice ae ne ce, .slice al nl cl, .slice an nn cn]) ∧ Hid (∀ z, Below w'.heap.size w' z → RApp Any z [.int .i64 a.1, .slice ae ne ce, .slice al nl cl, .slice an nn cn] a) ∧ Below u.heap.size u w' ∧ Below w1.heap.size w1 w') from fun u hu => (refCopyA_any u _ a (H0.out u hu) z0).mono fun e w' ⟨r', e1, e2, e3⟩ => by
    have e2' := mov_app _ _ _ _ _ _ e2 (Nat.le_refl _) Mv.any
    obtain ⟨ve', vl', vs', rfl, t1, t2, t3⟩ := e2
    obtain ⟨ae, ce, rfl, _⟩ := t1.form
    obtain ⟨al, cl, rfl, _⟩ := t2.form
    obtain ⟨an, cn, rfl, _⟩ := t3.form
    exact ⟨ae, _, ce, al, _, cl, an, _, cn, e1, fun z hz => e2'.below hz, e3, below_and hu (Nat.le_refl _) e3⟩)
  have HQ := (show Hid (∀ u, Below w1.heap.size w1 u → Calls Try.prog 11 #[.agg #[.int .i64 x.1, .int .i64 x.2.1, vo, vg]] u fun e w' => ∃ ao no co ag ng cg, e = .returned (.agg #[.int .i64 x.1, .int .i64 x.2.1, .slice ao no co, .slice ag ng cg]) ∧ Hid (∀ z, Below w'.heap.size w' z → RReq Any z [.int .i64 x.1, .int .i64 x.2.1, .slice ao no co, .slice ag ng cg] x) ∧ Below u.heap.size u w' ∧ Below w1.heap.size w1 w') from fun u hu => (copyReq_any u _ x (H1.out u hu) z1).mono fun e w' ⟨r', e1, e2, e3⟩ => by
    have e2' := mov_req _ _ _ _ _ _ e2 (Nat.le_refl _) Mv.any
    obtain ⟨vo', vg', rfl, t1, t2⟩ := e2
    obtain ⟨ao, co, rfl, _⟩ := t1.form
    obtain ⟨ag, cg, rfl, _⟩ := t2.form
    exact ⟨ao, _, co, ag, _, cg, e1, fun z hz => mov_req _ _ _ _ _ _ e2' hz.size (Mv.below hz), e3, below_and hu (Nat.le_refl _) e3⟩)
  have HP := (show Hid (∀ (u : World) (r3 r4 : List Value), Below w1.heap.size w1 u → RApp Any u r3 a → RReq Any u r4 x → Calls Try.prog 9 #[.agg r3.toArray, .agg r4.toArray] u fun e w' => ∃ ae ne ce al nl cl an nn cn ax nx cx, e = .returned (.tuple #[.agg #[.int .i64 S.1.1, .slice ae ne ce, .slice al nl cl, .slice an nn cn], .agg #[.int .i64 S.2.1.1, .slice ax nx cx], .bool S.2.2]) ∧ Hid (∀ z : World, w'.heap.size ≤ z.heap.size → (∀ j, u.heap.size ≤ j → j < w'.heap.size → z.heap[j]? = w'.heap[j]?) → RApp (Rng u.heap.size w'.heap.size) z [.int .i64 S.1.1, .slice ae ne ce, .slice al nl cl, .slice an nn cn] S.1 ∧ RT (Rng u.heap.size w'.heap.size) z (.slice ax nx cx) S.2.1.2) ∧ Below u.heap.size u w' ∧ Below w1.heap.size w1 w') from fun u r3 r4 hu g3 g4 => by
    rw [hSS]
    refine (apply_any u r3 a g3 z0 r4 x g4 z1).mono ?_
    rintro e w' ⟨row, vv, rfl, ⟨ve', vl', vs', rfl, t1, t2, t3⟩, t4, hb⟩
    obtain ⟨ae, ce, rfl, _⟩ := (Re.rl t1).form
    obtain ⟨al, cl, rfl, _⟩ := (Rz.rl t2).form
    obtain ⟨an, cn, rfl, _⟩ := (Rn.rl t3).form
    obtain ⟨ax, cx, rfl, _⟩ := t4.rt.form
    refine ⟨ae, _, ce, al, _, cl, an, _, cn, ax, _, cx, rfl, fun z hz hk => ⟨⟨_, _, _, rfl, (rl_rng ent_rng ((t1.rl mov_oent).ent)).mv mov_ent hz (fun j hj _ => ⟨hk j hj.1 hj.2, hj⟩), (rl_rng lea_rng ((t2.rl mov_olea).lea)).mv mov_lea hz (fun j hj _ => ⟨hk j hj.1 hj.2, hj⟩), (rl_rng ses_rng ((t3.rl mov_oses).ses)).mv mov_ses hz (fun j hj _ => ⟨hk j hj.1 hj.2, hj⟩)⟩, (rt_rng t4.rt).mv (fun j hj _ => ⟨hk j hj.1 hj.2, hj⟩)⟩, hb, below_and hu (Nat.le_refl _) hb⟩)
  have HSS := (show Hid (S = applyA a x) from hSS)
  clear hSS
  have SK := (show Hid (∀ u, Below w1.heap.size w1 u → u.cell? ⟨w.heap.size, 0, none⟩ = some (.int .i64 a.1) ∧ u.cell? ⟨w.heap.size, 1, none⟩ = some (ve) ∧ u.cell? ⟨w.heap.size, 2, none⟩ = some (vl) ∧ u.cell? ⟨w.heap.size, 3, none⟩ = some (vs) ∧ u.cell? ⟨w.heap.size + 1, 0, none⟩ = some (.int .i64 x.1) ∧ u.cell? ⟨w.heap.size + 1, 1, none⟩ = some (.int .i64 x.2.1) ∧ u.cell? ⟨w.heap.size + 1, 2, none⟩ = some (vo) ∧ u.cell? ⟨w.heap.size + 1, 3, none⟩ = some (vg)) from fun u hu => ⟨(xa.below hu).cell (j := 0) rfl, (xa.below hu).cell (j := 1) rfl, (xa.below hu).cell (j := 2) rfl, (xa.below hu).cell (j := 3) rfl, (xq.below hu).cell (j := 0) rfl, (xq.below hu).cell (j := 1) rfl, (xq.below hu).cell (j := 2) rfl, (xq.below hu).cell (j := 3) rfl⟩)
  have hdw : Below w1.heap.size w1 w1.drew := ⟨rfl, rfl, rfl, Nat.le_refl _, fun _ _ => rfl⟩
  have hdA : Below w1.heap.size w1 (w1.alloc (.cells ([.int .i64 0, .slice none 0 0, .slice none 0 0, .slice none 0 0] : List Value).toArray 31)).drew := (below_alloc _ _).drew
  have hdB : Below w1.heap.size w1 (w1.alloc (.cells ([.int .i64 0, .slice none 0 0] : List Value).toArray 24)).drew := (below_alloc _ _).drew
  have hdAB : Below w1.heap.size w1 ((w1.alloc (.cells ([.int .i64 0, .slice none 0 0, .slice none 0 0, .slice none 0 0] : List Value).toArray 31)).alloc (.cells ([.int .i64 0, .slice none 0 0] : List Value).toArray 24)).drew := (below_and (below_alloc _ _) (Nat.le_refl _) (below_alloc _ _)).drew
  have hdBA : Below w1.heap.size w1 ((w1.alloc (.cells ([.int .i64 0, .slice none 0 0] : List Value).toArray 24)).alloc (.cells ([.int .i64 0, .slice none 0 0, .slice none 0 0, .slice none 0 0] : List Value).toArray 31)).drew := (below_and (below_alloc _ _) (Nat.le_refl _) (below_alloc _ _)).drew
  try go_simp
  go_cut [5, 6, 7] from 13 (fun sA sB sC wx => ∃ (bA bB : Nat) (rb : List Value) (vv : Value), sA = .pointer (some ⟨bA, 0, none⟩) ∧ sB = .pointer (some ⟨bB, 0, none⟩) ∧ sC = .bool S.2.2 ∧ Row wx bA 31 rb ∧ Row wx bB 24 [.int .i64 S.2.1.1, vv] ∧ RApp (fun k => k ≠ bA) wx rb S.1 ∧ RT (fun k => k ≠ bA) wx vv S.2.1.2 ∧ w1.heap.size ≤ bA ∧ w1.heap.size ≤ bB ∧ Below w1.heap.size w1 wx)
  case first =>
    go_wp2_with fail
    go_region_held3 (fun u => u.cell? ⟨w.heap.size, 0, none⟩ = some (.int .i64 a.1) ∧ u.cell? ⟨w.heap.size, 1, none⟩ = some (ve) ∧ u.cell? ⟨w.heap.size, 2, none⟩ = some (vl) ∧ u.cell? ⟨w.heap.size, 3, none⟩ = some (vs) ∧ u.cell? ⟨w.heap.size + 1, 0, none⟩ = some (.int .i64 x.1) ∧ u.cell? ⟨w.heap.size + 1, 1, none⟩ = some (.int .i64 x.2.1) ∧ u.cell? ⟨w.heap.size + 1, 2, none⟩ = some (vo) ∧ u.cell? ⟨w.heap.size + 1, 3, none⟩ = some (vg))
      (first | (with_reducible exact SK.out w5 hB5) | (with_reducible exact SK.out w4 hB4) | (with_reducible exact SK.out w3 hB3) | (with_reducible exact SK.out (w5.alloc _) (bel_al hB5)) | (with_reducible exact SK.out ((w5.alloc _).alloc _) (bel_al (bel_al hB5))) | (with_reducible exact SK.out (w4.alloc _) (bel_al hB4)) | (with_reducible exact SK.out ((w4.alloc _).alloc _) (bel_al (bel_al hB4))) | (with_reducible exact SK.out (w3.alloc _) (bel_al hB3)) | (with_reducible exact SK.out ((w3.alloc _).alloc _) (bel_al (bel_al hB3))) | (with_reducible exact SK.out ((((w5.setCell _ _).setCell _ _).setCell _ _).setCell _ _) (bel_st (bel_st (bel_st (bel_st hB5 (by omega)) (by omega)) (by omega)) (by omega))) | (with_reducible exact SK.out (((((w5.alloc _).setCell _ _).setCell _ _).setCell _ _).setCell _ _) (bel_st (bel_st (bel_st (bel_st (bel_al hB5) (by omega)) (by omega)) (by omega)) (by omega))) | (with_reducible exact SK.out ((((((w5.setCell _ _).setCell _ _).setCell _ _).setCell _ _).setCell _ _).setCell _ _) (bel_st (bel_st (bel_st (bel_st (bel_st (bel_st hB5 (by omega)) (by omega)) (by omega)) (by omega)) (by omega)) (by omega))) | (with_reducible exact SK.out (((((((w5.alloc _).setCell _ _).setCell _ _).setCell _ _).setCell _ _).setCell _ _).setCell _ _) (bel_st (bel_st (bel_st (bel_st (bel_st (bel_st (bel_al hB5) (by omega)) (by omega)) (by omega)) (by omega)) (by omega)) (by omega))) | (with_reducible exact SK.out (((((w5.setCell _ _).setCell _ _).setCell _ _).setCell _ _).alloc _) (bel_al (bel_st (bel_st (bel_st (bel_st hB5 (by omega)) (by omega)) (by omega)) (by omega)))) | (with_reducible exact SK.out ((w5.setCell _ _).setCell _ _) (bel_st (bel_st hB5 (by omega)) (by omega))) | (with_reducible exact SK.out (((w5.alloc _).setCell _ _).setCell _ _) (bel_st (bel_st (bel_al hB5) (by omega)) (by omega))) | (with_reducible exact SK.out (((w5.setCell _ _).setCell _ _).alloc _) (bel_al (bel_st (bel_st hB5 (by omega)) (by omega)))) | (with_reducible exact SK.out ((((((w5.setCell _ _).setCell _ _).setCell _ _).setCell _ _).setCell _ _).setCell _ _) (bel_st (bel_st (bel_st (bel_st (bel_st (bel_st hB5 (by omega)) (by omega)) (by omega)) (by omega)) (by omega)) (by omega))) | (with_reducible exact SK.out (((((((w5.setCell _ _).setCell _ _).alloc _).setCell _ _).setCell _ _).setCell _ _).setCell _ _) (bel_st (bel_st (bel_st (bel_st (bel_al (bel_st (bel_st hB5 (by omega)) (by omega))) (by omega)) (by omega)) (by omega)) (by omega))) | (with_reducible exact SK.out w1.drew hdw) | (with_reducible exact SK.out (w1.alloc _).drew hdA) | (with_reducible exact SK.out (w1.alloc _).drew hdB) | (with_reducible exact SK.out ((w1.alloc _).alloc _).drew hdAB) | (with_reducible exact SK.out ((w1.alloc _).alloc _).drew hdBA) | go_keep)
      (first
        | (go_at_call 9; refine (HP.out _ _ _ (by repeat (first | (with_reducible exact hB5) | (with_reducible exact hB4) | (with_reducible exact hB3) | (with_reducible exact Below.refl _ _) | (with_reducible exact hdw) | (with_reducible exact hdA) | (with_reducible exact hdB) | (with_reducible exact hdAB) | (with_reducible exact hdBA) | (with_reducible refine bel_al ?_) | (with_reducible refine bel_ch ?_ hb5) | (with_reducible refine bel_ch ?_ hb4) | (with_reducible refine bel_ch ?_ hb3) | (with_reducible refine bel_st ?_ ?_) | omega)) (rc.out _ (by repeat (first | (with_reducible exact hB5) | (with_reducible exact hB4) | (with_reducible exact hB3) | (with_reducible exact Below.refl _ _) | (with_reducible exact hdw) | (with_reducible exact hdA) | (with_reducible exact hdB) | (with_reducible exact hdAB) | (with_reducible exact hdBA) | (with_reducible refine bel_al ?_) | (with_reducible refine bel_ch ?_ hb5) | (with_reducible refine bel_ch ?_ hb4) | (with_reducible refine bel_ch ?_ hb3) | (with_reducible refine bel_st ?_ ?_) | omega))) (rd.out _ (by repeat (first | (with_reducible exact hB5) | (with_reducible exact hB4) | (with_reducible exact hB3) | (with_reducible exact Below.refl _ _) | (with_reducible exact hdw) | (with_reducible exact hdA) | (with_reducible exact hdB) | (with_reducible exact hdAB) | (with_reducible exact hdBA) | (with_reducible refine bel_al ?_) | (with_reducible refine bel_ch ?_ hb5) | (with_reducible refine bel_ch ?_ hb4) | (with_reducible refine bel_ch ?_ hb3) | (with_reducible refine bel_st ?_ ?_) | omega)))).mono ?_; rintro e w5 ⟨ae, ne, ce, al, nl, cl, an, nn, cn, ax, nx, cx, rfl, rp, hb5, hB5⟩; (first | (with_reducible have qA := (Row.new _ 31 [.int .i64 0, .slice none 0 0, .slice none 0 0, .slice none 0 0]).below hb5) | (with_reducible have qA := (rowA (Row.new _ 31 [.int .i64 0, .slice none 0 0, .slice none 0 0, .slice none 0 0]) (.cells ([.int .i64 0, .slice none 0 0] : List Value).toArray 24)).below hb5) | (with_reducible have qA := (Row.new _ 31 [.int .i64 0, .slice none 0 0, .slice none 0 0, .slice none 0 0]).drew.below hb5) | (with_reducible have qA := (rowA (Row.new _ 31 [.int .i64 0, .slice none 0 0, .slice none 0 0, .slice none 0 0]) (.cells ([.int .i64 0, .slice none 0 0] : List Value).toArray 24)).drew.below hb5) | (with_reducible have qA := qA.below hb5) | (with_reducible have qA := (qA.below (below_alloc _ _)).below hb5) | skip); (first | (with_reducible rw [alloc_size] at qA) | skip); (first | (with_reducible rw [drew_size] at qA) | skip); (first | (with_reducible have qB := (Row.new _ 24 [.int .i64 0, .slice none 0 0]).below hb5) | (with_reducible have qB := (rowA (Row.new _ 24 [.int .i64 0, .slice none 0 0]) (.cells ([.int .i64 0, .slice none 0 0, .slice none 0 0, .slice none 0 0] : List Value).toArray 31)).below hb5) | (with_reducible have qB := (Row.new _ 24 [.int .i64 0, .slice none 0 0]).drew.below hb5) | (with_reducible have qB := (rowA (Row.new _ 24 [.int .i64 0, .slice none 0 0]) (.cells ([.int .i64 0, .slice none 0 0, .slice none 0 0, .slice none 0 0] : List Value).toArray 31)).drew.below hb5) | (with_reducible have qB := qB.below hb5) | (with_reducible have qB := (qB.below (below_alloc _ _)).below hb5) | skip); (first | (with_reducible rw [alloc_size] at qB) | skip); (first | (with_reducible rw [drew_size] at qB) | skip); (first | (have qa0 := qA.cell (j := 0) rfl; have qa1 := qA.cell (j := 1) rfl; have qa2 := qA.cell (j := 2) rfl; have qa3 := qA.cell (j := 3) rfl; have pa0 := qA.frozen 0; have pa1 := qA.frozen 1; have pa2 := qA.frozen 2; have pa3 := qA.frozen 3) | skip); (first | (have qb0 := qB.cell (j := 0) rfl; have qb1 := qB.cell (j := 1) rfl; have pb0 := qB.frozen 0; have pb1 := qB.frozen 1) | skip); have hB5s := hB5.size; (first | (have nA := Nat.ne_of_lt qA.lt; have QA := qA.below (below_alloc w5 (.cells ([.int .i64 0, .slice none 0 0] : List Value).toArray 24)); have ra0 := QA.cell (j := 0) rfl; have ra1 := QA.cell (j := 1) rfl; have ra2 := QA.cell (j := 2) rfl; have ra3 := QA.cell (j := 3) rfl; have ua0 := QA.frozen 0; have ua1 := QA.frozen 1; have ua2 := QA.frozen 2; have ua3 := QA.frozen 3) | skip); (first | (have nB := Nat.ne_of_lt qB.lt; have QB := qB.below (below_alloc w5 (.cells ([.int .i64 0, .slice none 0 0, .slice none 0 0, .slice none 0 0] : List Value).toArray 31)); have rb0 := QB.cell (j := 0) rfl; have rb1 := QB.cell (j := 1) rfl; have ub0 := QB.frozen 0; have ub1 := QB.frozen 1) | skip); (first | (have nAB := Row.apart qA qB (by decide); have nBA := Ne.symm nAB; have QC := qB.grown (g4 (v0 := .int .i64 S.1.1) (v1 := .slice ae ne ce) (v2 := .slice al nl cl) (v3 := .slice an nn cn) w5 _) (ne_of nAB); have rc0 := QC.cell (j := 0) rfl; have rc1 := QC.cell (j := 1) rfl; have uc0 := QC.frozen 0; have uc1 := QC.frozen 1) | skip); (first | (have QD := qB.below (below_alloc w5 (.cells ([.int .i64 S.1.1, .slice ae ne ce, .slice al nl cl, .slice an nn cn] : List Value).toArray 31)); have rd0 := QD.cell (j := 0) rfl; have rd1 := QD.cell (j := 1) rfl; have ud0 := QD.frozen 0; have ud1 := QD.frozen 1) | skip))
        | (go_at_call 11; refine (HQ.out _ (by repeat (first | (with_reducible exact hB5) | (with_reducible exact hB4) | (with_reducible exact hB3) | (with_reducible exact Below.refl _ _) | (with_reducible exact hdw) | (with_reducible exact hdA) | (with_reducible exact hdB) | (with_reducible exact hdAB) | (with_reducible exact hdBA) | (with_reducible refine bel_al ?_) | (with_reducible refine bel_ch ?_ hb5) | (with_reducible refine bel_ch ?_ hb4) | (with_reducible refine bel_ch ?_ hb3) | (with_reducible refine bel_st ?_ ?_) | omega))).mono ?_; rintro e w4 ⟨ao4, no4, co4, ag4, ng4, cg4, rfl, rd, hb4, hB4⟩; (first | (with_reducible have qA := (Row.new _ 31 [.int .i64 0, .slice none 0 0, .slice none 0 0, .slice none 0 0]).below hb4) | (with_reducible have qA := (rowA (Row.new _ 31 [.int .i64 0, .slice none 0 0, .slice none 0 0, .slice none 0 0]) (.cells ([.int .i64 0, .slice none 0 0] : List Value).toArray 24)).below hb4) | (with_reducible have qA := (Row.new _ 31 [.int .i64 0, .slice none 0 0, .slice none 0 0, .slice none 0 0]).drew.below hb4) | (with_reducible have qA := (rowA (Row.new _ 31 [.int .i64 0, .slice none 0 0, .slice none 0 0, .slice none 0 0]) (.cells ([.int .i64 0, .slice none 0 0] : List Value).toArray 24)).drew.below hb4) | (with_reducible have qA := qA.below hb4) | (with_reducible have qA := (qA.below (below_alloc _ _)).below hb4) | skip); (first | (with_reducible rw [alloc_size] at qA) | skip); (first | (with_reducible rw [drew_size] at qA) | skip); (first | (with_reducible have qB := (Row.new _ 24 [.int .i64 0, .slice none 0 0]).below hb4) | (with_reducible have qB := (rowA (Row.new _ 24 [.int .i64 0, .slice none 0 0]) (.cells ([.int .i64 0, .slice none 0 0, .slice none 0 0, .slice none 0 0] : List Value).toArray 31)).below hb4) | (with_reducible have qB := (Row.new _ 24 [.int .i64 0, .slice none 0 0]).drew.below hb4) | (with_reducible have qB := (rowA (Row.new _ 24 [.int .i64 0, .slice none 0 0]) (.cells ([.int .i64 0, .slice none 0 0, .slice none 0 0, .slice none 0 0] : List Value).toArray 31)).drew.below hb4) | (with_reducible have qB := qB.below hb4) | (with_reducible have qB := (qB.below (below_alloc _ _)).below hb4) | skip); (first | (with_reducible rw [alloc_size] at qB) | skip); (first | (with_reducible rw [drew_size] at qB) | skip); have hB4s := hB4.size)
        | (go_at_call 10; refine (HC.out _ (by repeat (first | (with_reducible exact hB5) | (with_reducible exact hB4) | (with_reducible exact hB3) | (with_reducible exact Below.refl _ _) | (with_reducible exact hdw) | (with_reducible exact hdA) | (with_reducible exact hdB) | (with_reducible exact hdAB) | (with_reducible exact hdBA) | (with_reducible refine bel_al ?_) | (with_reducible refine bel_ch ?_ hb5) | (with_reducible refine bel_ch ?_ hb4) | (with_reducible refine bel_ch ?_ hb3) | (with_reducible refine bel_st ?_ ?_) | omega))).mono ?_; rintro e w3 ⟨ae3, ne3, ce3, al3, nl3, cl3, an3, nn3, cn3, rfl, rc, hb3, hB3⟩; (first | (with_reducible have qA := (Row.new _ 31 [.int .i64 0, .slice none 0 0, .slice none 0 0, .slice none 0 0]).below hb3) | (with_reducible have qA := (rowA (Row.new _ 31 [.int .i64 0, .slice none 0 0, .slice none 0 0, .slice none 0 0]) (.cells ([.int .i64 0, .slice none 0 0] : List Value).toArray 24)).below hb3) | (with_reducible have qA := (Row.new _ 31 [.int .i64 0, .slice none 0 0, .slice none 0 0, .slice none 0 0]).drew.below hb3) | (with_reducible have qA := (rowA (Row.new _ 31 [.int .i64 0, .slice none 0 0, .slice none 0 0, .slice none 0 0]) (.cells ([.int .i64 0, .slice none 0 0] : List Value).toArray 24)).drew.below hb3) | (with_reducible have qA := qA.below hb3) | (with_reducible have qA := (qA.below (below_alloc _ _)).below hb3) | skip); (first | (with_reducible rw [alloc_size] at qA) | skip); (first | (with_reducible rw [drew_size] at qA) | skip); (first | (with_reducible have qB := (Row.new _ 24 [.int .i64 0, .slice none 0 0]).below hb3) | (with_reducible have qB := (rowA (Row.new _ 24 [.int .i64 0, .slice none 0 0]) (.cells ([.int .i64 0, .slice none 0 0, .slice none 0 0, .slice none 0 0] : List Value).toArray 31)).below hb3) | (with_reducible have qB := (Row.new _ 24 [.int .i64 0, .slice none 0 0]).drew.below hb3) | (with_reducible have qB := (rowA (Row.new _ 24 [.int .i64 0, .slice none 0 0]) (.cells ([.int .i64 0, .slice none 0 0, .slice none 0 0, .slice none 0 0] : List Value).toArray 31)).drew.below hb3) | (with_reducible have qB := qB.below hb3) | (with_reducible have qB := (qB.below (below_alloc _ _)).below hb3) | skip); (first | (with_reducible rw [alloc_size] at qB) | skip); (first | (with_reducible rw [drew_size] at qB) | skip); have hB3s := hB3.size))
    all_goals (
      first
        | (obtain ⟨Z, hZ, F⟩ := fin_bb (v0 := .int .i64 S.1.1) (v1 := .slice ae ne ce) (v2 := .slice al nl cl) (v3 := .slice an nn cn) (c := .int .i64 S.2.1.1) (v := .slice ax nx cx) rfl rfl qA qB; rw [← hZ]; clear hZ)
        | (obtain ⟨Z, hZ, F⟩ := fin_bn (y0 := .int .i64 0) (y1 := .slice none 0 0) (v0 := .int .i64 S.1.1) (v1 := .slice ae ne ce) (v2 := .slice al nl cl) (v3 := .slice an nn cn) (c := .int .i64 S.2.1.1) (v := .slice ax nx cx) rfl qA; rw [← hZ]; clear hZ)
        | (obtain ⟨Z, hZ, F⟩ := fin_nb (v0 := .int .i64 S.1.1) (v1 := .slice ae ne ce) (v2 := .slice al nl cl) (v3 := .slice an nn cn) (c := .int .i64 S.2.1.1) (v := .slice ax nx cx) rfl qB; rw [← hZ]; clear hZ)
        | (obtain ⟨Z, hZ, F⟩ := fin_nn (w5 := w5) (v0 := .int .i64 S.1.1) (v1 := .slice ae ne ce) (v2 := .slice al nl cl) (v3 := .slice an nn cn) (c := .int .i64 S.2.1.1) (v := .slice ax nx cx); rw [← hZ]; clear hZ)
        | (obtain ⟨Z, hZ, F⟩ := fin_nn' (w5 := w5) (v0 := .int .i64 S.1.1) (v1 := .slice ae ne ce) (v2 := .slice al nl cl) (v3 := .slice an nn cn) (c := .int .i64 S.2.1.1) (v := .slice ax nx cx); rw [← hZ]; clear hZ)
      have y3 := hb3.size
      have y4 := hb4.size
      have y5 := hb5.size
      try simp at y3
      try simp at y4
      try simp at y5
      have RF := rp.out Z F.size (fun j h1 h2 => F.block j h2 (by (try simp at h1); omega) (by (try simp at h1); omega))
      have hbZ := F.bel hB5 (Nat.le_refl _) (by omega) (by omega)
      have R1 := F.ra RF.1 (by (try simp only [alloc_size, drew_size]); omega)
      have R2 := F.rt RF.2 (by (try simp only [alloc_size, drew_size]); omega)
      go_wp2_with fail
      go_meet
      case rel => exact ⟨_, _, _, _, rfl, rfl, rfl, F.a, F.b, R1, R2, by omega, by omega, hbZ⟩)
  case rest =>
    clear HC HQ HP SK hdw hdA hdB hdAB hdBA H0 H1
    obtain ⟨bA, bB, rb, vv, rfl, rfl, rfl, yA, yB, rS, rV, lA, lB, hbc⟩ := hcut
    have Bc := below_and B1 le hbc
    have xac := xa.below hbc
    have xqc := xq.below hbc
    have hac := hall.below Bc
    have hwf := hall.wf
    have rS := mov_app _ _ _ _ _ _ rS (Nat.le_refl _) Mv.any
    have rS' := rS
    obtain ⟨ve', vl', vs', rfl, _, _, _⟩ := rS'
    have hR := rightA_any wc _ a hac
    have HSame := (show Hid (∀ u, Below wc.heap.size wc u → S.1 = a → Calls Try.prog 13 #[.agg #[.int .i64 a.1, ve, vl, vs], .agg #[.int .i64 S.1.1, ve', vl', vs']] u fun e w' => e = .returned (.bool true) ∧ Below u.heap.size u w') from fun u hu e => by
      have := sameA_eq u _ _ a (hac.below hu) (by rw [← e]; exact rS.below hu)
      exact this)
    have c0 := xac.cell (j := 0) rfl
    by_cases hgo : goA a
    rotate_left
    · have hS : S = (a, (5, []), false) := by rw [HSS.out]; unfold applyA; rw [if_neg hgo]
      have HS1 := (show Hid (S.1 = a) by show _ = _; rw [hS])
      have hS2 : S.2.2 = false := by rw [hS]
      rw [hS2]
      clear hS hS2 HSS
      by_cases hr : rgtA a
      · rw [decide_eq_true hr] at hR
        have hm : (a.1 == 1000000) = true := by
          have h1 := hr.1.2
          have h2 : ¬ a.1 < 1000000 := fun h => hgo ⟨hr, h⟩
          simp
          omega
        clear hgo hr
        go_wp2_with (first
          | (refine wl_load rfl _ _ rfl w.heap.size rfl _ _ xac _ Try.underlying31 rfl (by kernel_rfl) ?_)
          | (go_at_call 8; refine hR.mono ?_; rintro e w7 ⟨rfl, hb7⟩; have xa7 := xac.below hb7; have yA7 := yA.below hb7; have c0 := xa7.cell (j := 0) rfl)
          | (refine wl_load_w (by rfl) _ _ rfl w.heap.size rfl _ _ xa7 _ Try.underlying31 rfl (by kernel_rfl) ?_)
          | (refine wl_load_w (by rfl) _ _ rfl bA rfl _ _ yA7 _ Try.underlying31 rfl (by kernel_rfl) ?_)
          | (go_at_call 13; refine (HSame.out w7 hb7 HS1.out).mono ?_; rintro e w8 ⟨rfl, hb8⟩))
        go_ret
        exact ⟨rfl, below_and (below_and Bc le hb7) le hb8⟩
      · rw [decide_eq_false hr] at hR
        clear hgo hr
        go_wp2_with (first
          | (refine wl_load rfl _ _ rfl w.heap.size rfl _ _ xac _ Try.underlying31 rfl (by kernel_rfl) ?_)
          | (go_at_call 8; refine hR.mono ?_; rintro e w7 ⟨rfl, hb7⟩; have xa7 := xac.below hb7; have yA7 := yA.below hb7)
          | (refine wl_load_w (by rfl) _ _ rfl w.heap.size rfl _ _ xa7 _ Try.underlying31 rfl (by kernel_rfl) ?_)
          | (refine wl_load_w (by rfl) _ _ rfl bA rfl _ _ yA7 _ Try.underlying31 rfl (by kernel_rfl) ?_)
          | (go_at_call 13; refine (HSame.out w7 hb7 HS1.out).mono ?_; rintro e w8 ⟨rfl, hb8⟩))
        go_ret
        exact ⟨rfl, below_and (below_and Bc le hb7) le hb8⟩
    have hSs : S = stepA a x := by rw [HSS.out]; unfold applyA; rw [if_pos hgo]
    have hSr : rgtA S.1 := by rw [hSs]; exact stepA_rgt hwf hgo
    have hS1 : S.1.1 = a.1 + 1 := by rw [hSs]; exact stepA_slot
    rw [decide_eq_true hgo.1] at hR
    have hm : (a.1 == 1000000) = false := by
      have := hgo.2
      simp
      omega
    have hR2 := rightA_any wc _ S.1 rS
    rw [decide_eq_true hSr] at hR2
    have HR2 := (show Hid (∀ u, Below wc.heap.size wc u → Calls Try.prog 8 #[.agg #[.int .i64 S.1.1, ve', vl', vs']] u fun e w' => e = .returned (.bool true) ∧ Below u.heap.size u w') from fun u hu => by
      have := rightA_any u _ S.1 (rS.below hu)
      rw [decide_eq_true hSr] at this
      exact this)
    have HK := (show Hid (∀ c : Int, ¬ (lasN S.1.2.2.2 c).1 < (lasN a.2.2.2 c).1 ∧ decide ((lasN S.1.2.2.2 c).1 ≠ (lasN a.2.2.2 c).1) = (S.2.2 && decide (c = x.1))) from fun c => by rw [HSS.out]; exact las_keeps hwf hgo c)
    have HLA := (show Hid (∀ (u : World) (c : Int), Below wc.heap.size wc u → Calls Try.prog 6 #[.agg #[.int .i64 a.1, ve, vl, vs], .int .i64 c] u (Rl u (lasN a.2.2.2 c))) from fun u c hu => last_any u _ a (hac.below hu) z0.2.2 c)
    have HLB := (show Hid (∀ (u : World) (c : Int), Below wc.heap.size wc u → Calls Try.prog 6 #[.agg #[.int .i64 S.1.1, ve', vl', vs'], .int .i64 c] u (Rl u (lasN S.1.2.2.2 c))) from fun u c hu => last_any u _ S.1 (rS.below hu) (rgt_sz hSr).2.2 c)
    have ha1 : 0 ≤ a.1 := hgo.1.1.1
    have ha2 : a.1 < 1000000 := hgo.2
    have hne : (S.1.1 != a.1 + 1) = false := by rw [hS1]; simp
    clear hgo hSs hSr HSame hR2 hac rS hwf hS1
    go_upto_region 6 with (first
      | (refine wl_load rfl _ _ rfl w.heap.size rfl _ _ xac _ Try.underlying31 rfl (by kernel_rfl) ?_)
      | (go_at_call 8; refine hR.mono ?_; rintro e w7 ⟨rfl, hb7⟩; have xa7 := xac.below hb7; have yA7 := yA.below hb7; have c0 := xa7.cell (j := 0) rfl))
    have hR3 := HR2.out w7 hb7
    clear HR2 hR
    go_upto_region 8 with (first
      | (refine wl_load rfl _ _ rfl bA rfl _ _ yA7 _ Try.underlying31 rfl (by kernel_rfl) ?_)
      | (go_at_call 8; refine hR3.mono ?_; rintro e w8 ⟨rfl, hb8⟩; have xa8 := xa7.below hb8; have yA8 := yA7.below hb8; have e0 := xa8.cell (j := 0) rfl; have e1 := yA8.cell (j := 0) rfl))
    have hc8 := below_and hb7 (Nat.le_refl _) hb8
    have B8 := below_and Bc le hc8
    have xq8 := xqc.below hc8
    clear xa7 yA7 c0 e0 e1 hR3 xac xqc hb7 hb8
    generalize S.2.2 = dn at *
    cases dn with
    | false =>
      go_wp2_with fail
      go_loopw [8] (fun c wr => ∃ q : Nat, 1 ≤ q ∧ q ≤ 5 ∧ c = .int .i64 q ∧ Below w8.heap.size w8 wr) (fun c _ => 5 - (intOf c).toNat)
      case atStart => exact ⟨1, by omega, by omega, rfl, Below.refl _ _⟩
      case round =>
        obtain ⟨q, hq1, hq5, rfl, hBr⟩ := hrel
        by_cases hql : q ≤ 4
        · have hqd : decide ((q : Int) ≤ 4) = true := by simp; omega
          have hcr := below_and hc8 (Nat.le_refl _) hBr
          have xar := xa8.below hBr
          have hA := HLA.out wr (q : Int) hcr
          have HB := (show Hid (∀ u, Below wr.heap.size wr u → Calls Try.prog 6 #[.agg #[.int .i64 S.1.1, ve', vl', vs'], .int .i64 (q : Int)] u (Rl u (lasN S.1.2.2.2 q))) from fun u hu => HLB.out u q (below_and hcr (Nat.le_refl _) hu))
          have hk := HK.out (q : Int)
          generalize lasN a.2.2.2 q = LA at *
          generalize lasN S.1.2.2.2 q = LB at *
          obtain ⟨hk1, hk2⟩ := hk
          have hl : decide (LB.1 < LA.1) = false := by simp; omega
          have hb : (LB.1 != LA.1) = (false && ((q : Int) == x.1)) := by
            rw [← show decide (LB.1 ≠ LA.1) = (LB.1 != LA.1) by by_cases h : LB.1 = LA.1 <;> simp [h], hk2]
            by_cases h : (q : Int) = x.1 <;> simp [h]
          clear hk1 hk2
          go_upto_region 12 with (first
            | (refine wl_load rfl _ _ rfl w.heap.size rfl _ _ xar _ Try.underlying31 rfl (by kernel_rfl) ?_)
            | (go_at_call 6; refine hA.mono ?_; rintro e w9 ⟨vv9, rfl, t9, hb9⟩; have n9 := Row.new w9 24 [.int .i64 0, .slice none 0 0])
            | (refine wl_store rfl _ _ _ rfl w9.heap.size [.int .i64 LA.2.1, vv9] rfl rfl _ _ n9 rfl (by kernel_rfl) (one_res t9.one) ?_; intro w10 hr10 hg10))
          have b910 : Below w9.heap.size w9 w10 := (below_alloc w9 _).trans (grown_below hg10 (by simp) (fun k hk => by cases hk; exact Nat.le_refl _))
          have br10 := below_and hb9 (Nat.le_refl _) b910
          have yA10 := (yA8.below hBr).below br10
          have hB2 := HB.out w10 br10
          clear hA HB
          go_upto_region 13 with (first
            | (refine wl_load rfl _ _ rfl bA rfl _ _ yA10 _ Try.underlying31 rfl (by kernel_rfl) ?_)
            | (go_at_call 6; refine hB2.mono ?_; rintro e w11 ⟨vv11, rfl, t11, hb11⟩; have n11 := Row.new w11 24 [.int .i64 0, .slice none 0 0])
            | (refine wl_store rfl _ _ _ rfl w11.heap.size [.int .i64 LB.2.1, vv11] rfl rfl _ _ n11 rfl (by kernel_rfl) (one_res t11.one) ?_; intro w12 hr12 hg12))
          have b1112 : Below w11.heap.size w11 w12 := (below_alloc w11 _).trans (grown_below hg12 (by simp) (fun k hk => by cases hk; exact Nat.le_refl _))
          have br12 := below_and br10 (Nat.le_refl _) (below_and hb11 (Nat.le_refl _) b1112)
          have e0 := ((xq8.below hBr).below br12).cell (j := 0) rfl
          clear hr10 hg10 n9 hr12 hg12 n11 t9 t11 hB2 yA10 xar
          rw [Bool.false_and] at hb
          go_wp2_with fail
          go_roundw
          case rel => exact ⟨q + 1, by omega, by omega, by go_num, below_and hBr (Nat.le_refl _) br12⟩
          case measure => simp [intOf]; omega
        · have hqd : decide ((q : Int) ≤ 4) = false := by simp; omega
          go_wp2_with fail
          go_ret
          exact ⟨rfl, below_and B8 le hBr⟩
    | true =>
      go_wp2_with fail
      go_loopw [8] (fun c wr => ∃ q : Nat, 1 ≤ q ∧ q ≤ 5 ∧ c = .int .i64 q ∧ Below w8.heap.size w8 wr) (fun c _ => 5 - (intOf c).toNat)
      case atStart => exact ⟨1, by omega, by omega, rfl, Below.refl _ _⟩
      case round =>
        obtain ⟨q, hq1, hq5, rfl, hBr⟩ := hrel
        by_cases hql : q ≤ 4
        · have hqd : decide ((q : Int) ≤ 4) = true := by simp; omega
          have hcr := below_and hc8 (Nat.le_refl _) hBr
          have xar := xa8.below hBr
          have hA := HLA.out wr (q : Int) hcr
          have HB := (show Hid (∀ u, Below wr.heap.size wr u → Calls Try.prog 6 #[.agg #[.int .i64 S.1.1, ve', vl', vs'], .int .i64 (q : Int)] u (Rl u (lasN S.1.2.2.2 q))) from fun u hu => HLB.out u q (below_and hcr (Nat.le_refl _) hu))
          have hk := HK.out (q : Int)
          generalize lasN a.2.2.2 q = LA at *
          generalize lasN S.1.2.2.2 q = LB at *
          obtain ⟨hk1, hk2⟩ := hk
          have hl : decide (LB.1 < LA.1) = false := by simp; omega
          have hb : (LB.1 != LA.1) = (true && ((q : Int) == x.1)) := by
            rw [← show decide (LB.1 ≠ LA.1) = (LB.1 != LA.1) by by_cases h : LB.1 = LA.1 <;> simp [h], hk2]
            by_cases h : (q : Int) = x.1 <;> simp [h]
          clear hk1 hk2
          go_upto_region 12 with (first
            | (refine wl_load rfl _ _ rfl w.heap.size rfl _ _ xar _ Try.underlying31 rfl (by kernel_rfl) ?_)
            | (go_at_call 6; refine hA.mono ?_; rintro e w9 ⟨vv9, rfl, t9, hb9⟩; have n9 := Row.new w9 24 [.int .i64 0, .slice none 0 0])
            | (refine wl_store rfl _ _ _ rfl w9.heap.size [.int .i64 LA.2.1, vv9] rfl rfl _ _ n9 rfl (by kernel_rfl) (one_res t9.one) ?_; intro w10 hr10 hg10))
          have b910 : Below w9.heap.size w9 w10 := (below_alloc w9 _).trans (grown_below hg10 (by simp) (fun k hk => by cases hk; exact Nat.le_refl _))
          have br10 := below_and hb9 (Nat.le_refl _) b910
          have yA10 := (yA8.below hBr).below br10
          have hB2 := HB.out w10 br10
          clear hA HB
          go_upto_region 13 with (first
            | (refine wl_load rfl _ _ rfl bA rfl _ _ yA10 _ Try.underlying31 rfl (by kernel_rfl) ?_)
            | (go_at_call 6; refine hB2.mono ?_; rintro e w11 ⟨vv11, rfl, t11, hb11⟩; have n11 := Row.new w11 24 [.int .i64 0, .slice none 0 0])
            | (refine wl_store rfl _ _ _ rfl w11.heap.size [.int .i64 LB.2.1, vv11] rfl rfl _ _ n11 rfl (by kernel_rfl) (one_res t11.one) ?_; intro w12 hr12 hg12))
          have b1112 : Below w11.heap.size w11 w12 := (below_alloc w11 _).trans (grown_below hg12 (by simp) (fun k hk => by cases hk; exact Nat.le_refl _))
          have br12 := below_and br10 (Nat.le_refl _) (below_and hb11 (Nat.le_refl _) b1112)
          have e0 := ((xq8.below hBr).below br12).cell (j := 0) rfl
          clear hr10 hg10 n9 hr12 hg12 n11 t9 t11 hB2 yA10 xar
          rw [Bool.true_and] at hb
          by_cases hx : (q : Int) = x.1
          · have hx' : ((q : Int) == x.1) = true := by simp [hx]
            rw [hx'] at hb
            clear hx
            go_wp2_with fail
            go_roundw
            case rel => exact ⟨q + 1, by omega, by omega, by go_num, below_and hBr (Nat.le_refl _) br12⟩
            case measure => simp [intOf]; omega
          · have hx' : ((q : Int) == x.1) = false := by simp [hx]
            rw [hx'] at hb
            clear hx
            go_wp2_with fail
            go_roundw
            case rel => exact ⟨q + 1, by omega, by omega, by go_num, below_and hBr (Nat.le_refl _) br12⟩
            case measure => simp [intOf]; omega
        · have hqd : decide ((q : Int) ≤ 4) = false := by simp; omega
          go_wp2_with fail
          go_ret
          exact ⟨rfl, below_and B8 le hBr⟩
end Go.Proofs.Ytmmcgafmhadioaa
end
