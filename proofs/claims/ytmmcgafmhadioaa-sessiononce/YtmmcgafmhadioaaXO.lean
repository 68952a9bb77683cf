/- catenarylaw09.SessionOnce: its walk. (Made by mk9l.py.) -/
import Derived.Test.YtmmcgafmhadioaaXI
section
set_option linter.unusedVariables false
set_option linter.unusedSimpArgs false
namespace Go.Proofs.Ytmmcgafmhadioaa
open Go.RowKit Oct Kvl

/-- What stands while others' requests are done: a right state, the client's session as it was. -/
def onceI (a : PApp) (x : PReq) (S : PApp × (Int × List Int) × Bool) (q : Nat) (b : PApp) : Prop := rgtA b ∧ wfN b.2.2.2 ∧ b.1 ≤ a.1 + 1 + q ∧ getR [x.1] b.2.2.2 = some (x.2.1 :: S.2.1.1 :: S.2.1.2)
theorem onceI_skip {a : PApp} {x : PReq} {S : PApp × (Int × List Int) × Bool} {q : Nat} {b : PApp} (h : onceI a x S q b) : onceI a x S (q + 1) b := ⟨h.1, h.2.1, by have := h.2.2.1; omega, h.2.2.2⟩
theorem onceI_step {a : PApp} {x y : PReq} {S : PApp × (Int × List Int) × Bool} {q : Nat} {b : PApp} (h : onceI a x S q b) (hc : ¬ y.1 = x.1) : onceI a x S (q + 1) (applyA b y).1 := by
  obtain ⟨h1, h2, h3, h4⟩ := h
  refine ⟨applyA_rgt h2 h1, applyA_wf h2, ?_, ?_⟩
  · unfold applyA
    split
    · rw [stepA_slot]; omega
    · show b.1 ≤ _; omega
  · rw [other_get h2 h1.2.2.2 (fun e => hc e.symm)]; exact h4
theorem onR4 {n m : Int} {a b : Value} (ha : a.oneCell' = true) (hb : b.oneCell' = true) : ∀ x ∈ [Value.int .i64 n, Value.int .i64 m, a, b], x.oneCell' = true := by
  intro x hx
  simp only [List.mem_cons, List.not_mem_nil, or_false] at hx
  rcases hx with rfl | rfl | rfl | rfl <;> first | assumption | rfl
theorem RApp.below' {G : Nat → Prop} {w w' : World} {r : List Value} {a : PApp} (h : RApp G w r a) (hb : Below w.heap.size w w') : RApp G w' r a := mov_app _ _ _ _ _ _ h hb.size (Mv.belowG hb)

set_option maxRecDepth 10000 in
set_option maxHeartbeats 16000000 in
theorem onceA_any (w : World) (r0 : List Value) (a : PApp) (r1 : List Value) (x : PReq) (bv : Value) (ys : List PReq) (h0 : RApp Any w r0 a) (h1 : RReq Any w r1 x) (h2 : RL RReq 4 Any w bv ys) (z0 : szA a) (z1 : szQ x) (z2 : szL 64 szQ ys) :
    Calls Try.prog 4 #[.agg r0.toArray, .agg r1.toArray, bv] w fun e w' => e = .returned (.bool true) ∧ Below w.heap.size w w' := by
  have le := Nat.le_refl w.heap.size
  have hall := h0
  have hxall := h1
  obtain ⟨ve, vl, vs, rfl, e1, e2, e3⟩ := h0
  obtain ⟨vo, vg, rfl, o1, o2⟩ := h1
  clear e1 e2 e3 o1 o2
  obtain ⟨w0, hw0⟩ : ∃ w0, w0 = (w.alloc (.cells #[.int .i64 a.1, ve, vl, vs] 31)).alloc (.cells #[.int .i64 x.1, .int .i64 x.2.1, vo, vg] 35) := ⟨_, rfl⟩
  have xa : Row w0 w.heap.size 31 [.int .i64 a.1, ve, vl, vs] := by rw [hw0]; exact rowA (Row.new w 31 _) _
  have xq : Row w0 (w.heap.size + 1) 35 [.int .i64 x.1, .int .i64 x.2.1, vo, vg] := by
    rw [hw0]
    have := Row.new (w.alloc (.cells #[.int .i64 a.1, ve, vl, vs] 31)) 35 [.int .i64 x.1, .int .i64 x.2.1, vo, vg]
    simpa using this
  have B0 : Below w.heap.size w w0 := by rw [hw0]; exact below_and (below_alloc _ _) (Nat.le_refl _) (below_alloc _ _)
  go_enter Try.func4, Try.ntmps4
  go_upto_region 1 with fail
  rw [← hw0]
  clear hw0
  go_upto_region 3 with (go_at_call 7; refine (sessionAlive_any w0).mono ?_; rintro e w1 ⟨rfl, hb1⟩)
  have B1 := below_and B0 le hb1
  have xa := xa.below hb1
  have xq := xq.below hb1
  clear hb1 B0
  obtain ⟨S, hSS⟩ : ∃ S, S = applyA a x := ⟨_, rfl⟩
  have H0 := (show Hid (∀ u, Below w1.heap.size w1 u → RApp Any u [.int .i64 a.1, ve, vl, vs] a) from fun u hu => hall.below (below_and B1 le hu))
  have H1 := (show Hid (∀ u, Below w1.heap.size w1 u → RReq Any u [.int .i64 x.1, .int .i64 x.2.1, vo, vg] x) from fun u hu => mov_req _ _ _ _ _ _ hxall (below_and B1 le hu).size (Mv.below (below_and B1 le hu)))
  have HC := (show Hid (∀ u, Below w1.heap.size w1 u → Calls Try.prog 10 #[.agg #[.int .i64 a.1, ve, vl, vs]] u fun e w' => ∃ ae ne ce al nl cl an nn cn, e = .returned (.agg #[.int .i64 a.1, .slice ae ne ce, .slice al nl cl, .slice an nn cn]) ∧ Hid (∀ z, Below w'.heap.size w' z → RApp Any z [.int .i64 a.1, .slice ae ne ce, .slice al nl cl, .slice an nn cn] a) ∧ Below u.heap.size u w' ∧ Below w1.heap.size w1 w') from fun u hu => (refCopyA_any u _ a (H0.out u hu) z0).mono fun e w' ⟨r', e1, e2, e3⟩ => by
    have e2' := mov_app _ _ _ _ _ _ e2 (Nat.le_refl _) Mv.any
    obtain ⟨ve', vl', vs', rfl, t1, t2, t3⟩ := e2
    obtain ⟨ae, ce, rfl, _⟩ := t1.form
    obtain ⟨al, cl, rfl, _⟩ := t2.form
    obtain ⟨an, cn, rfl, _⟩ := t3.form
    exact ⟨ae, _, ce, al, _, cl, an, _, cn, e1, fun z hz => e2'.below hz, e3, below_and hu (Nat.le_refl _) e3⟩)
  have HQ := (show Hid (∀ u, Below w1.heap.size w1 u → Calls Try.prog 11 #[.agg #[.int .i64 x.1, .int .i64 x.2.1, vo, vg]] u fun e w' => ∃ ao no co ag ng cg, e = .returned (.agg #[.int .i64 x.1, .int .i64 x.2.1, .slice ao no co, .slice ag ng cg]) ∧ Hid (∀ z, Below w'.heap.size w' z → RReq Any z [.int .i64 x.1, .int .i64 x.2.1, .slice ao no co, .slice ag ng cg] x) ∧ Below u.heap.size u w' ∧ Below w1.heap.size w1 w') from fun u hu => (copyReq_any u _ x (H1.out u hu) z1).mono fun e w' ⟨r', e1, e2, e3⟩ => by
    have e2' := mov_req _ _ _ _ _ _ e2 (Nat.le_refl _) Mv.any
    obtain ⟨vo', vg', rfl, t1, t2⟩ := e2
    obtain ⟨ao, co, rfl, _⟩ := t1.form
    obtain ⟨ag, cg, rfl, _⟩ := t2.form
    exact ⟨ao, _, co, ag, _, cg, e1, fun z hz => mov_req _ _ _ _ _ _ e2' hz.size (Mv.below hz), e3, below_and hu (Nat.le_refl _) e3⟩)
  have HP := (show Hid (∀ (u : World) (r3 r4 : List Value), Below w1.heap.size w1 u → RApp Any u r3 a → RReq Any u r4 x → Calls Try.prog 9 #[.agg r3.toArray, .agg r4.toArray] u fun e w' => ∃ ae ne ce al nl cl an nn cn ax nx cx, e = .returned (.tuple #[.agg #[.int .i64 S.1.1, .slice ae ne ce, .slice al nl cl, .slice an nn cn], .agg #[.int .i64 S.2.1.1, .slice ax nx cx], .bool S.2.2]) ∧ Hid (∀ z : World, w'.heap.size ≤ z.heap.size → (∀ j, u.heap.size ≤ j → j < w'.heap.size → z.heap[j]? = w'.heap[j]?) → RApp (Rng u.heap.size w'.heap.size) z [.int .i64 S.1.1, .slice ae ne ce, .slice al nl cl, .slice an nn cn] S.1 ∧ RT (Rng u.heap.size w'.heap.size) z (.slice ax nx cx) S.2.1.2) ∧ Below u.heap.size u w' ∧ Below w1.heap.size w1 w') from fun u r3 r4 hu g3 g4 => by
    rw [hSS]
    refine (apply_any u r3 a g3 z0 r4 x g4 z1).mono ?_
    rintro e w' ⟨row, vv, rfl, ⟨ve', vl', vs', rfl, t1, t2, t3⟩, t4, hb⟩
    obtain ⟨ae, ce, rfl, _⟩ := (Re.rl t1).form
    obtain ⟨al, cl, rfl, _⟩ := (Rz.rl t2).form
    obtain ⟨an, cn, rfl, _⟩ := (Rn.rl t3).form
    obtain ⟨ax, cx, rfl, _⟩ := t4.rt.form
    refine ⟨ae, _, ce, al, _, cl, an, _, cn, ax, _, cx, rfl, fun z hz hk => ⟨⟨_, _, _, rfl, (rl_rng ent_rng ((t1.rl mov_oent).ent)).mv mov_ent hz (fun j hj _ => ⟨hk j hj.1 hj.2, hj⟩), (rl_rng lea_rng ((t2.rl mov_olea).lea)).mv mov_lea hz (fun j hj _ => ⟨hk j hj.1 hj.2, hj⟩), (rl_rng ses_rng ((t3.rl mov_oses).ses)).mv mov_ses hz (fun j hj _ => ⟨hk j hj.1 hj.2, hj⟩)⟩, (rt_rng t4.rt).mv (fun j hj _ => ⟨hk j hj.1 hj.2, hj⟩)⟩, hb, below_and hu (Nat.le_refl _) hb⟩)
  have HSS := (show Hid (S = applyA a x) from hSS)
  clear hSS
  have SK := (show Hid (∀ u, Below w1.heap.size w1 u → u.cell? ⟨w.heap.size, 0, none⟩ = some (.int .i64 a.1) ∧ u.cell? ⟨w.heap.size, 1, none⟩ = some (ve) ∧ u.cell? ⟨w.heap.size, 2, none⟩ = some (vl) ∧ u.cell? ⟨w.heap.size, 3, none⟩ = some (vs) ∧ u.cell? ⟨w.heap.size + 1, 0, none⟩ = some (.int .i64 x.1) ∧ u.cell? ⟨w.heap.size + 1, 1, none⟩ = some (.int .i64 x.2.1) ∧ u.cell? ⟨w.heap.size + 1, 2, none⟩ = some (vo) ∧ u.cell? ⟨w.heap.size + 1, 3, none⟩ = some (vg)) from fun u hu => ⟨(xa.below hu).cell (j := 0) rfl, (xa.below hu).cell (j := 1) rfl, (xa.below hu).cell (j := 2) rfl, (xa.below hu).cell (j := 3) rfl, (xq.below hu).cell (j := 0) rfl, (xq.below hu).cell (j := 1) rfl, (xq.below hu).cell (j := 2) rfl, (xq.below hu).cell (j := 3) rfl⟩)
  have hdw : Below w1.heap.size w1 w1.drew := ⟨rfl, rfl, rfl, Nat.le_refl _, fun _ _ => rfl⟩
  have hdA : Below w1.heap.size w1 (w1.alloc (.cells ([.int .i64 0, .slice none 0 0, .slice none 0 0, .slice none 0 0] : List Value).toArray 31)).drew := (below_alloc _ _).drew
  have hdB : Below w1.heap.size w1 (w1.alloc (.cells ([.int .i64 0, .slice none 0 0] : List Value).toArray 24)).drew := (below_alloc _ _).drew
  have hdAB : Below w1.heap.size w1 ((w1.alloc (.cells ([.int .i64 0, .slice none 0 0, .slice none 0 0, .slice none 0 0] : List Value).toArray 31)).alloc (.cells ([.int .i64 0, .slice none 0 0] : List Value).toArray 24)).drew := (below_and (below_alloc _ _) (Nat.le_refl _) (below_alloc _ _)).drew
  have hdBA : Below w1.heap.size w1 ((w1.alloc (.cells ([.int .i64 0, .slice none 0 0] : List Value).toArray 24)).alloc (.cells ([.int .i64 0, .slice none 0 0, .slice none 0 0, .slice none 0 0] : List Value).toArray 31)).drew := (below_and (below_alloc _ _) (Nat.le_refl _) (below_alloc _ _)).drew
  try go_simp
  go_cut [7, 8, 9] from 15 (fun sA sB sC wx => ∃ (bA bB : Nat) (rb : List Value) (vv : Value), sA = .pointer (some ⟨bA, 0, none⟩) ∧ sB = .pointer (some ⟨bB, 0, none⟩) ∧ sC = .bool S.2.2 ∧ Row wx bA 31 rb ∧ Row wx bB 24 [.int .i64 S.2.1.1, vv] ∧ RApp (fun k => k ≠ bA) wx rb S.1 ∧ RT (fun k => k ≠ bA) wx vv S.2.1.2 ∧ w1.heap.size ≤ bA ∧ w1.heap.size ≤ bB ∧ Below w1.heap.size w1 wx)
  case first =>
    go_wp2_with fail
    go_region_held3 (fun u => u.cell? ⟨w.heap.size, 0, none⟩ = some (.int .i64 a.1) ∧ u.cell? ⟨w.heap.size, 1, none⟩ = some (ve) ∧ u.cell? ⟨w.heap.size, 2, none⟩ = some (vl) ∧ u.cell? ⟨w.heap.size, 3, none⟩ = some (vs) ∧ u.cell? ⟨w.heap.size + 1, 0, none⟩ = some (.int .i64 x.1) ∧ u.cell? ⟨w.heap.size + 1, 1, none⟩ = some (.int .i64 x.2.1) ∧ u.cell? ⟨w.heap.size + 1, 2, none⟩ = some (vo) ∧ u.cell? ⟨w.heap.size + 1, 3, none⟩ = some (vg))
      (first | (with_reducible exact SK.out w5 hB5) | (with_reducible exact SK.out w4 hB4) | (with_reducible exact SK.out w3 hB3) | (with_reducible exact SK.out (w5.alloc _) (bel_al hB5)) | (with_reducible exact SK.out ((w5.alloc _).alloc _) (bel_al (bel_al hB5))) | (with_reducible exact SK.out (w4.alloc _) (bel_al hB4)) | (with_reducible exact SK.out ((w4.alloc _).alloc _) (bel_al (bel_al hB4))) | (with_reducible exact SK.out (w3.alloc _) (bel_al hB3)) | (with_reducible exact SK.out ((w3.alloc _).alloc _) (bel_al (bel_al hB3))) | (with_reducible exact SK.out ((((w5.setCell _ _).setCell _ _).setCell _ _).setCell _ _) (bel_st (bel_st (bel_st (bel_st hB5 (by omega)) (by omega)) (by omega)) (by omega))) | (with_reducible exact SK.out (((((w5.alloc _).setCell _ _).setCell _ _).setCell _ _).setCell _ _) (bel_st (bel_st (bel_st (bel_st (bel_al hB5) (by omega)) (by omega)) (by omega)) (by omega))) | (with_reducible exact SK.out ((((((w5.setCell _ _).setCell _ _).setCell _ _).setCell _ _).setCell _ _).setCell _ _) (bel_st (bel_st (bel_st (bel_st (bel_st (bel_st hB5 (by omega)) (by omega)) (by omega)) (by omega)) (by omega)) (by omega))) | (with_reducible exact SK.out (((((((w5.alloc _).setCell _ _).setCell _ _).setCell _ _).setCell _ _).setCell _ _).setCell _ _) (bel_st (bel_st (bel_st (bel_st (bel_st (bel_st (bel_al hB5) (by omega)) (by omega)) (by omega)) (by omega)) (by omega)) (by omega))) | (with_reducible exact SK.out (((((w5.setCell _ _).setCell _ _).setCell _ _).setCell _ _).alloc _) (bel_al (bel_st (bel_st (bel_st (bel_st hB5 (by omega)) (by omega)) (by omega)) (by omega)))) | (with_reducible exact SK.out ((w5.setCell _ _).setCell _ _) (bel_st (bel_st hB5 (by omega)) (by omega))) | (with_reducible exact SK.out (((w5.alloc _).setCell _ _).setCell _ _) (bel_st (bel_st (bel_al hB5) (by omega)) (by omega))) | (with_reducible exact SK.out (((w5.setCell _ _).setCell _ _).alloc _) (bel_al (bel_st (bel_st hB5 (by omega)) (by omega)))) | (with_reducible exact SK.out ((((((w5.setCell _ _).setCell _ _).setCell _ _).setCell _ _).setCell _ _).setCell _ _) (bel_st (bel_st (bel_st (bel_st (bel_st (bel_st hB5 (by omega)) (by omega)) (by omega)) (by omega)) (by omega)) (by omega))) | (with_reducible exact SK.out (((((((w5.setCell _ _).setCell _ _).alloc _).setCell _ _).setCell _ _).setCell _ _).setCell _ _) (bel_st (bel_st (bel_st (bel_st (bel_al (bel_st (bel_st hB5 (by omega)) (by omega))) (by omega)) (by omega)) (by omega)) (by omega))) | (with_reducible exact SK.out w1.drew hdw) | (with_reducible exact SK.out (w1.alloc _).drew hdA) | (with_reducible exact SK.out (w1.alloc _).drew hdB) | (with_reducible exact SK.out ((w1.alloc _).alloc _).drew hdAB) | (with_reducible exact SK.out ((w1.alloc _).alloc _).drew hdBA) | go_keep)
      (first
        | (go_at_call 9; refine (HP.out _ _ _ (by repeat (first | (with_reducible exact hB5) | (with_reducible exact hB4) | (with_reducible exact hB3) | (with_reducible exact Below.refl _ _) | (with_reducible exact hdw) | (with_reducible exact hdA) | (with_reducible exact hdB) | (with_reducible exact hdAB) | (with_reducible exact hdBA) | (with_reducible refine bel_al ?_) | (with_reducible refine bel_ch ?_ hb5) | (with_reducible refine bel_ch ?_ hb4) | (with_reducible refine bel_ch ?_ hb3) | (with_reducible refine bel_st ?_ ?_) | omega)) (rc.out _ (by repeat (first | (with_reducible exact hB5) | (with_reducible exact hB4) | (with_reducible exact hB3) | (with_reducible exact Below.refl _ _) | (with_reducible exact hdw) | (with_reducible exact hdA) | (with_reducible exact hdB) | (with_reducible exact hdAB) | (with_reducible exact hdBA) | (with_reducible refine bel_al ?_) | (with_reducible refine bel_ch ?_ hb5) | (with_reducible refine bel_ch ?_ hb4) | (with_reducible refine bel_ch ?_ hb3) | (with_reducible refine bel_st ?_ ?_) | omega))) (rd.out _ (by repeat (first | (with_reducible exact hB5) | (with_reducible exact hB4) | (with_reducible exact hB3) | (with_reducible exact Below.refl _ _) | (with_reducible exact hdw) | (with_reducible exact hdA) | (with_reducible exact hdB) | (with_reducible exact hdAB) | (with_reducible exact hdBA) | (with_reducible refine bel_al ?_) | (with_reducible refine bel_ch ?_ hb5) | (with_reducible refine bel_ch ?_ hb4) | (with_reducible refine bel_ch ?_ hb3) | (with_reducible refine bel_st ?_ ?_) | omega)))).mono ?_; rintro e w5 ⟨ae, ne, ce, al, nl, cl, an, nn, cn, ax, nx, cx, rfl, rp, hb5, hB5⟩; (first | (with_reducible have qA := (Row.new _ 31 [.int .i64 0, .slice none 0 0, .slice none 0 0, .slice none 0 0]).below hb5) | (with_reducible have qA := (rowA (Row.new _ 31 [.int .i64 0, .slice none 0 0, .slice none 0 0, .slice none 0 0]) (.cells ([.int .i64 0, .slice none 0 0] : List Value).toArray 24)).below hb5) | (with_reducible have qA := (Row.new _ 31 [.int .i64 0, .slice none 0 0, .slice none 0 0, .slice none 0 0]).drew.below hb5) | (with_reducible have qA := (rowA (Row.new _ 31 [.int .i64 0, .slice none 0 0, .slice none 0 0, .slice none 0 0]) (.cells ([.int .i64 0, .slice none 0 0] : List Value).toArray 24)).drew.below hb5) | (with_reducible have qA := qA.below hb5) | (with_reducible have qA := (qA.below (below_alloc _ _)).below hb5) | skip); (first | (with_reducible rw [alloc_size] at qA) | skip); (first | (with_reducible rw [drew_size] at qA) | skip); (first | (with_reducible have qB := (Row.new _ 24 [.int .i64 0, .slice none 0 0]).below hb5) | (with_reducible have qB := (rowA (Row.new _ 24 [.int .i64 0, .slice none 0 0]) (.cells ([.int .i64 0, .slice none 0 0, .slice none 0 0, .slice none 0 0] : List Value).toArray 31)).below hb5) | (with_reducible have qB := (Row.new _ 24 [.int .i64 0, .slice none 0 0]).drew.below hb5) | (with_reducible have qB := (rowA (Row.new _ 24 [.int .i64 0, .slice none 0 0]) (.cells ([.int .i64 0, .slice none 0 0, .slice none 0 0, .slice none 0 0] : List Value).toArray 31)).drew.below hb5) | (with_reducible have qB := qB.below hb5) | (with_reducible have qB := (qB.below (below_alloc _ _)).below hb5) | skip); (first | (with_reducible rw [alloc_size] at qB) | skip); (first | (with_reducible rw [drew_size] at qB) | skip); (first | (have qa0 := qA.cell (j := 0) rfl; have qa1 := qA.cell (j := 1) rfl; have qa2 := qA.cell (j := 2) rfl; have qa3 := qA.cell (j := 3) rfl; have pa0 := qA.frozen 0; have pa1 := qA.frozen 1; have pa2 := qA.frozen 2; have pa3 := qA.frozen 3) | skip); (first | (have qb0 := qB.cell (j := 0) rfl; have qb1 := qB.cell (j := 1) rfl; have pb0 := qB.frozen 0; have pb1 := qB.frozen 1) | skip); have hB5s := hB5.size; (first | (have nA := Nat.ne_of_lt qA.lt; have QA := qA.below (below_alloc w5 (.cells ([.int .i64 0, .slice none 0 0] : List Value).toArray 24)); have ra0 := QA.cell (j := 0) rfl; have ra1 := QA.cell (j := 1) rfl; have ra2 := QA.cell (j := 2) rfl; have ra3 := QA.cell (j := 3) rfl; have ua0 := QA.frozen 0; have ua1 := QA.frozen 1; have ua2 := QA.frozen 2; have ua3 := QA.frozen 3) | skip); (first | (have nB := Nat.ne_of_lt qB.lt; have QB := qB.below (below_alloc w5 (.cells ([.int .i64 0, .slice none 0 0, .slice none 0 0, .slice none 0 0] : List Value).toArray 31)); have rb0 := QB.cell (j := 0) rfl; have rb1 := QB.cell (j := 1) rfl; have ub0 := QB.frozen 0; have ub1 := QB.frozen 1) | skip); (first | (have nAB := Row.apart qA qB (by decide); have nBA := Ne.symm nAB; have QC := qB.grown (g4 (v0 := .int .i64 S.1.1) (v1 := .slice ae ne ce) (v2 := .slice al nl cl) (v3 := .slice an nn cn) w5 _) (ne_of nAB); have rc0 := QC.cell (j := 0) rfl; have rc1 := QC.cell (j := 1) rfl; have uc0 := QC.frozen 0; have uc1 := QC.frozen 1) | skip); (first | (have QD := qB.below (below_alloc w5 (.cells ([.int .i64 S.1.1, .slice ae ne ce, .slice al nl cl, .slice an nn cn] : List Value).toArray 31)); have rd0 := QD.cell (j := 0) rfl; have rd1 := QD.cell (j := 1) rfl; have ud0 := QD.frozen 0; have ud1 := QD.frozen 1) | skip))
        | (go_at_call 11; refine (HQ.out _ (by repeat (first | (with_reducible exact hB5) | (with_reducible exact hB4) | (with_reducible exact hB3) | (with_reducible exact Below.refl _ _) | (with_reducible exact hdw) | (with_reducible exact hdA) | (with_reducible exact hdB) | (with_reducible exact hdAB) | (with_reducible exact hdBA) | (with_reducible refine bel_al ?_) | (with_reducible refine bel_ch ?_ hb5) | (with_reducible refine bel_ch ?_ hb4) | (with_reducible refine bel_ch ?_ hb3) | (with_reducible refine bel_st ?_ ?_) | omega))).mono ?_; rintro e w4 ⟨ao4, no4, co4, ag4, ng4, cg4, rfl, rd, hb4, hB4⟩; (first | (with_reducible have qA := (Row.new _ 31 [.int .i64 0, .slice none 0 0, .slice none 0 0, .slice none 0 0]).below hb4) | (with_reducible have qA := (rowA (Row.new _ 31 [.int .i64 0, .slice none 0 0, .slice none 0 0, .slice none 0 0]) (.cells ([.int .i64 0, .slice none 0 0] : List Value).toArray 24)).below hb4) | (with_reducible have qA := (Row.new _ 31 [.int .i64 0, .slice none 0 0, .slice none 0 0, .slice none 0 0]).drew.below hb4) | (with_reducible have qA := (rowA (Row.new _ 31 [.int .i64 0, .slice none 0 0, .slice none 0 0, .slice none 0 0]) (.cells ([.int .i64 0, .slice none 0 0] : List Value).toArray 24)).drew.below hb4) | (with_reducible have qA := qA.below hb4) | (with_reducible have qA := (qA.below (below_alloc _ _)).below hb4) | skip); (first | (with_reducible rw [alloc_size] at qA) | skip); (first | (with_reducible rw [drew_size] at qA) | skip); (first | (with_reducible have qB := (Row.new _ 24 [.int .i64 0, .slice none 0 0]).below hb4) | (with_reducible have qB := (rowA (Row.new _ 24 [.int .i64 0, .slice none 0 0]) (.cells ([.int .i64 0, .slice none 0 0, .slice none 0 0, .slice none 0 0] : List Value).toArray 31)).below hb4) | (with_reducible have qB := (Row.new _ 24 [.int .i64 0, .slice none 0 0]).drew.below hb4) | (with_reducible have qB := (rowA (Row.new _ 24 [.int .i64 0, .slice none 0 0]) (.cells ([.int .i64 0, .slice none 0 0, .slice none 0 0, .slice none 0 0] : List Value).toArray 31)).drew.below hb4) | (with_reducible have qB := qB.below hb4) | (with_reducible have qB := (qB.below (below_alloc _ _)).below hb4) | skip); (first | (with_reducible rw [alloc_size] at qB) | skip); (first | (with_reducible rw [drew_size] at qB) | skip); have hB4s := hB4.size)
        | (go_at_call 10; refine (HC.out _ (by repeat (first | (with_reducible exact hB5) | (with_reducible exact hB4) | (with_reducible exact hB3) | (with_reducible exact Below.refl _ _) | (with_reducible exact hdw) | (with_reducible exact hdA) | (with_reducible exact hdB) | (with_reducible exact hdAB) | (with_reducible exact hdBA) | (with_reducible refine bel_al ?_) | (with_reducible refine bel_ch ?_ hb5) | (with_reducible refine bel_ch ?_ hb4) | (with_reducible refine bel_ch ?_ hb3) | (with_reducible refine bel_st ?_ ?_) | omega))).mono ?_; rintro e w3 ⟨ae3, ne3, ce3, al3, nl3, cl3, an3, nn3, cn3, rfl, rc, hb3, hB3⟩; (first | (with_reducible have qA := (Row.new _ 31 [.int .i64 0, .slice none 0 0, .slice none 0 0, .slice none 0 0]).below hb3) | (with_reducible have qA := (rowA (Row.new _ 31 [.int .i64 0, .slice none 0 0, .slice none 0 0, .slice none 0 0]) (.cells ([.int .i64 0, .slice none 0 0] : List Value).toArray 24)).below hb3) | (with_reducible have qA := (Row.new _ 31 [.int .i64 0, .slice none 0 0, .slice none 0 0, .slice none 0 0]).drew.below hb3) | (with_reducible have qA := (rowA (Row.new _ 31 [.int .i64 0, .slice none 0 0, .slice none 0 0, .slice none 0 0]) (.cells ([.int .i64 0, .slice none 0 0] : List Value).toArray 24)).drew.below hb3) | (with_reducible have qA := qA.below hb3) | (with_reducible have qA := (qA.below (below_alloc _ _)).below hb3) | skip); (first | (with_reducible rw [alloc_size] at qA) | skip); (first | (with_reducible rw [drew_size] at qA) | skip); (first | (with_reducible have qB := (Row.new _ 24 [.int .i64 0, .slice none 0 0]).below hb3) | (with_reducible have qB := (rowA (Row.new _ 24 [.int .i64 0, .slice none 0 0]) (.cells ([.int .i64 0, .slice none 0 0, .slice none 0 0, .slice none 0 0] : List Value).toArray 31)).below hb3) | (with_reducible have qB := (Row.new _ 24 [.int .i64 0, .slice none 0 0]).drew.below hb3) | (with_reducible have qB := (rowA (Row.new _ 24 [.int .i64 0, .slice none 0 0]) (.cells ([.int .i64 0, .slice none 0 0, .slice none 0 0, .slice none 0 0] : List Value).toArray 31)).drew.below hb3) | (with_reducible have qB := qB.below hb3) | (with_reducible have qB := (qB.below (below_alloc _ _)).below hb3) | skip); (first | (with_reducible rw [alloc_size] at qB) | skip); (first | (with_reducible rw [drew_size] at qB) | skip); have hB3s := hB3.size))
    all_goals (
      first
        | (obtain ⟨Z, hZ, F⟩ := fin_bb (v0 := .int .i64 S.1.1) (v1 := .slice ae ne ce) (v2 := .slice al nl cl) (v3 := .slice an nn cn) (c := .int .i64 S.2.1.1) (v := .slice ax nx cx) rfl rfl qA qB; rw [← hZ]; clear hZ)
        | (obtain ⟨Z, hZ, F⟩ := fin_bn (y0 := .int .i64 0) (y1 := .slice none 0 0) (v0 := .int .i64 S.1.1) (v1 := .slice ae ne ce) (v2 := .slice al nl cl) (v3 := .slice an nn cn) (c := .int .i64 S.2.1.1) (v := .slice ax nx cx) rfl qA; rw [← hZ]; clear hZ)
        | (obtain ⟨Z, hZ, F⟩ := fin_nb (v0 := .int .i64 S.1.1) (v1 := .slice ae ne ce) (v2 := .slice al nl cl) (v3 := .slice an nn cn) (c := .int .i64 S.2.1.1) (v := .slice ax nx cx) rfl qB; rw [← hZ]; clear hZ)
        | (obtain ⟨Z, hZ, F⟩ := fin_nn (w5 := w5) (v0 := .int .i64 S.1.1) (v1 := .slice ae ne ce) (v2 := .slice al nl cl) (v3 := .slice an nn cn) (c := .int .i64 S.2.1.1) (v := .slice ax nx cx); rw [← hZ]; clear hZ)
        | (obtain ⟨Z, hZ, F⟩ := fin_nn' (w5 := w5) (v0 := .int .i64 S.1.1) (v1 := .slice ae ne ce) (v2 := .slice al nl cl) (v3 := .slice an nn cn) (c := .int .i64 S.2.1.1) (v := .slice ax nx cx); rw [← hZ]; clear hZ)
      have y3 := hb3.size
      have y4 := hb4.size
      have y5 := hb5.size
      try simp at y3
      try simp at y4
      try simp at y5
      have RF := rp.out Z F.size (fun j h1 h2 => F.block j h2 (by (try simp at h1); omega) (by (try simp at h1); omega))
      have hbZ := F.bel hB5 (Nat.le_refl _) (by omega) (by omega)
      have R1 := F.ra RF.1 (by (try simp only [alloc_size, drew_size]); omega)
      have R2 := F.rt RF.2 (by (try simp only [alloc_size, drew_size]); omega)
      go_wp2_with fail
      go_meet
      case rel => exact ⟨_, _, _, _, rfl, rfl, rfl, F.a, F.b, R1, R2, by omega, by omega, hbZ⟩)
  case rest =>
    clear HC HQ HP SK hdw hdA hdB hdAB hdBA H0
    obtain ⟨bA, bB, rb, vv, rfl, rfl, rfl, yA, yB, rS, rV, lA, lB, hbc⟩ := hcut
    have Bc := below_and B1 le hbc
    have xac := xa.below hbc
    have xqc := xq.below hbc
    have hwf := hall.wf
    obtain ⟨aby, cby, rfl, hcby⟩ := h2.form
    have c0 := xac.cell (j := 0) rfl
    cases hdn : S.2.2 with
    | false =>
      clear c0
      go_wp2_with fail
      go_ret
      exact ⟨rfl, Bc⟩
    | true =>
    obtain ⟨N, hN⟩ : ∃ N, N = ys.length := ⟨_, rfl⟩
    rw [← hN]
    have HN := (show Hid (ys.length = N) from hN.symm)
    by_cases h100 : 100 < N
    · have h100' : decide ((100 : Int) < N) = true := by simp; omega
      clear hN
      go_wp2_with fail
      go_ret
      exact ⟨rfl, Bc⟩
    have h100' : decide ((100 : Int) < N) = false := by simp; omega
    by_cases h999 : 999000 < a.1
    · have h999' : decide (999000 < a.1) = true := by simp; omega
      clear hN
      go_wp2_with fail
      go_ret
      exact ⟨rfl, Bc⟩
    have h999' : decide (999000 < a.1) = false := by simp; omega
    have hd0 : (applyA a x).2.2 = true := by rw [← HSS.out]; exact hdn
    obtain ⟨hgo, hok, _, _⟩ := done_go hd0
    have HOK := (show Hid (okR x) from hok)
    have I0 := (show Hid (onceI a x S 0 S.1) by
      have hg := own_get hwf hd0
      rw [← HSS.out] at hg
      refine ⟨?_, ?_, ?_, hg⟩
      · rw [HSS.out]; exact applyA_rgt hwf hgo.1
      · rw [HSS.out]; exact applyA_wf hwf
      · rw [HSS.out]
        have : applyA a x = stepA a x := by unfold applyA; rw [if_pos hgo]
        rw [this, stepA_slot]
        simp)
    have hNl : (N : Int) ≤ 100 := by omega
    have HA9 := (show Hid (a.1 ≤ 999000) from (by omega : a.1 ≤ 999000))
    have HH2 := (show Hid (∀ (q : Nat) (y : PReq), ys[q]? = some y → ∃ b off cap, Value.slice aby N cby = .slice (some ⟨b, off, none⟩) N cap ∧ ∃ o g, ∀ u, Below w.heap.size w u → u.rangeAt b (off + q * 4) [.int .i64 y.1, .int .i64 y.2.1, o, g] ∧ RReq Any u [.int .i64 y.1, .int .i64 y.2.1, o, g] y ∧ szQ y) from fun q y hy => by
      have hl : 0 < ys.length := by have := (List.getElem?_eq_some_iff.1 hy).1; omega
      obtain ⟨b, off, cap, e, hc, hm, _, hb, hx⟩ := h2.at hl
      obtain ⟨r, _, hr, o, g, rfl, t1, t2⟩ := hx q y hy
      refine ⟨b, off, cap, by rw [hN]; exact e, o, g, fun u hu => ⟨rangeAt_block hr (hu.block b hb), ⟨o, g, rfl, t1.mv (Mv.below hu), t2.mv (Mv.below hu)⟩, z2.2 y (List.mem_of_getElem? hy)⟩⟩)
    have nAB := Row.apart yA yB (by decide)
    have hs1 := B1.size
    have xlt := xq.lt
    clear hN h2 z2 hcby hdn hd0 hgo hok hwf xac xa h999 hall
    go_wp2_with fail
    go_loopw [40] (fun i wr => ∃ (q : Nat) (bq : PApp) (row : List Value), q ≤ N ∧ i = .int .i64 q ∧ Row wr bA 31 row ∧ Row wr bB 24 [.int .i64 S.2.1.1, vv] ∧ RApp (fun k => k ≠ bA) wr row bq ∧ RT (fun k => k ≠ bA) wr vv S.2.1.2 ∧ Below w1.heap.size w1 wr ∧ Hid (onceI a x S q bq)) (fun i _ => N - (intOf i).toNat)
    case atStart => exact ⟨0, S.1, rb, by omega, rfl, yA, yB, rS, rV, hbc, I0⟩
    case round =>
      clear yA yB rS rV I0 c0 hbc xqc Bc
      obtain ⟨q, bq, row, hq, rfl, yA, yB, rS, rV, hbr, HI⟩ := hrel
      obtain ⟨ve', vl', vs', rfl, g1, g2, g3⟩ := rS
      have Br := below_and B1 le hbr
      have xqr := xq.below hbr
      by_cases hql : q < N
      · obtain ⟨y, hy⟩ : ∃ y, ys[q]? = some y := ⟨_, List.getElem?_eq_getElem (by have := HN.out; omega)⟩
        obtain ⟨b, off, cap, e, so, sg, HS⟩ := HH2.out q y hy
        injection e with e1 e2 e3
        subst e1 e3
        obtain ⟨hrng, hsr, hzy⟩ := HS wr Br
        have HSy := (show Hid (∀ u, Below w.heap.size w u → RReq Any u [.int .i64 y.1, .int .i64 y.2.1, so, sg] y) from fun u hu => (HS u hu).2.1)
        have hone : ∀ v ∈ [Value.int .i64 y.1, .int .i64 y.2.1, so, sg], v.oneCell' = true := by
          obtain ⟨o', g', e, t1, t2⟩ := hsr
          injection e with _ e
          injection e with _ e
          injection e with e1 e
          injection e with e2 _
          subst e1 e2
          exact onR4 t1.one t2.one
        have hrow0 := Row.new wr 35 [.int .i64 0, .int .i64 0, .slice none 0 0, .slice none 0 0]
        have hqi : (q : Int) < (N : Int) := by omega
        clear HS hsr e2 hy
        go_upto_region 9 with (first
          | (refine wpList_load_mid rfl _ _ rfl b (off + q * 4) rfl [.int .i64 y.1, .int .i64 y.2.1, so, sg] _ hrng Try.underlying35 rfl (by kernel_rfl) ?_)
          | (refine wl_store rfl _ _ _ rfl wr.heap.size [.int .i64 y.1, .int .i64 y.2.1, so, sg] rfl rfl _ _ hrow0 rfl (by kernel_rfl) hone ?_; intro w5 hr5 hg5))
        have hr5 := hr5.out
        have hb5 : Below wr.heap.size wr w5 := (below_alloc wr (.cells ([.int .i64 0, .int .i64 0, .slice none 0 0, .slice none 0 0] : List Value).toArray 35)).trans (grown_below hg5 (by simp) (fun k hk => by cases hk; exact Nat.le_refl _))
        have e0 := hr5.cell (j := 0) rfl
        have e1 := (xqr.below hb5).cell (j := 0) rfl
        have yA5 := yA.below hb5
        have yB5 := yB.below hb5
        have rS5 : RApp (fun k => k ≠ bA) w5 [.int .i64 bq.1, ve', vl', vs'] bq := mov_app _ _ _ _ _ _ ⟨_, _, _, rfl, g1, g2, g3⟩ hb5.size (Mv.belowG hb5)
        have rV5 := rV.mv (Mv.belowG hb5)
        have hb15 := below_and hbr (Nat.le_refl _) hb5
        have hlA : bA < w5.heap.size := yA5.lt
        have hs5 := hr5.lt
        have hrlt := yA.lt
        obtain ⟨gb, hgb⟩ : ∃ gb, gb = wr.heap.size := ⟨_, rfl⟩
        rw [← hgb] at hr5 e0 ⊢
        have hgA : gb ≠ bA := by omega
        clear hrng hone hrow0 hg5 yA yB g1 g2 g3 rV hb5 hgb hs5
        by_cases hcl : y.1 = x.1
        · have hc' : (y.1 != x.1) = false := by simp [hcl]
          have HCL := (show Hid (y.1 = x.1) from hcl)
          clear hcl
          go_wp2_with fail
          go_roundw
          case rel => exact ⟨q + 1, bq, _, by omega, by go_num, yA5, yB5, rS5, rV5, hb15, onceI_skip HI.out⟩
          case measure => simp [intOf]; omega
        · have hc' : (y.1 != x.1) = true := by simp [hcl]
          have HNX := (show Hid (onceI a x S (q + 1) (applyA bq y).1) from onceI_step HI.out hcl)
          obtain ⟨D, hD⟩ : ∃ D, D = applyA bq y := ⟨_, rfl⟩
          have HNX := (show Hid (onceI a x S (q + 1) D.1) by show onceI _ _ _ _ _; rw [hD]; exact HNX.out)
          have HQ := (show Hid (∀ u, Below w5.heap.size w5 u → Calls Try.prog 11 #[.agg #[.int .i64 y.1, .int .i64 y.2.1, so, sg]] u fun e w' => ∃ ao no co ag ng cg, e = .returned (.agg #[.int .i64 y.1, .int .i64 y.2.1, .slice ao no co, .slice ag ng cg]) ∧ Hid (∀ z, Below w'.heap.size w' z → RReq Any z [.int .i64 y.1, .int .i64 y.2.1, .slice ao no co, .slice ag ng cg] y) ∧ Below u.heap.size u w' ∧ Below w5.heap.size w5 w') from fun u hu => (copyReq_any u _ y (HSy.out u (below_and B1 le (below_and hb15 (Nat.le_refl _) hu))) hzy).mono fun e w' ⟨r', e1, e2, e3⟩ => by
            have e2' := mov_req _ _ _ _ _ _ e2 (Nat.le_refl _) Mv.any
            obtain ⟨vo', vg', rfl, t1, t2⟩ := e2
            obtain ⟨ao, co, rfl, _⟩ := t1.form
            obtain ⟨ag, cg, rfl, _⟩ := t2.form
            exact ⟨ao, _, co, ag, _, cg, e1, fun z hz => mov_req _ _ _ _ _ _ e2' hz.size (Mv.below hz), e3, below_and hu (Nat.le_refl _) e3⟩)
          have HP := (show Hid (∀ (u : World) (r4 : List Value), Below w5.heap.size w5 u → RReq Any u r4 y → Calls Try.prog 9 #[.agg #[.int .i64 bq.1, ve', vl', vs'], .agg r4.toArray] u fun e w' => ∃ ae ne ce al nl cl an nn cn vx, e = .returned (.tuple #[.agg #[.int .i64 D.1.1, .slice ae ne ce, .slice al nl cl, .slice an nn cn], .agg #[.int .i64 D.2.1.1, vx], .bool D.2.2]) ∧ RApp (fun k => k ≠ bA) w' [.int .i64 D.1.1, .slice ae ne ce, .slice al nl cl, .slice an nn cn] D.1 ∧ Below w5.heap.size w5 w') from fun u r4 hu g4 => by
            rw [hD]
            refine (apply_any u _ bq (mov_app _ _ _ _ _ _ (rS5.below' hu) (Nat.le_refl _) Mv.any) (rgt_sz HI.out.1) r4 y g4 hzy).mono ?_
            rintro e w' ⟨row, vx, rfl, ⟨ve2, vl2, vs2, rfl, t1, t2, t3⟩, t4, hb⟩
            obtain ⟨ae, ce, rfl, _⟩ := (Re.rl t1).form
            obtain ⟨al, cl, rfl, _⟩ := (Rz.rl t2).form
            obtain ⟨an, cn, rfl, _⟩ := (Rn.rl t3).form
            have hus := hu.size
            have mvk : Mv (From u.heap.size) (fun k => k ≠ bA) w' w' := fun k hk _ => ⟨rfl, fun e => by unfold From at hk; omega⟩
            exact ⟨ae, _, ce, al, _, cl, an, _, cn, vx, rfl, ⟨_, _, _, rfl, ((t1.rl mov_oent).ent).mv mov_ent (Nat.le_refl _) mvk, ((t2.rl mov_olea).lea).mv mov_lea (Nat.le_refl _) mvk, ((t3.rl mov_oses).ses).mv mov_ses (Nat.le_refl _) mvk⟩, below_and hu (Nat.le_refl _) hb⟩)
          have SK := (show Hid (∀ u, Below w5.heap.size w5 u → (u.cell? ⟨bA, 0, none⟩ = some (.int .i64 bq.1) ∧ u.cell? ⟨bA, 1, none⟩ = some ve' ∧ u.cell? ⟨bA, 2, none⟩ = some vl' ∧ u.cell? ⟨bA, 3, none⟩ = some vs') ∧ (u.frozen? ⟨bA, 0, none⟩ = false ∧ u.frozen? ⟨bA, 1, none⟩ = false ∧ u.frozen? ⟨bA, 2, none⟩ = false ∧ u.frozen? ⟨bA, 3, none⟩ = false) ∧ u.cell? ⟨gb, 0, none⟩ = some (.int .i64 y.1) ∧ u.cell? ⟨gb, 1, none⟩ = some (.int .i64 y.2.1) ∧ u.cell? ⟨gb, 2, none⟩ = some so ∧ u.cell? ⟨gb, 3, none⟩ = some sg) from fun u hu => ⟨⟨(yA5.below hu).cell (j := 0) rfl, (yA5.below hu).cell (j := 1) rfl, (yA5.below hu).cell (j := 2) rfl, (yA5.below hu).cell (j := 3) rfl⟩, ⟨(yA5.below hu).frozen 0, (yA5.below hu).frozen 1, (yA5.below hu).frozen 2, (yA5.below hu).frozen 3⟩, (hr5.below hu).cell (j := 0) rfl, (hr5.below hu).cell (j := 1) rfl, (hr5.below hu).cell (j := 2) rfl, (hr5.below hu).cell (j := 3) rfl⟩)
          obtain ⟨⟨m0, m1, m2, m3⟩, ⟨f0, f1, f2, f3⟩, k0, k1, k2, k3⟩ := SK.out w5 (Below.refl _ _)
          have hdw : Below w5.heap.size w5 w5.drew := ⟨rfl, rfl, rfl, Nat.le_refl _, fun _ _ => rfl⟩
          clear hcl hD
          go_wp2_with fail
          go_region_law (go_simp; first
            | (go_at_call 9; refine (HP.out w8 _ hB8 (rd.out w8 (Below.refl _ _))).mono ?_; rintro e w9 ⟨ae, ne, ce, al, nl, cl, an, nn, cn, vx, rfl, r9, hB9⟩; obtain ⟨⟨m0, m1, m2, m3⟩, ⟨f0, f1, f2, f3⟩, k0, k1, k2, k3⟩ := SK.out w9 hB9)
            | (go_at_call 11; refine (HQ.out _ (by first | exact hdw | exact Below.refl _ _)).mono ?_; rintro e w8 ⟨ao4, no4, co4, ag4, ng4, cg4, rfl, rd, hb8, hB8⟩; obtain ⟨⟨m0, m1, m2, m3⟩, ⟨f0, f1, f2, f3⟩, k0, k1, k2, k3⟩ := SK.out w8 hB8))
          all_goals (
            have q10 := set4_row (v0 := .int .i64 D.1.1) (v1 := .slice ae ne ce) (v2 := .slice al nl cl) (v3 := .slice an nn cn) (yA5.below hB9)
            obtain ⟨w10, hw10⟩ : ∃ w10, w10 = (((w9.setCell ⟨bA, 0, none⟩ (.int .i64 D.1.1)).setCell ⟨bA, 1, none⟩ (.slice ae ne ce)).setCell ⟨bA, 2, none⟩ (.slice al nl cl)).setCell ⟨bA, 3, none⟩ (.slice an nn cn) := ⟨_, rfl⟩
            rw [← hw10] at q10 ⊢
            obtain ⟨y10, g10⟩ := q10
            have mv10 : Mv (fun k => k ≠ bA) (fun k => k ≠ bA) w9 w10 := fun k hk hlt => ⟨g10.block k hlt (fun e => hk (by injection e)), hk⟩
            have h19 := below_and hb15 (Nat.le_refl _) hB9
            clear hw10 m0 m1 m2 m3 f0 f1 f2 f3 k0 k1 k2 k3
            go_wp2_with fail
            go_roundw
            case rel => exact ⟨q + 1, D.1, _, by omega, by go_num, y10, (yB5.below hB9).grown g10 (fun e => by injection e with e; exact nAB e), mov_app _ _ _ _ _ _ r9 g10.size mv10, (rV5.mv (Mv.belowG hB9)).mv mv10, h19.trans (grown_below g10 h19.size (fun k hk => by cases hk; exact lA)), HNX⟩
            case measure => simp [intOf]; omega)
      · have hqd : decide ((q : Int) < N) = false := by simp; omega
        obtain ⟨S2, hSS⟩ : ∃ S2, S2 = applyA bq x := ⟨_, rfl⟩
        have xa := yA
        have xq := xqr
        have zb := rgt_sz HI.out.1
        have rSa : RApp Any wr [.int .i64 bq.1, ve', vl', vs'] bq := mov_app _ _ _ _ _ _ ⟨_, _, _, rfl, g1, g2, g3⟩ (Nat.le_refl _) Mv.any
        have H0 := (show Hid (∀ u, Below wr.heap.size wr u → RApp Any u [.int .i64 bq.1, ve', vl', vs'] bq) from fun u hu => rSa.below hu)
        have H1 := (show Hid (∀ u, Below wr.heap.size wr u → RReq Any u [.int .i64 x.1, .int .i64 x.2.1, vo, vg] x) from fun u hu => mov_req _ _ _ _ _ _ hxall (below_and Br le hu).size (Mv.below (below_and Br le hu)))
        have HC := (show Hid (∀ u, Below wr.heap.size wr u → Calls Try.prog 10 #[.agg #[.int .i64 bq.1, ve', vl', vs']] u fun e w' => ∃ ae ne ce al nl cl an nn cn, e = .returned (.agg #[.int .i64 bq.1, .slice ae ne ce, .slice al nl cl, .slice an nn cn]) ∧ Hid (∀ z, Below w'.heap.size w' z → RApp Any z [.int .i64 bq.1, .slice ae ne ce, .slice al nl cl, .slice an nn cn] bq) ∧ Below u.heap.size u w' ∧ Below wr.heap.size wr w') from fun u hu => (refCopyA_any u _ bq (H0.out u hu) zb).mono fun e w' ⟨r', e1, e2, e3⟩ => by
          have e2' := mov_app _ _ _ _ _ _ e2 (Nat.le_refl _) Mv.any
          obtain ⟨ve', vl', vs', rfl, t1, t2, t3⟩ := e2
          obtain ⟨ae, ce, rfl, _⟩ := t1.form
          obtain ⟨al, cl, rfl, _⟩ := t2.form
          obtain ⟨an, cn, rfl, _⟩ := t3.form
          exact ⟨ae, _, ce, al, _, cl, an, _, cn, e1, fun z hz => e2'.below hz, e3, below_and hu (Nat.le_refl _) e3⟩)
        have HQ := (show Hid (∀ u, Below wr.heap.size wr u → Calls Try.prog 11 #[.agg #[.int .i64 x.1, .int .i64 x.2.1, vo, vg]] u fun e w' => ∃ ao no co ag ng cg, e = .returned (.agg #[.int .i64 x.1, .int .i64 x.2.1, .slice ao no co, .slice ag ng cg]) ∧ Hid (∀ z, Below w'.heap.size w' z → RReq Any z [.int .i64 x.1, .int .i64 x.2.1, .slice ao no co, .slice ag ng cg] x) ∧ Below u.heap.size u w' ∧ Below wr.heap.size wr w') from fun u hu => (copyReq_any u _ x (H1.out u hu) z1).mono fun e w' ⟨r', e1, e2, e3⟩ => by
          have e2' := mov_req _ _ _ _ _ _ e2 (Nat.le_refl _) Mv.any
          obtain ⟨vo', vg', rfl, t1, t2⟩ := e2
          obtain ⟨ao, co, rfl, _⟩ := t1.form
          obtain ⟨ag, cg, rfl, _⟩ := t2.form
          exact ⟨ao, _, co, ag, _, cg, e1, fun z hz => mov_req _ _ _ _ _ _ e2' hz.size (Mv.below hz), e3, below_and hu (Nat.le_refl _) e3⟩)
        have HP := (show Hid (∀ (u : World) (r3 r4 : List Value), Below wr.heap.size wr u → RApp Any u r3 bq → RReq Any u r4 x → Calls Try.prog 9 #[.agg r3.toArray, .agg r4.toArray] u fun e w' => ∃ ae ne ce al nl cl an nn cn ax nx cx, e = .returned (.tuple #[.agg #[.int .i64 S2.1.1, .slice ae ne ce, .slice al nl cl, .slice an nn cn], .agg #[.int .i64 S2.2.1.1, .slice ax nx cx], .bool S2.2.2]) ∧ Hid (∀ z : World, w'.heap.size ≤ z.heap.size → (∀ j, u.heap.size ≤ j → j < w'.heap.size → z.heap[j]? = w'.heap[j]?) → RApp (Rng u.heap.size w'.heap.size) z [.int .i64 S2.1.1, .slice ae ne ce, .slice al nl cl, .slice an nn cn] S2.1 ∧ RT (Rng u.heap.size w'.heap.size) z (.slice ax nx cx) S2.2.1.2) ∧ Below u.heap.size u w' ∧ Below wr.heap.size wr w') from fun u r3 r4 hu g3 g4 => by
          rw [hSS]
          refine (apply_any u r3 bq g3 zb r4 x g4 z1).mono ?_
          rintro e w' ⟨row, vv, rfl, ⟨ve', vl', vs', rfl, t1, t2, t3⟩, t4, hb⟩
          obtain ⟨ae, ce, rfl, _⟩ := (Re.rl t1).form
          obtain ⟨al, cl, rfl, _⟩ := (Rz.rl t2).form
          obtain ⟨an, cn, rfl, _⟩ := (Rn.rl t3).form
          obtain ⟨ax, cx, rfl, _⟩ := t4.rt.form
          refine ⟨ae, _, ce, al, _, cl, an, _, cn, ax, _, cx, rfl, fun z hz hk => ⟨⟨_, _, _, rfl, (rl_rng ent_rng ((t1.rl mov_oent).ent)).mv mov_ent hz (fun j hj _ => ⟨hk j hj.1 hj.2, hj⟩), (rl_rng lea_rng ((t2.rl mov_olea).lea)).mv mov_lea hz (fun j hj _ => ⟨hk j hj.1 hj.2, hj⟩), (rl_rng ses_rng ((t3.rl mov_oses).ses)).mv mov_ses hz (fun j hj _ => ⟨hk j hj.1 hj.2, hj⟩)⟩, (rt_rng t4.rt).mv (fun j hj _ => ⟨hk j hj.1 hj.2, hj⟩)⟩, hb, below_and hu (Nat.le_refl _) hb⟩)
        have HAG := (show Hid (S2 = ((bq.1 + 1, bq.2), (S.2.1.1, S.2.1.2), false)) by
          show _ = _
          rw [hSS]
          have hs := HI.out.2.2.1
          have hs9 := HA9.out
          exact again HI.out.2.1 ⟨HI.out.1, by omega⟩ HOK.out HI.out.2.2.2)
        have hb0 : 0 ≤ bq.1 := HI.out.1.1.1
        have hb1 : bq.1 ≤ 1000000 := HI.out.1.1.2
        clear hSS
        go_upto_region 12 with fail
        have SK := (show Hid (∀ u, Below wr.heap.size wr u → u.cell? ⟨bA, 0, none⟩ = some (.int .i64 bq.1) ∧ u.cell? ⟨bA, 1, none⟩ = some (ve') ∧ u.cell? ⟨bA, 2, none⟩ = some (vl') ∧ u.cell? ⟨bA, 3, none⟩ = some (vs') ∧ u.cell? ⟨w.heap.size + 1, 0, none⟩ = some (.int .i64 x.1) ∧ u.cell? ⟨w.heap.size + 1, 1, none⟩ = some (.int .i64 x.2.1) ∧ u.cell? ⟨w.heap.size + 1, 2, none⟩ = some (vo) ∧ u.cell? ⟨w.heap.size + 1, 3, none⟩ = some (vg)) from fun u hu => ⟨(xa.below hu).cell (j := 0) rfl, (xa.below hu).cell (j := 1) rfl, (xa.below hu).cell (j := 2) rfl, (xa.below hu).cell (j := 3) rfl, (xq.below hu).cell (j := 0) rfl, (xq.below hu).cell (j := 1) rfl, (xq.below hu).cell (j := 2) rfl, (xq.below hu).cell (j := 3) rfl⟩)
        have hdw : Below wr.heap.size wr wr.drew := ⟨rfl, rfl, rfl, Nat.le_refl _, fun _ _ => rfl⟩
        have hdA : Below wr.heap.size wr (wr.alloc (.cells ([.int .i64 0, .slice none 0 0, .slice none 0 0, .slice none 0 0] : List Value).toArray 31)).drew := (below_alloc _ _).drew
        have hdB : Below wr.heap.size wr (wr.alloc (.cells ([.int .i64 0, .slice none 0 0] : List Value).toArray 24)).drew := (below_alloc _ _).drew
        have hdAB : Below wr.heap.size wr ((wr.alloc (.cells ([.int .i64 0, .slice none 0 0, .slice none 0 0, .slice none 0 0] : List Value).toArray 31)).alloc (.cells ([.int .i64 0, .slice none 0 0] : List Value).toArray 24)).drew := (below_and (below_alloc _ _) (Nat.le_refl _) (below_alloc _ _)).drew
        have hdBA : Below wr.heap.size wr ((wr.alloc (.cells ([.int .i64 0, .slice none 0 0] : List Value).toArray 24)).alloc (.cells ([.int .i64 0, .slice none 0 0, .slice none 0 0, .slice none 0 0] : List Value).toArray 31)).drew := (below_and (below_alloc _ _) (Nat.le_refl _) (below_alloc _ _)).drew
        try go_simp
        go_cut [12, 13, 14] from 15 (fun sA sB sC wx => ∃ (bA bB : Nat) (rb : List Value) (vv : Value), sA = .pointer (some ⟨bA, 0, none⟩) ∧ sB = .pointer (some ⟨bB, 0, none⟩) ∧ sC = .bool S2.2.2 ∧ Row wx bA 31 rb ∧ Row wx bB 24 [.int .i64 S2.2.1.1, vv] ∧ RApp (fun k => k ≠ bA ∧ wr.heap.size ≤ k) wx rb S2.1 ∧ RT (fun k => k ≠ bA ∧ wr.heap.size ≤ k) wx vv S2.2.1.2 ∧ wr.heap.size ≤ bA ∧ wr.heap.size ≤ bB ∧ Below wr.heap.size wr wx)
        case first =>
          go_wp2_with fail
          go_region_held3 (fun u => u.cell? ⟨bA, 0, none⟩ = some (.int .i64 bq.1) ∧ u.cell? ⟨bA, 1, none⟩ = some (ve') ∧ u.cell? ⟨bA, 2, none⟩ = some (vl') ∧ u.cell? ⟨bA, 3, none⟩ = some (vs') ∧ u.cell? ⟨w.heap.size + 1, 0, none⟩ = some (.int .i64 x.1) ∧ u.cell? ⟨w.heap.size + 1, 1, none⟩ = some (.int .i64 x.2.1) ∧ u.cell? ⟨w.heap.size + 1, 2, none⟩ = some (vo) ∧ u.cell? ⟨w.heap.size + 1, 3, none⟩ = some (vg))
            (first | (with_reducible exact SK.out w5 hB5) | (with_reducible exact SK.out w4 hB4) | (with_reducible exact SK.out w3 hB3) | (with_reducible exact SK.out (w5.alloc _) (bel_al hB5)) | (with_reducible exact SK.out ((w5.alloc _).alloc _) (bel_al (bel_al hB5))) | (with_reducible exact SK.out (w4.alloc _) (bel_al hB4)) | (with_reducible exact SK.out ((w4.alloc _).alloc _) (bel_al (bel_al hB4))) | (with_reducible exact SK.out (w3.alloc _) (bel_al hB3)) | (with_reducible exact SK.out ((w3.alloc _).alloc _) (bel_al (bel_al hB3))) | (with_reducible exact SK.out ((((w5.setCell _ _).setCell _ _).setCell _ _).setCell _ _) (bel_st (bel_st (bel_st (bel_st hB5 (by omega)) (by omega)) (by omega)) (by omega))) | (with_reducible exact SK.out (((((w5.alloc _).setCell _ _).setCell _ _).setCell _ _).setCell _ _) (bel_st (bel_st (bel_st (bel_st (bel_al hB5) (by omega)) (by omega)) (by omega)) (by omega))) | (with_reducible exact SK.out ((((((w5.setCell _ _).setCell _ _).setCell _ _).setCell _ _).setCell _ _).setCell _ _) (bel_st (bel_st (bel_st (bel_st (bel_st (bel_st hB5 (by omega)) (by omega)) (by omega)) (by omega)) (by omega)) (by omega))) | (with_reducible exact SK.out (((((((w5.alloc _).setCell _ _).setCell _ _).setCell _ _).setCell _ _).setCell _ _).setCell _ _) (bel_st (bel_st (bel_st (bel_st (bel_st (bel_st (bel_al hB5) (by omega)) (by omega)) (by omega)) (by omega)) (by omega)) (by omega))) | (with_reducible exact SK.out (((((w5.setCell _ _).setCell _ _).setCell _ _).setCell _ _).alloc _) (bel_al (bel_st (bel_st (bel_st (bel_st hB5 (by omega)) (by omega)) (by omega)) (by omega)))) | (with_reducible exact SK.out ((w5.setCell _ _).setCell _ _) (bel_st (bel_st hB5 (by omega)) (by omega))) | (with_reducible exact SK.out (((w5.alloc _).setCell _ _).setCell _ _) (bel_st (bel_st (bel_al hB5) (by omega)) (by omega))) | (with_reducible exact SK.out (((w5.setCell _ _).setCell _ _).alloc _) (bel_al (bel_st (bel_st hB5 (by omega)) (by omega)))) | (with_reducible exact SK.out ((((((w5.setCell _ _).setCell _ _).setCell _ _).setCell _ _).setCell _ _).setCell _ _) (bel_st (bel_st (bel_st (bel_st (bel_st (bel_st hB5 (by omega)) (by omega)) (by omega)) (by omega)) (by omega)) (by omega))) | (with_reducible exact SK.out (((((((w5.setCell _ _).setCell _ _).alloc _).setCell _ _).setCell _ _).setCell _ _).setCell _ _) (bel_st (bel_st (bel_st (bel_st (bel_al (bel_st (bel_st hB5 (by omega)) (by omega))) (by omega)) (by omega)) (by omega)) (by omega))) | (with_reducible exact SK.out wr.drew hdw) | (with_reducible exact SK.out (wr.alloc _).drew hdA) | (with_reducible exact SK.out (wr.alloc _).drew hdB) | (with_reducible exact SK.out ((wr.alloc _).alloc _).drew hdAB) | (with_reducible exact SK.out ((wr.alloc _).alloc _).drew hdBA) | go_keep)
            (first
              | (go_at_call 9; refine (HP.out _ _ _ (by repeat (first | (with_reducible exact hB5) | (with_reducible exact hB4) | (with_reducible exact hB3) | (with_reducible exact Below.refl _ _) | (with_reducible exact hdw) | (with_reducible exact hdA) | (with_reducible exact hdB) | (with_reducible exact hdAB) | (with_reducible exact hdBA) | (with_reducible refine bel_al ?_) | (with_reducible refine bel_ch ?_ hb5) | (with_reducible refine bel_ch ?_ hb4) | (with_reducible refine bel_ch ?_ hb3) | (with_reducible refine bel_st ?_ ?_) | omega)) (rc.out _ (by repeat (first | (with_reducible exact hB5) | (with_reducible exact hB4) | (with_reducible exact hB3) | (with_reducible exact Below.refl _ _) | (with_reducible exact hdw) | (with_reducible exact hdA) | (with_reducible exact hdB) | (with_reducible exact hdAB) | (with_reducible exact hdBA) | (with_reducible refine bel_al ?_) | (with_reducible refine bel_ch ?_ hb5) | (with_reducible refine bel_ch ?_ hb4) | (with_reducible refine bel_ch ?_ hb3) | (with_reducible refine bel_st ?_ ?_) | omega))) (rd.out _ (by repeat (first | (with_reducible exact hB5) | (with_reducible exact hB4) | (with_reducible exact hB3) | (with_reducible exact Below.refl _ _) | (with_reducible exact hdw) | (with_reducible exact hdA) | (with_reducible exact hdB) | (with_reducible exact hdAB) | (with_reducible exact hdBA) | (with_reducible refine bel_al ?_) | (with_reducible refine bel_ch ?_ hb5) | (with_reducible refine bel_ch ?_ hb4) | (with_reducible refine bel_ch ?_ hb3) | (with_reducible refine bel_st ?_ ?_) | omega)))).mono ?_; rintro e w5 ⟨ae, ne, ce, al, nl, cl, an, nn, cn, ax, nx, cx, rfl, rp, hb5, hB5⟩; (first | (with_reducible have qA := (Row.new _ 31 [.int .i64 0, .slice none 0 0, .slice none 0 0, .slice none 0 0]).below hb5) | (with_reducible have qA := (rowA (Row.new _ 31 [.int .i64 0, .slice none 0 0, .slice none 0 0, .slice none 0 0]) (.cells ([.int .i64 0, .slice none 0 0] : List Value).toArray 24)).below hb5) | (with_reducible have qA := (Row.new _ 31 [.int .i64 0, .slice none 0 0, .slice none 0 0, .slice none 0 0]).drew.below hb5) | (with_reducible have qA := (rowA (Row.new _ 31 [.int .i64 0, .slice none 0 0, .slice none 0 0, .slice none 0 0]) (.cells ([.int .i64 0, .slice none 0 0] : List Value).toArray 24)).drew.below hb5) | (with_reducible have qA := qA.below hb5) | (with_reducible have qA := (qA.below (below_alloc _ _)).below hb5) | skip); (first | (with_reducible rw [alloc_size] at qA) | skip); (first | (with_reducible rw [drew_size] at qA) | skip); (first | (with_reducible have qB := (Row.new _ 24 [.int .i64 0, .slice none 0 0]).below hb5) | (with_reducible have qB := (rowA (Row.new _ 24 [.int .i64 0, .slice none 0 0]) (.cells ([.int .i64 0, .slice none 0 0, .slice none 0 0, .slice none 0 0] : List Value).toArray 31)).below hb5) | (with_reducible have qB := (Row.new _ 24 [.int .i64 0, .slice none 0 0]).drew.below hb5) | (with_reducible have qB := (rowA (Row.new _ 24 [.int .i64 0, .slice none 0 0]) (.cells ([.int .i64 0, .slice none 0 0, .slice none 0 0, .slice none 0 0] : List Value).toArray 31)).drew.below hb5) | (with_reducible have qB := qB.below hb5) | (with_reducible have qB := (qB.below (below_alloc _ _)).below hb5) | skip); (first | (with_reducible rw [alloc_size] at qB) | skip); (first | (with_reducible rw [drew_size] at qB) | skip); (first | (have qa0 := qA.cell (j := 0) rfl; have qa1 := qA.cell (j := 1) rfl; have qa2 := qA.cell (j := 2) rfl; have qa3 := qA.cell (j := 3) rfl; have pa0 := qA.frozen 0; have pa1 := qA.frozen 1; have pa2 := qA.frozen 2; have pa3 := qA.frozen 3) | skip); (first | (have qb0 := qB.cell (j := 0) rfl; have qb1 := qB.cell (j := 1) rfl; have pb0 := qB.frozen 0; have pb1 := qB.frozen 1) | skip); have hB5s := hB5.size; (first | (have nA := Nat.ne_of_lt qA.lt; have QA := qA.below (below_alloc w5 (.cells ([.int .i64 0, .slice none 0 0] : List Value).toArray 24)); have ra0 := QA.cell (j := 0) rfl; have ra1 := QA.cell (j := 1) rfl; have ra2 := QA.cell (j := 2) rfl; have ra3 := QA.cell (j := 3) rfl; have ua0 := QA.frozen 0; have ua1 := QA.frozen 1; have ua2 := QA.frozen 2; have ua3 := QA.frozen 3) | skip); (first | (have nB := Nat.ne_of_lt qB.lt; have QB := qB.below (below_alloc w5 (.cells ([.int .i64 0, .slice none 0 0, .slice none 0 0, .slice none 0 0] : List Value).toArray 31)); have rb0 := QB.cell (j := 0) rfl; have rb1 := QB.cell (j := 1) rfl; have ub0 := QB.frozen 0; have ub1 := QB.frozen 1) | skip); (first | (have nAB := Row.apart qA qB (by decide); have nBA := Ne.symm nAB; have QC := qB.grown (g4 (v0 := .int .i64 S2.1.1) (v1 := .slice ae ne ce) (v2 := .slice al nl cl) (v3 := .slice an nn cn) w5 _) (ne_of nAB); have rc0 := QC.cell (j := 0) rfl; have rc1 := QC.cell (j := 1) rfl; have uc0 := QC.frozen 0; have uc1 := QC.frozen 1) | skip); (first | (have QD := qB.below (below_alloc w5 (.cells ([.int .i64 S2.1.1, .slice ae ne ce, .slice al nl cl, .slice an nn cn] : List Value).toArray 31)); have rd0 := QD.cell (j := 0) rfl; have rd1 := QD.cell (j := 1) rfl; have ud0 := QD.frozen 0; have ud1 := QD.frozen 1) | skip))
              | (go_at_call 11; refine (HQ.out _ (by repeat (first | (with_reducible exact hB5) | (with_reducible exact hB4) | (with_reducible exact hB3) | (with_reducible exact Below.refl _ _) | (with_reducible exact hdw) | (with_reducible exact hdA) | (with_reducible exact hdB) | (with_reducible exact hdAB) | (with_reducible exact hdBA) | (with_reducible refine bel_al ?_) | (with_reducible refine bel_ch ?_ hb5) | (with_reducible refine bel_ch ?_ hb4) | (with_reducible refine bel_ch ?_ hb3) | (with_reducible refine bel_st ?_ ?_) | omega))).mono ?_; rintro e w4 ⟨ao4, no4, co4, ag4, ng4, cg4, rfl, rd, hb4, hB4⟩; (first | (with_reducible have qA := (Row.new _ 31 [.int .i64 0, .slice none 0 0, .slice none 0 0, .slice none 0 0]).below hb4) | (with_reducible have qA := (rowA (Row.new _ 31 [.int .i64 0, .slice none 0 0, .slice none 0 0, .slice none 0 0]) (.cells ([.int .i64 0, .slice none 0 0] : List Value).toArray 24)).below hb4) | (with_reducible have qA := (Row.new _ 31 [.int .i64 0, .slice none 0 0, .slice none 0 0, .slice none 0 0]).drew.below hb4) | (with_reducible have qA := (rowA (Row.new _ 31 [.int .i64 0, .slice none 0 0, .slice none 0 0, .slice none 0 0]) (.cells ([.int .i64 0, .slice none 0 0] : List Value).toArray 24)).drew.below hb4) | (with_reducible have qA := qA.below hb4) | (with_reducible have qA := (qA.below (below_alloc _ _)).below hb4) | skip); (first | (with_reducible rw [alloc_size] at qA) | skip); (first | (with_reducible rw [drew_size] at qA) | skip); (first | (with_reducible have qB := (Row.new _ 24 [.int .i64 0, .slice none 0 0]).below hb4) | (with_reducible have qB := (rowA (Row.new _ 24 [.int .i64 0, .slice none 0 0]) (.cells ([.int .i64 0, .slice none 0 0, .slice none 0 0, .slice none 0 0] : List Value).toArray 31)).below hb4) | (with_reducible have qB := (Row.new _ 24 [.int .i64 0, .slice none 0 0]).drew.below hb4) | (with_reducible have qB := (rowA (Row.new _ 24 [.int .i64 0, .slice none 0 0]) (.cells ([.int .i64 0, .slice none 0 0, .slice none 0 0, .slice none 0 0] : List Value).toArray 31)).drew.below hb4) | (with_reducible have qB := qB.below hb4) | (with_reducible have qB := (qB.below (below_alloc _ _)).below hb4) | skip); (first | (with_reducible rw [alloc_size] at qB) | skip); (first | (with_reducible rw [drew_size] at qB) | skip); have hB4s := hB4.size)
              | (go_at_call 10; refine (HC.out _ (by repeat (first | (with_reducible exact hB5) | (with_reducible exact hB4) | (with_reducible exact hB3) | (with_reducible exact Below.refl _ _) | (with_reducible exact hdw) | (with_reducible exact hdA) | (with_reducible exact hdB) | (with_reducible exact hdAB) | (with_reducible exact hdBA) | (with_reducible refine bel_al ?_) | (with_reducible refine bel_ch ?_ hb5) | (with_reducible refine bel_ch ?_ hb4) | (with_reducible refine bel_ch ?_ hb3) | (with_reducible refine bel_st ?_ ?_) | omega))).mono ?_; rintro e w3 ⟨ae3, ne3, ce3, al3, nl3, cl3, an3, nn3, cn3, rfl, rc, hb3, hB3⟩; (first | (with_reducible have qA := (Row.new _ 31 [.int .i64 0, .slice none 0 0, .slice none 0 0, .slice none 0 0]).below hb3) | (with_reducible have qA := (rowA (Row.new _ 31 [.int .i64 0, .slice none 0 0, .slice none 0 0, .slice none 0 0]) (.cells ([.int .i64 0, .slice none 0 0] : List Value).toArray 24)).below hb3) | (with_reducible have qA := (Row.new _ 31 [.int .i64 0, .slice none 0 0, .slice none 0 0, .slice none 0 0]).drew.below hb3) | (with_reducible have qA := (rowA (Row.new _ 31 [.int .i64 0, .slice none 0 0, .slice none 0 0, .slice none 0 0]) (.cells ([.int .i64 0, .slice none 0 0] : List Value).toArray 24)).drew.below hb3) | (with_reducible have qA := qA.below hb3) | (with_reducible have qA := (qA.below (below_alloc _ _)).below hb3) | skip); (first | (with_reducible rw [alloc_size] at qA) | skip); (first | (with_reducible rw [drew_size] at qA) | skip); (first | (with_reducible have qB := (Row.new _ 24 [.int .i64 0, .slice none 0 0]).below hb3) | (with_reducible have qB := (rowA (Row.new _ 24 [.int .i64 0, .slice none 0 0]) (.cells ([.int .i64 0, .slice none 0 0, .slice none 0 0, .slice none 0 0] : List Value).toArray 31)).below hb3) | (with_reducible have qB := (Row.new _ 24 [.int .i64 0, .slice none 0 0]).drew.below hb3) | (with_reducible have qB := (rowA (Row.new _ 24 [.int .i64 0, .slice none 0 0]) (.cells ([.int .i64 0, .slice none 0 0, .slice none 0 0, .slice none 0 0] : List Value).toArray 31)).drew.below hb3) | (with_reducible have qB := qB.below hb3) | (with_reducible have qB := (qB.below (below_alloc _ _)).below hb3) | skip); (first | (with_reducible rw [alloc_size] at qB) | skip); (first | (with_reducible rw [drew_size] at qB) | skip); have hB3s := hB3.size))
          all_goals (
            first
              | (obtain ⟨Z, hZ, F⟩ := fin_bb (v0 := .int .i64 S2.1.1) (v1 := .slice ae ne ce) (v2 := .slice al nl cl) (v3 := .slice an nn cn) (c := .int .i64 S2.2.1.1) (v := .slice ax nx cx) rfl rfl qA qB; rw [← hZ]; clear hZ)
              | (obtain ⟨Z, hZ, F⟩ := fin_bn (y0 := .int .i64 0) (y1 := .slice none 0 0) (v0 := .int .i64 S2.1.1) (v1 := .slice ae ne ce) (v2 := .slice al nl cl) (v3 := .slice an nn cn) (c := .int .i64 S2.2.1.1) (v := .slice ax nx cx) rfl qA; rw [← hZ]; clear hZ)
              | (obtain ⟨Z, hZ, F⟩ := fin_nb (v0 := .int .i64 S2.1.1) (v1 := .slice ae ne ce) (v2 := .slice al nl cl) (v3 := .slice an nn cn) (c := .int .i64 S2.2.1.1) (v := .slice ax nx cx) rfl qB; rw [← hZ]; clear hZ)
              | (obtain ⟨Z, hZ, F⟩ := fin_nn (w5 := w5) (v0 := .int .i64 S2.1.1) (v1 := .slice ae ne ce) (v2 := .slice al nl cl) (v3 := .slice an nn cn) (c := .int .i64 S2.2.1.1) (v := .slice ax nx cx); rw [← hZ]; clear hZ)
              | (obtain ⟨Z, hZ, F⟩ := fin_nn' (w5 := w5) (v0 := .int .i64 S2.1.1) (v1 := .slice ae ne ce) (v2 := .slice al nl cl) (v3 := .slice an nn cn) (c := .int .i64 S2.2.1.1) (v := .slice ax nx cx); rw [← hZ]; clear hZ)
            have y3 := hb3.size
            have y4 := hb4.size
            have y5 := hb5.size
            try simp at y3
            try simp at y4
            try simp at y5
            have RF := rp.out Z F.size (fun j h1 h2 => F.block j h2 (by (try simp at h1); omega) (by (try simp at h1); omega))
            have hbZ := F.bel hB5 (Nat.le_refl _) (by omega) (by omega)
            have R1 := F.ras (N := wr.heap.size) RF.1 (by (try simp only [alloc_size, drew_size]); omega)
            have R2 := F.rts (N := wr.heap.size) RF.2 (by (try simp only [alloc_size, drew_size]); omega)
            go_wp2_with fail
            go_meet
            case rel => exact ⟨_, _, _, _, rfl, rfl, rfl, F.a, F.b, R1, R2, by omega, by omega, hbZ⟩)
        case rest =>
          clear HC HQ HP SK hdw hdA hdB hdAB hdBA H0 H1
          obtain ⟨bC, bD, rc, vc, rfl, rfl, rfl, yC, yD, rC, rD, lC, lD, hbd⟩ := hcut
          have e1 : S2.1 = (bq.1 + 1, bq.2) := by rw [HAG.out]
          have e2 : S2.2.2 = false := by rw [HAG.out]
          have e3 : S2.2.1.1 = S.2.1.1 := by rw [HAG.out]
          have e4 : S2.2.1.2 = S.2.1.2 := by rw [HAG.out]
          rw [e3] at yD
          rw [e4] at rD
          rw [e1] at rC
          rw [e2]
          obtain ⟨vec, vlc, vsc, rfl, u1, u2, u3⟩ := rC
          have yAd := yA.below hbd
          have yBd := yB.below hbd
          have hltA := yA.lt
          have hltB := yB.lt
          have c0 := yAd.cell (j := 0) rfl
          clear e1 e2 e3 e4 HAG
          go_upto_region 14 with (refine wl_set rfl _ _ _ rfl bA 0 _ rfl rfl _ _ yAd (show 0 < 4 by decide) (by kernel_rfl) rfl ?_; intro w20 hr20 hg20)
          have y20 : Row w20 bA 31 [.int .i64 (bq.1 + 1), ve', vl', vs'] := hr20.out
          have yC20 := yC.grown hg20 (fun e => by injection e with e; omega)
          have yB20 := yBd.grown hg20 (fun e => by injection e with e; omega)
          have yD20 := yD.grown hg20 (fun e => by injection e with e; omega)
          have mvA : Mv (fun k => k ≠ bA) Any wc w20 := fun k hk hlt => ⟨hg20.block k hlt (fun e => hk (by injection e)), trivial⟩
          have mvC : Mv (fun k => k ≠ bC ∧ wr.heap.size ≤ k) Any wc w20 := fun k hk hlt => ⟨hg20.block k hlt (fun e => by injection e with e; have := hk.2; omega), trivial⟩
          have rA20 : RApp Any w20 [.int .i64 (bq.1 + 1), ve', vl', vs'] (bq.1 + 1, bq.2) := ⟨_, _, _, rfl, (g1.mv mov_ent hbd.size (Mv.belowG hbd)).mv mov_ent hg20.size mvA, (g2.mv mov_lea hbd.size (Mv.belowG hbd)).mv mov_lea hg20.size mvA, (g3.mv mov_ses hbd.size (Mv.belowG hbd)).mv mov_ses hg20.size mvA⟩
          have rC20 : RApp Any w20 [.int .i64 (bq.1 + 1), vec, vlc, vsc] (bq.1 + 1, bq.2) := ⟨_, _, _, rfl, u1.mv mov_ent hg20.size mvC, u2.mv mov_lea hg20.size mvC, u3.mv mov_ses hg20.size mvC⟩
          have rV20 := ((rV.mv (Mv.belowG hbd)).mv mvA).1
          have rD20 := (rD.mv mvC).1
          have B20 : Below w.heap.size w w20 := (below_and Br le hbd).trans (grown_below hg20 (below_and Br le hbd).size (fun k hk => by cases hk; omega))
          have hSR := sameR_eq w20 S.2.1.1 vv vc S.2.1.2 rV20 rD20
          have HSA := (show Hid (∀ u, Below w20.heap.size w20 u → Calls Try.prog 13 #[.agg #[.int .i64 (bq.1 + 1), ve', vl', vs'], .agg #[.int .i64 (bq.1 + 1), vec, vlc, vsc]] u fun e w' => e = .returned (.bool true) ∧ Below u.heap.size u w') from fun u hu => sameA_eq u _ _ _ (rA20.below hu) (rC20.below hu))
          clear hr20 hg20 yC yD yBd yAd c0 u1 u2 u3 g1 g2 g3 mvA mvC rA20 rC20 rV20 rD20 rD rV
          go_wp2_with (first
            | (refine wl_load_w (by rfl) _ _ rfl bB rfl _ _ yB20 _ Try.underlying24 rfl (by kernel_rfl) ?_)
            | (refine wl_load_w (by rfl) _ _ rfl bD rfl _ _ yD20 _ Try.underlying24 rfl (by kernel_rfl) ?_)
            | (go_at_call 12; refine hSR.mono ?_; rintro e w21 ⟨rfl, hb21⟩; have y21 := y20.below hb21; have yC21 := yC20.below hb21)
            | (refine wl_load_w (by rfl) _ _ rfl bA rfl _ _ y21 _ Try.underlying31 rfl (by kernel_rfl) ?_)
            | (refine wl_load_w (by rfl) _ _ rfl bC rfl _ _ yC21 _ Try.underlying31 rfl (by kernel_rfl) ?_)
            | (go_at_call 13; refine (HSA.out w21 hb21).mono ?_; rintro e w22 ⟨rfl, hb22⟩))
          go_ret
          exact ⟨rfl, below_and (below_and B20 le hb21) le hb22⟩
end Go.Proofs.Ytmmcgafmhadioaa
end
