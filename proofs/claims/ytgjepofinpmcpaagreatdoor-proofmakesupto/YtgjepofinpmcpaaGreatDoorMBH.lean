/- The document's writing: reports. -/
import Derived.Test.YtgjepofinpmcpaaGreatDoorMBE
set_option linter.unusedSimpArgs false
set_option linter.unusedVariables false
namespace Go.Proofs.YtgjepofinpmcpaaGreatDoor
open Go.RowKit Oct
theorem zF4 (y : zB3) : (zBc.wr y).length ≤ 20 * bQ y := by
  show (zCm y.1 ++ (zCm y.2.1 ++ (cT.wr y.2.2.1 ++ cT.wr y.2.2.2))).length ≤ _
  have h1 := zBl y.1
  have h2 := zBl y.2.1
  have h3 := zP7 y.2.2.1
  have h4 := zP7 y.2.2.2
  simp only [List.length_append, bQ, bT]
  omega
theorem zG0 {α : Type} (c : Cdc α) {f : α → Nat} (h : ∀ y, (c.wr y).length ≤ 20 * f y) (ys : List α) : ((cL c).wr ys).length ≤ 20 * bL f ys := by
  have := zI7 c h [] ys ys.length
  rw [zHv] at this
  simpa using this
theorem zHz (y : zCo) : (zAo.wr y).length ≤ 20 * bP y := by
  show (zCm y.1 ++ ((zCm y.2.1.1 ++ zCm y.2.1.2) ++ (zBc.wr y.2.2.1 ++ (cL zAi).wr y.2.2.2))).length ≤ _
  have h1 := zBl y.1
  have h2 := zBl y.2.1.1
  have h3 := zBl y.2.1.2
  have h4 := zF4 y.2.2.1
  have h5 := zG0 zAi zDl y.2.2.2
  simp only [List.length_append, bP]
  omega
theorem zAu {u : World} {b : Nat} {x y v : Value} {a : Addr} (h : u.cell? a = some v) (hn : ¬ (a.block = b)) : ((u.setCell ⟨b, 0, none⟩ x).setCell ⟨b, 1, none⟩ y).cell? a = some v := by
  have hg : u.grownBy ((u.setCell ⟨b, 0, none⟩ x).setCell ⟨b, 1, none⟩ y) (some b) := zA2 (zAd u b 0 x) (zAd _ b 1 y) (.inl rfl)
  rw [World.cell?_of_block (w := u) (w' := (u.setCell ⟨b, 0, none⟩ x).setCell ⟨b, 1, none⟩ y) (a := a) (hg.block a.block (World.block_lt_of_cell? u a h) (fun e => hn (Option.some.inj e)))]
  exact h
theorem zBk (n : Int) : (cN.wr n).length ≤ 10 := by
  have := zBl n
  show (zCm n).length ≤ 10
  omega
theorem cT_b (t : List Int) : (cT.wr t).length ≤ 20 * bT t := by
  have := zP7 t
  simp only [bT]
  omega
set_option maxRecDepth 10000 in
set_option maxHeartbeats 4000000 in
theorem zK5 (w0 w : World) (sv : Value) (bad : Bool) (L : List Int) (r : List Value) (x : zF8) (hB0 : Below w0.heap.size w0 w) (hf : Fr w0.heap.size sv) (hown : Own w 5 sv (bc L)) (hr : zDo Any w0 r x) (hl : L.length + bR x * 20 ≤ 140719000000000) (hz : bR x ≤ 2000000) :
    Calls Tryz.prog 105 #[.agg #[sv, .bool bad], .agg r.toArray] w (zCb zBr x w sv bad L) := by
  obtain ⟨vd, vs, vp, vg, rfl, hd, hs, hp, hg⟩ := hr
  obtain ⟨apv, cpv, rfl, hcpv⟩ := hp.form
  obtain ⟨a2, hw2⟩ : ∃ a2, a2 = (w.alloc (.cells #[sv, .bool bad] 109)).alloc (.cells #[.int .i64 x.1.1, .int .i64 x.1.2, .int .i64 x.2.1, .int .i64 x.2.2.1, vd, vs, .slice apv x.2.2.2.2.2.1.length cpv, vg] 68) := ⟨_, rfl⟩
  obtain ⟨w2, hw3⟩ : ∃ w2, w2 = a2.alloc (.cells #[.slice none 0 0, .bool false] 109) := ⟨_, rfl⟩
  have hs2 : a2.heap.size = w.heap.size + 2 := by rw [hw2]; simp
  have ra' : Row a2 w.heap.size 109 [sv, .bool bad] := by rw [hw2]; exact zA4 (Row.new w _ _) _
  have rb' : Row a2 (w.heap.size + 1) 68 [.int .i64 x.1.1, .int .i64 x.1.2, .int .i64 x.2.1, .int .i64 x.2.2.1, vd, vs, .slice apv x.2.2.2.2.2.1.length cpv, vg] := by
    rw [hw2]
    have := Row.new (w.alloc (.cells #[sv, .bool bad] 109)) 68 [.int .i64 x.1.1, .int .i64 x.1.2, .int .i64 x.2.1, .int .i64 x.2.2.1, vd, vs, .slice apv x.2.2.2.2.2.1.length cpv, vg]
    simpa using this
  have ra : Row w2 w.heap.size 109 [sv, .bool bad] := by rw [hw3]; exact zA4 ra' _
  have rb : Row w2 (w.heap.size + 1) 68 [.int .i64 x.1.1, .int .i64 x.1.2, .int .i64 x.2.1, .int .i64 x.2.2.1, vd, vs, .slice apv x.2.2.2.2.2.1.length cpv, vg] := by rw [hw3]; exact zA4 rb' _
  have rr : Row w2 (w.heap.size + 2) 109 [.slice none 0 0, .bool false] := by
    rw [hw3, ← hs2]
    exact Row.new a2 _ _
  have hB : Below w.heap.size w w2 := by rw [hw3, hw2]; exact (((Below.refl _ w).alloc zN _).alloc (by simp) _).alloc (by simp; omega) _
  clear ra' rb'
  obtain ⟨ao, no, co, rfl⟩ := zAg hown
  have ap : App w 5 (.slice ao no co) w2 (.slice ao no co) (bc L) := ⟨hown.below hB, zA8 hB _, .inl rfl⟩
  have e0 : L.length + 20 * bR x ≤ 140719000000000 := by omega
  have HRT := (show Hid (∀ u, Below w0.heap.size w0 u → Rd u vd x.2.2.2.1 ∧ Rd u vg x.2.2.2.2.2.2) from fun u hu => ⟨(hd.mv (Mv.below hu)).1, (hg.mv (Mv.below hu)).1⟩)
  have HVS := (show Hid (RL zAz 2 Any w0 vs x.2.2.2.2.1) from hs)
  have HVP := (show Hid (RL zBy 8 Any w0 (.slice apv x.2.2.2.2.2.1.length cpv) x.2.2.2.2.2.1) from hp)
  have hbs : bT x.2.2.2.1 + bL bV x.2.2.2.2.1 + bL bP x.2.2.2.2.2.1 + bT x.2.2.2.2.2.2 + 6 ≤ 2000000 := by simp only [bR] at hz; omega
  have e0' : L.length + 20 * (bT x.2.2.2.1 + bL bV x.2.2.2.2.1 + bL bP x.2.2.2.2.2.1 + bT x.2.2.2.2.2.2 + 6) ≤ 140719000000000 := by simp only [bR] at e0; omega
  have t1 : x.2.2.2.1.length ≤ 2147483647 := by simp only [bT] at hbs; omega
  have t2 : x.2.2.2.2.2.2.length ≤ 2147483647 := by simp only [bT] at hbs; omega
  go_enter Tryz.func105, Tryz.ntmps105
  go_upto_region 1 with fail
  rw [← hw2, ← hw3]
  clear hw2 hw3 hs2 hd hs hp hg hown hl hz e0
  have hdw : Below w2.heap.size w2 w2.drew := ⟨rfl, rfl, rfl, zN, fun _ _ => rfl⟩
  have ho := ap.own
  have hne0 := zA6 ra ho (by decide)
  have hne1 := zA6 rb ho (by decide)
  have hne2 := zA6 rr ho (by decide)
  have HK := (show Hid (∀ u, w2.grownBy u (Value.slice ao no co).ownBlock → u.cell? ⟨w.heap.size + 1, 0, none⟩ = some (.int .i64 x.1.1) ∧ u.cell? ⟨w.heap.size + 1, 1, none⟩ = some (.int .i64 x.1.2) ∧ u.cell? ⟨w.heap.size + 1, 2, none⟩ = some (.int .i64 x.2.1) ∧ u.cell? ⟨w.heap.size + 1, 3, none⟩ = some (.int .i64 x.2.2.1)) from fun u hu => ⟨(rb.grown hu hne1).cell (j := 0) rfl, (rb.grown hu hne1).cell (j := 1) rfl, (rb.grown hu hne1).cell (j := 2) rfl, (rb.grown hu hne1).cell (j := 3) rfl⟩)
  have gd : w2.grownBy w2.drew (Value.slice ao no co).ownBlock := zA8 hdw _
  have k0 := ra.cell (j := 0) rfl
  have k1 := ra.cell (j := 1) rfl
  have HL0 := (show Hid (L.length ≤ 140720000000000) by show _ ≤ _; omega)
  have HL1 := (show Hid ((L ++ cN.wr x.1.1).length ≤ 140720000000000) by show _ ≤ _; simp only [List.length_append]; have := zBk x.1.1; have := zBk x.1.2; have := zBk x.2.1; have := zBk x.2.2.1; omega)
  have HL2 := (show Hid (((L ++ cN.wr x.1.1) ++ cN.wr x.1.2).length ≤ 140720000000000) by show _ ≤ _; simp only [List.length_append]; have := zBk x.1.1; have := zBk x.1.2; have := zBk x.2.1; have := zBk x.2.2.1; omega)
  have HL3 := (show Hid ((((L ++ cN.wr x.1.1) ++ cN.wr x.1.2) ++ cN.wr x.2.1).length ≤ 140720000000000) by show _ ≤ _; simp only [List.length_append]; have := zBk x.1.1; have := zBk x.1.2; have := zBk x.2.1; have := zBk x.2.2.1; omega)
  go_wp2_with fail
  refine wp_region_held_drew (S := fun u => u.cell? ⟨w.heap.size + 1, 0, none⟩ = some (.int .i64 x.1.1) ∧ u.cell? ⟨w.heap.size + 1, 1, none⟩ = some (.int .i64 x.1.2) ∧ u.cell? ⟨w.heap.size + 1, 2, none⟩ = some (.int .i64 x.2.1) ∧ u.cell? ⟨w.heap.size + 1, 3, none⟩ = some (.int .i64 x.2.2.1)) (by kernel_rfl) (HK.out _ gd) (fun hHeld => ?_)
  refine wpAnyH_take (i := 1) (v := (.pointer (some ⟨w.heap.size + 1, 0, none⟩))) rfl (by kernel_rfl) (by kernel_rfl) (by kernel_rfl) (fun _ _ _ h => h) (Or.inl ⟨by rfl, fun u hSu => by (try dsimp only at hSu); go_simp⟩) (by assumption) ?_
  simp only [Act.put, List.setIfInBounds_toArray, List.set_cons_zero, List.set_cons_succ]
  refine wpAnyH_take (i := 2) (v := (.pointer (some ⟨w.heap.size + 1, 0, none⟩))) rfl (by kernel_rfl) (by kernel_rfl) (by kernel_rfl) (fun _ _ _ h => h) (Or.inl ⟨by rfl, fun u hSu => by (try dsimp only at hSu); go_simp⟩) (by assumption) ?_
  simp only [Act.put, List.setIfInBounds_toArray, List.set_cons_zero, List.set_cons_succ]
  refine wpAnyH_take (i := 3) (v := (.int .i64 x.1.1)) rfl (by kernel_rfl) (by kernel_rfl) (by kernel_rfl) (fun _ _ _ h => h) (Or.inl ⟨by rfl, fun u hSu => by (try dsimp only at hSu); go_simp⟩) (by assumption) ?_
  simp only [Act.put, List.setIfInBounds_toArray, List.set_cons_zero, List.set_cons_succ]
  refine wpAnyH_take (i := 5) (v := (.pointer (some ⟨w.heap.size + 1, 0, none⟩))) rfl (by kernel_rfl) (by kernel_rfl) (by kernel_rfl) (fun _ _ _ h => h) (Or.inl ⟨by rfl, fun u hSu => by (try dsimp only at hSu); go_simp⟩) (by assumption) ?_
  simp only [Act.put, List.setIfInBounds_toArray, List.set_cons_zero, List.set_cons_succ]
  refine wpAnyH_take (i := 6) (v := (.pointer (some ⟨w.heap.size + 1, 1, none⟩))) rfl (by kernel_rfl) (by kernel_rfl) (by kernel_rfl) (fun _ _ _ h => h) (Or.inl ⟨by rfl, fun u hSu => by (try dsimp only at hSu); go_simp⟩) (by assumption) ?_
  simp only [Act.put, List.setIfInBounds_toArray, List.set_cons_zero, List.set_cons_succ]
  refine wpAnyH_take (i := 7) (v := (.int .i64 x.1.2)) rfl (by kernel_rfl) (by kernel_rfl) (by kernel_rfl) (fun _ _ _ h => h) (Or.inl ⟨by rfl, fun u hSu => by (try dsimp only at hSu); go_simp⟩) (by assumption) ?_
  simp only [Act.put, List.setIfInBounds_toArray, List.set_cons_zero, List.set_cons_succ]
  refine wpAnyH_take (i := 9) (v := (.pointer (some ⟨w.heap.size + 1, 2, none⟩))) rfl (by kernel_rfl) (by kernel_rfl) (by kernel_rfl) (fun _ _ _ h => h) (Or.inl ⟨by rfl, fun u hSu => by (try dsimp only at hSu); go_simp⟩) (by assumption) ?_
  simp only [Act.put, List.setIfInBounds_toArray, List.set_cons_zero, List.set_cons_succ]
  refine wpAnyH_take (i := 10) (v := (.int .i64 x.2.1)) rfl (by kernel_rfl) (by kernel_rfl) (by kernel_rfl) (fun _ _ _ h => h) (Or.inl ⟨by rfl, fun u hSu => by (try dsimp only at hSu); go_simp⟩) (by assumption) ?_
  simp only [Act.put, List.setIfInBounds_toArray, List.set_cons_zero, List.set_cons_succ]
  refine wpAnyH_take (i := 12) (v := (.pointer (some ⟨w.heap.size + 1, 3, none⟩))) rfl (by kernel_rfl) (by kernel_rfl) (by kernel_rfl) (fun _ _ _ h => h) (Or.inl ⟨by rfl, fun u hSu => by (try dsimp only at hSu); go_simp⟩) (by assumption) ?_
  simp only [Act.put, List.setIfInBounds_toArray, List.set_cons_zero, List.set_cons_succ]
  refine wpAnyH_take (i := 13) (v := (.int .i64 x.2.2.1)) rfl (by kernel_rfl) (by kernel_rfl) (by kernel_rfl) (fun _ _ _ h => h) (Or.inl ⟨by rfl, fun u hSu => by (try dsimp only at hSu); go_simp⟩) (by assumption) ?_
  simp only [Act.put, List.setIfInBounds_toArray, List.set_cons_zero, List.set_cons_succ]
  refine wpAnyH_ready (rs := [0]) (by kernel_rfl) (by simp) ?_
  refine AllReadyH.cons (o := _) rfl (fun K hK => ?_) AllReadyH.nil
  go_simp
  refine hK.out _ _ (HK.out _ gd) (fun hHeld => ?_)
  clear hK K
  refine wpAnyH_ready (rs := [4]) (by kernel_rfl) (by simp) ?_
  refine AllReadyH.cons (o := _) rfl (fun K hK => ?_) AllReadyH.nil
  go_simp
  refine (zAq w2.drew _ _ _ x.1.1 ho.drew (Nat.le_trans HL0.out (by decide))).mono ?_
  rintro e w1_1 ⟨v1_1, rfl, q1_1⟩
  have a1_1 := App.pre hdw q1_1
  try go_simp
  refine hK.out _ _ (HK.out _ a1_1.grown) (fun hHeld => ?_)
  clear hK K
  refine wpAnyH_ready (rs := [8]) (by kernel_rfl) (by simp) ?_
  refine AllReadyH.cons (o := _) rfl (fun K hK => ?_) AllReadyH.nil
  go_simp
  refine (zAq w1_1 _ _ _ x.1.2 a1_1.own (Nat.le_trans HL1.out (by decide))).mono ?_
  rintro e w1_2 ⟨v1_2, rfl, q1_2⟩
  have a1_2 := a1_1.trans q1_2
  try go_simp
  refine hK.out _ _ (HK.out _ a1_2.grown) (fun hHeld => ?_)
  clear hK K
  refine wpAnyH_ready (rs := [11]) (by kernel_rfl) (by simp) ?_
  refine AllReadyH.cons (o := _) rfl (fun K hK => ?_) AllReadyH.nil
  go_simp
  refine (zAq w1_2 _ _ _ x.2.1 a1_2.own (Nat.le_trans HL2.out (by decide))).mono ?_
  rintro e w1_3 ⟨v1_3, rfl, q1_3⟩
  have a1_3 := a1_2.trans q1_3
  try go_simp
  refine hK.out _ _ (HK.out _ a1_3.grown) (fun hHeld => ?_)
  clear hK K
  refine wpAnyH_ready (rs := [14]) (by kernel_rfl) (by simp) ?_
  refine AllReadyH.cons (o := _) rfl (fun K hK => ?_) AllReadyH.nil
  go_simp
  refine (zAq w1_3 _ _ _ x.2.2.1 a1_3.own (Nat.le_trans HL3.out (by decide))).mono ?_
  rintro e w1_4 ⟨v1_4, rfl, q1_4⟩
  have a1_4 := a1_3.trans q1_4
  have gg := a1_4.grown'
  obtain ⟨ao1, n1, c1, rfl⟩ := zAg a1_4.own
  have ra' := ra.grown gg hne0
  have d0 := ra'.cell (j := 0) rfl
  have d1 := ra'.cell (j := 1) rfl
  have z0 := ra'.frozen 0
  have z1 := ra'.frozen 1
  try go_simp
  refine hK.out _ _ (HK.out _ a1_4.grown) (fun hHeld => ?_)
  clear hK K
  refine wpAnyH_ready (rs := [15]) (by kernel_rfl) (by simp) ?_
  refine AllReadyH.cons (o := _) rfl (fun K hK => ?_) AllReadyH.nil
  go_simp
  refine hK.out _ _ ⟨zAu (HK.out w1_4 gg).1 (by show ¬ (w.heap.size + 1 = w.heap.size); omega), zAu (HK.out w1_4 gg).2.1 (by show ¬ (w.heap.size + 1 = w.heap.size); omega), zAu (HK.out w1_4 gg).2.2.1 (by show ¬ (w.heap.size + 1 = w.heap.size); omega), zAu (HK.out w1_4 gg).2.2.2 (by show ¬ (w.heap.size + 1 = w.heap.size); omega)⟩ (fun hHeld => ?_)
  clear hK K
  refine wpAnyH_done (by kernel_rfl) ?_ _
  clear hHeld
  have gs : w1_4.grownBy ((w1_4.setCell ⟨w.heap.size, 0, none⟩ (.slice ao1 n1 c1)).setCell ⟨w.heap.size, 1, none⟩ (.bool ((((bad || !cN.ok x.1.1) || !cN.ok x.1.2) || !cN.ok x.2.1) || !cN.ok x.2.2.1))) (some w.heap.size) := zA2 (zAd _ _ _ _) (zAd _ _ _ _) (.inl rfl)
  have ap' := App.box (ap.trans a1_4) zN ra' (.slice ao1 n1 c1) (.bool ((((bad || !cN.ok x.1.1) || !cN.ok x.1.2) || !cN.ok x.2.1) || !cN.ok x.2.2.1))
  have ra'' : Row _ w.heap.size 109 [.slice ao1 n1 c1, .bool ((((bad || !cN.ok x.1.1) || !cN.ok x.1.2) || !cN.ok x.2.1) || !cN.ok x.2.2.1)] := (ra'.set 0 (.slice ao1 n1 c1)).set 1 (.bool ((((bad || !cN.ok x.1.1) || !cN.ok x.1.2) || !cN.ok x.2.1) || !cN.ok x.2.2.1))
  have rb' := (rb.grown gg hne1).grown gs (fun e => by injection e with e; omega)
  have rr' := (rr.grown gg hne2).grown gs (fun e => by injection e with e; omega)
  clear hdw ho hne0 hne1 hne2 HK gd k0 k1 gg ra' d0 d1 z0 z1 gs ap ra rb rr
  generalize hX : ((((L ++ cN.wr x.1.1) ++ cN.wr x.1.2) ++ cN.wr x.2.1) ++ cN.wr x.2.2.1) = X1 at ap'
  generalize hb : ((((bad || !cN.ok x.1.1) || !cN.ok x.1.2) || !cN.ok x.2.1) || !cN.ok x.2.2.1) = b1 at *
  have HX1 := (show Hid (((((L ++ cN.wr x.1.1) ++ cN.wr x.1.2) ++ cN.wr x.2.1) ++ cN.wr x.2.2.1) = X1) from hX)
  have HB1 := (show Hid (((((bad || !cN.ok x.1.1) || !cN.ok x.1.2) || !cN.ok x.2.1) || !cN.ok x.2.2.1) = b1) from hb)
  have lx1 : X1.length ≤ L.length + 40 := by rw [← hX]; simp only [List.length_append]; have := zBk x.1.1; have := zBk x.1.2; have := zBk x.2.1; have := zBk x.2.2.1; omega
  clear hX hb
  generalize (w1_4.setCell ⟨w.heap.size, 0, none⟩ (.slice ao1 n1 c1)).setCell ⟨w.heap.size, 1, none⟩ (.bool b1) = w3 at *
  have ap := ap'
  have ra := ra''
  have rb := rb'
  have rr := rr'
  clear ap' ra'' rb' rr'
  have HV2 := (show Hid ((X1 ++ cT.wr x.2.2.2.1).length + bL bV x.2.2.2.2.1 * 20 ≤ 140720000000000) by show _ ≤ _; simp only [List.length_append]; have := cT_b x.2.2.2.1; omega)
  go_upto_region 2 with fail
  have hdw : Below w3.heap.size w3 w3.drew := ⟨rfl, rfl, rfl, zN, fun _ _ => rfl⟩
  have ho := ap.own
  have hne0 := zA6 ra ho (by decide)
  have hne1 := zA6 rb ho (by decide)
  have hne2 := zA6 rr ho (by decide)
  have HK := (show Hid (∀ u, w3.grownBy u (Value.slice ao1 n1 c1).ownBlock → u.cell? ⟨w.heap.size + 1, 4, none⟩ = some vd ∧ u.cell? ⟨w.heap.size + 1, 5, none⟩ = some vs) from fun u hu => ⟨(rb.grown hu hne1).cell (j := 4) rfl, (rb.grown hu hne1).cell (j := 5) rfl⟩)
  have gd : w3.grownBy w3.drew (Value.slice ao1 n1 c1).ownBlock := zA8 hdw _
  have k0 := ra.cell (j := 0) rfl
  have k1 := ra.cell (j := 1) rfl
  have HL0 := (show Hid (X1.length ≤ 140720000000000) by show _ ≤ _; omega)
  have HL1 := (show Hid ((X1 ++ cT.wr x.2.2.2.1).length ≤ 140720000000000) by show _ ≤ _; simp only [List.length_append]; have := cT_b x.2.2.2.1; omega)
  go_wp2_with fail
  refine wp_region_held_drew (S := fun u => u.cell? ⟨w.heap.size + 1, 4, none⟩ = some vd ∧ u.cell? ⟨w.heap.size + 1, 5, none⟩ = some vs) (by kernel_rfl) (HK.out _ gd) (fun hHeld => ?_)
  refine wpAnyH_take (i := 1) (v := (.pointer (some ⟨w.heap.size + 1, 4, none⟩))) rfl (by kernel_rfl) (by kernel_rfl) (by kernel_rfl) (fun _ _ _ h => h) (Or.inl ⟨by rfl, fun u hSu => by (try dsimp only at hSu); go_simp⟩) (by assumption) ?_
  simp only [Act.put, List.setIfInBounds_toArray, List.set_cons_zero, List.set_cons_succ]
  refine wpAnyH_take (i := 2) (v := vd) rfl (by kernel_rfl) (by kernel_rfl) (by kernel_rfl) (fun _ _ _ h => h) (Or.inl ⟨by rfl, fun u hSu => by (try dsimp only at hSu); go_simp⟩) (by assumption) ?_
  simp only [Act.put, List.setIfInBounds_toArray, List.set_cons_zero, List.set_cons_succ]
  refine wpAnyH_take (i := 4) (v := (.pointer (some ⟨w.heap.size + 1, 5, none⟩))) rfl (by kernel_rfl) (by kernel_rfl) (by kernel_rfl) (fun _ _ _ h => h) (Or.inl ⟨by rfl, fun u hSu => by (try dsimp only at hSu); go_simp⟩) (by assumption) ?_
  simp only [Act.put, List.setIfInBounds_toArray, List.set_cons_zero, List.set_cons_succ]
  refine wpAnyH_take (i := 5) (v := vs) rfl (by kernel_rfl) (by kernel_rfl) (by kernel_rfl) (fun _ _ _ h => h) (Or.inl ⟨by rfl, fun u hSu => by (try dsimp only at hSu); go_simp⟩) (by assumption) ?_
  simp only [Act.put, List.setIfInBounds_toArray, List.set_cons_zero, List.set_cons_succ]
  refine wpAnyH_ready (rs := [0]) (by kernel_rfl) (by simp) ?_
  refine AllReadyH.cons (o := _) rfl (fun K hK => ?_) AllReadyH.nil
  go_simp
  refine hK.out _ _ (HK.out _ gd) (fun hHeld => ?_)
  clear hK K
  refine wpAnyH_ready (rs := [3]) (by kernel_rfl) (by simp) ?_
  refine AllReadyH.cons (o := _) rfl (fun K hK => ?_) AllReadyH.nil
  go_simp
  refine (zC1 w3.drew _ _ _ vd x.2.2.2.1 ho.drew (HRT.out _ (hB0.trans (ap.below hf hB0.size)).drew).1 (Nat.le_trans HL0.out (by decide)) t1).mono ?_
  rintro e w2_1 ⟨v2_1, rfl, q2_1⟩
  have a2_1 := App.pre hdw q2_1
  try go_simp
  refine hK.out _ _ (HK.out _ a2_1.grown) (fun hHeld => ?_)
  clear hK K
  refine wpAnyH_ready (rs := [6]) (by kernel_rfl) (by simp) ?_
  refine AllReadyH.cons (o := _) rfl (fun K hK => ?_) AllReadyH.nil
  go_simp
  refine (zD5 w0 w2_1 _ _ _ vs x.2.2.2.2.1 (hB0.trans ((ap.trans a2_1).below hf hB0.size)) ((ap.trans a2_1).fr hf hB0.size) a2_1.own HVS.out HV2.out (by omega)).mono ?_
  rintro e w2_2 ⟨v2_2, rfl, q2_2⟩
  have a2_2 := a2_1.trans q2_2
  have gg := a2_2.grown'
  obtain ⟨ao2, n2, c2, rfl⟩ := zAg a2_2.own
  have ra' := ra.grown gg hne0
  have d0 := ra'.cell (j := 0) rfl
  have d1 := ra'.cell (j := 1) rfl
  have z0 := ra'.frozen 0
  have z1 := ra'.frozen 1
  try go_simp
  refine hK.out _ _ (HK.out _ a2_2.grown) (fun hHeld => ?_)
  clear hK K
  refine wpAnyH_ready (rs := [7]) (by kernel_rfl) (by simp) ?_
  refine AllReadyH.cons (o := _) rfl (fun K hK => ?_) AllReadyH.nil
  go_simp
  refine hK.out _ _ ⟨zAu (HK.out w2_2 gg).1 (by show ¬ (w.heap.size + 1 = w.heap.size); omega), zAu (HK.out w2_2 gg).2 (by show ¬ (w.heap.size + 1 = w.heap.size); omega)⟩ (fun hHeld => ?_)
  clear hK K
  refine wpAnyH_done (by kernel_rfl) ?_ _
  clear hHeld
  have gs : w2_2.grownBy ((w2_2.setCell ⟨w.heap.size, 0, none⟩ (.slice ao2 n2 c2)).setCell ⟨w.heap.size, 1, none⟩ (.bool ((b1 || !cT.ok x.2.2.2.1) || !(cL zAi).ok x.2.2.2.2.1))) (some w.heap.size) := zA2 (zAd _ _ _ _) (zAd _ _ _ _) (.inl rfl)
  have ap' := App.box (ap.trans a2_2) zN ra' (.slice ao2 n2 c2) (.bool ((b1 || !cT.ok x.2.2.2.1) || !(cL zAi).ok x.2.2.2.2.1))
  have ra'' : Row _ w.heap.size 109 [.slice ao2 n2 c2, .bool ((b1 || !cT.ok x.2.2.2.1) || !(cL zAi).ok x.2.2.2.2.1)] := (ra'.set 0 (.slice ao2 n2 c2)).set 1 (.bool ((b1 || !cT.ok x.2.2.2.1) || !(cL zAi).ok x.2.2.2.2.1))
  have rb' := (rb.grown gg hne1).grown gs (fun e => by injection e with e; omega)
  have rr' := (rr.grown gg hne2).grown gs (fun e => by injection e with e; omega)
  clear hdw ho hne0 hne1 hne2 HK gd k0 k1 gg ra' d0 d1 z0 z1 gs ap ra rb rr
  generalize hX : ((X1 ++ cT.wr x.2.2.2.1) ++ (cL zAi).wr x.2.2.2.2.1) = X2 at ap'
  generalize hb : ((b1 || !cT.ok x.2.2.2.1) || !(cL zAi).ok x.2.2.2.2.1) = b2 at *
  have HX2 := (show Hid (((X1 ++ cT.wr x.2.2.2.1) ++ (cL zAi).wr x.2.2.2.2.1) = X2) from hX)
  have HB2 := (show Hid (((b1 || !cT.ok x.2.2.2.1) || !(cL zAi).ok x.2.2.2.2.1) = b2) from hb)
  have lx2 : X2.length ≤ L.length + 40 + 20 * bT x.2.2.2.1 + 20 * bL bV x.2.2.2.2.1 := by rw [← hX]; simp only [List.length_append]; have := cT_b x.2.2.2.1; have := zG0 zAi zDl x.2.2.2.2.1; omega
  clear hX hb
  generalize (w2_2.setCell ⟨w.heap.size, 0, none⟩ (.slice ao2 n2 c2)).setCell ⟨w.heap.size, 1, none⟩ (.bool b2) = w4 at *
  have ap := ap'
  have ra := ra''
  have rb := rb'
  have rr := rr'
  clear ap' ra'' rb' rr' HV2
  go_upto_region 3 with fail
  have hM := zCz w4 (.slice ao2 n2 c2) b2 X2 (x.2.2.2.2.2.1.length : Int) ap.own (by omega)
  have c6 := rb.cell (j := 6) rfl
  have hne0 := zA6 ra ap.own (by decide)
  have hne1 := zA6 rb ap.own (by decide)
  have hne2 := zA6 rr ap.own (by decide)
  go_upto_region 4 with (first
    | (refine zAa rfl _ _ rfl w.heap.size rfl _ _ ra _ Tryz.underlying109 rfl (by kernel_rfl) ?_)
    | (go_at_call 104; refine hM.mono ?_; rintro e w5 ⟨v5, rfl, q5⟩; obtain ⟨ao5, n5, c5, rfl⟩ := zAg q5.own; have ra5 := ra.grown q5.grown hne0)
    | (refine zA7 rfl _ _ _ rfl w.heap.size [.slice ao5 n5 c5, .bool (b2 || !cMn.ok (x.2.2.2.2.2.1.length : Int))] rfl rfl _ _ ra5 rfl (by kernel_rfl) zC9 ?_; intro w6 hr6 hg6))
  have hr6 := hr6.out
  have hap5 := ap.trans q5
  have hn5 := zA6 ra5 q5.own (by decide)
  have ha6 := App.after hap5 zN hg6 hn5
  rw [zHr zAo] at ha6
  rw [zIa zAo] at hr6
  have rb6 := (rb.grown q5.grown hne1).grown hg6 (fun e => by injection e with e; omega)
  have rr6 := (rr.grown q5.grown hne2).grown hg6 (fun e => by injection e with e; omega)
  have HX := (show Hid (0 < x.2.2.2.2.2.1.length → ∃ b off, apv = some ⟨b, off, none⟩ ∧ b < w0.heap.size ∧ ∀ (i : Nat) (a : zCo), x.2.2.2.2.2.1[i]? = some a → ∃ r, r.length = 8 ∧ w0.rangeAt b (off + i * 8) r ∧ zBy Any w0 r a) from fun h0 => by
    obtain ⟨b, off, c', e, _, _, _, hbb, hx⟩ := HVP.out.at h0
    injection e with e1 e2 e3
    exact ⟨b, off, e1, hbb, hx⟩)
  have hlen := zIs (f := bP) (fun y => by simp only [bP]; omega) x.2.2.2.2.2.1
  have hlz : x.2.2.2.2.2.1.length ≤ 2000000 := by simp only [bL] at hbs; omega
  have HLE := (show Hid (∀ q, (Lq zAo X2 x.2.2.2.2.2.1 q).length + 20 * bT x.2.2.2.2.2.2 ≤ 140719999999900) from fun q => by have := zI7 zAo zHz X2 x.2.2.2.2.2.1 q; omega)
  have HZ := (show Hid (∀ y ∈ x.2.2.2.2.2.1, bP y ≤ bL bP x.2.2.2.2.2.1 ∧ 20 * bP y ≤ 140719999999900) from fun y hy => by have := zE4 (f := bP) hy; simp only [bL] at hbs ⊢; omega)
  have HBA := (show Hid (Bq zAo b2 x.2.2.2.2.2.1 x.2.2.2.2.2.1.length = (b2 || !(cL zAo).ok x.2.2.2.2.2.1)) from zMc _ _ _ (by omega))
  have b3 : bL bP x.2.2.2.2.2.1 ≤ 2000000 := by omega
  have HLA := (show Hid (∀ (q : Nat) (a : zCo), x.2.2.2.2.2.1[q]? = some a → (Lq zAo X2 x.2.2.2.2.2.1 q).length + 20 * bP a ≤ 140719999999900) from fun q a ha => by have := zI7 zAo zHz X2 x.2.2.2.2.2.1 q; have := zE4 (f := bP) (List.mem_of_getElem? ha); simp only [bL] at *; omega)
  have c6' := rb6.cell (j := 6) rfl
  have HVG := (show Hid (∀ u, Below w0.heap.size w0 u → Rd u vg x.2.2.2.2.2.2) from fun u hu => (HRT.out u hu).2)
  have HAX := (show Hid (X2 ++ (cL zAo).wr x.2.2.2.2.2.1 ++ cT.wr x.2.2.2.2.2.2 = L ++ zBr.wr x) by
    show _ = _
    rw [← HX2.out, ← HX1.out]
    simp [zBr, cP, zI1, List.append_assoc])
  have HAB := (show Hid (((b2 || !(cL zAo).ok x.2.2.2.2.2.1) || !cT.ok x.2.2.2.2.2.2) = (bad || !zBr.ok x)) by
    show _ = _
    rw [← HB2.out, ← HB1.out]
    simp [zBr, cP, zI1, Bool.or_assoc])
  clear hap5 hn5 q5 ra5 hg6 hM c6 hne0 hne1 hne2 ap ra rb rr HVP HVS HRT hbs lx1 lx2 e0' hlen HX1 HX2 HB1 HB2 hcpv t1
  generalize x.2.2.2.2.2.1 = ps at *
  go_wp2_with fail
  go_loopw [37] (fun i wr => ∃ (q : Nat) (ak : Option Addr) (nk ck : Nat), q ≤ ps.length ∧ i = .int .i64 q ∧ Row wr w.heap.size 109 [.slice ak nk ck, .bool (Bq zAo b2 ps q)] ∧ Row wr (w.heap.size + 1) 68 [.int .i64 x.1.1, .int .i64 x.1.2, .int .i64 x.2.1, .int .i64 x.2.2.1, vd, vs, .slice apv ps.length cpv, vg] ∧ Row wr (w.heap.size + 2) 109 [.slice none 0 0, .bool false] ∧ App w 5 (.slice ao no co) wr (.slice ak nk ck) (bc (Lq zAo X2 ps q))) (fun i _ => ps.length - (intOf i).toNat)
  case atStart => exact ⟨0, ao5, n5, c5, by omega, rfl, hr6, rb6, rr6, ha6⟩
  case round =>
    clear hr6 rb6 rr6 ha6 c6'
    obtain ⟨q, ak, nk, ck, hq, rfl, ra, rb, rr, ap⟩ := hrel
    by_cases hql : q < ps.length
    · obtain ⟨bb, off, rfl, hbb, hx⟩ := HX.out (by omega)
      obtain ⟨a, ha⟩ : ∃ a, ps[q]? = some a := ⟨_, List.getElem?_eq_getElem hql⟩
      obtain ⟨r, _, hrng, so, sg, sc, rfl, hso, hsg, hsc⟩ := hx q a ha
      have hz' := HZ.out a (List.mem_of_getElem? ha)
      have hBr := hB0.trans (ap.below hf hB0.size)
      have hrng := zAw hrng (hBr.block bb hbb)
      have hrow0 := Row.new wr 107 [.int .i64 0, .int .i64 0, .int .i64 0, .int .i64 0, .int .i64 0, .slice none 0 0, .slice none 0 0, .slice none 0 0]
      have HSL := (show Hid (Lq zAo X2 ps q ++ zAo.wr a = Lq zAo X2 ps (q + 1)) from zIo _ _ _ ha)
      have HSB := (show Hid ((Bq zAo b2 ps q || !zAo.ok a) = Bq zAo b2 ps (q + 1)) from zIp _ _ _ ha)
      have hone : ∀ z ∈ [Value.int .i64 a.1, .int .i64 a.2.1.1, .int .i64 a.2.1.2, .int .i64 a.2.2.1.1, .int .i64 a.2.2.1.2.1, so, sg, sc], z.oneCell' = true := by
        have o1 := hso.one
        have o2 := hsg.one
        have o3 : sc.oneCell' = true := by obtain ⟨_, _, rfl, _⟩ := hsc.form; rfl
        intro z hz
        simp only [List.mem_cons, List.not_mem_nil, or_false] at hz
        rcases hz with rfl | rfl | rfl | rfl | rfl | rfl | rfl | rfl <;> first | rfl | assumption
      have HRQ := (show Hid (zCs Any w0 [.int .i64 a.2.2.1.1, .int .i64 a.2.2.1.2.1, so, sg] a.2.2.1) from ⟨_, _, rfl, hso, hsg⟩)
      have HRV := (show Hid (RL zAz 2 Any w0 sc a.2.2.2) from hsc)
      have hle := HLE.out q
      have HLQ := (show Hid ((Lq zAo X2 ps q).length + 20 * bP a ≤ 140719999999900) from HLA.out q a ha)
      clear ha hx hso hsg hsc
      go_upto_region 7 with (first
        | (refine wpList_load_mid rfl _ _ rfl bb (off + q * 8) rfl [.int .i64 a.1, .int .i64 a.2.1.1, .int .i64 a.2.1.2, .int .i64 a.2.2.1.1, .int .i64 a.2.2.1.2.1, so, sg, sc] _ hrng Tryz.underlying107 rfl (by kernel_rfl) ?_)
        | (refine zA7 rfl _ _ _ rfl wr.heap.size [.int .i64 a.1, .int .i64 a.2.1.1, .int .i64 a.2.1.2, .int .i64 a.2.2.1.1, .int .i64 a.2.2.1.2.1, so, sg, sc] rfl rfl _ _ hrow0 rfl (by kernel_rfl) hone ?_; intro w7 hr7 hg7))
      have hb7 : Below wr.heap.size wr w7 := (zA0 wr (.cells ([.int .i64 0, .int .i64 0, .int .i64 0, .int .i64 0, .int .i64 0, .slice none 0 0, .slice none 0 0, .slice none 0 0] : List Value).toArray 107)).trans (zA5 hg7 (by simp) (fun k hk => by cases hk; exact zN))
      have hlt := rr.lt
      have rv := hr7.out
      have ap : App w 5 (.slice ao no co) w7 (.slice ak nk ck) (bc (Lq zAo X2 ps q)) := ⟨ap.own.below hb7, zA2 ap.grown (zA8 hb7 none) (.inr fun k hk => by cases hk), ap.spot⟩
      have ra := ra.below hb7
      have rb := rb.below hb7
      have rr := rr.below hb7
      obtain ⟨bv, hbv'⟩ : ∃ bv, bv = wr.heap.size := ⟨_, rfl⟩
      rw [← hbv'] at rv hlt ⊢
      have hbv : ¬ (bv = w.heap.size) := by omega
      clear hbv' hr7 hg7 hb7 hrng hrow0 hone hBr
      have hdw : Below w7.heap.size w7 w7.drew := ⟨rfl, rfl, rfl, zN, fun _ _ => rfl⟩
      have ho := ap.own
      have hne0 := zA6 ra ho (by decide)
      have hne1 := zA6 rv ho (by decide)
      have hne2 := zA6 rr ho (by decide)
      have HK := (show Hid (∀ u, w7.grownBy u (Value.slice ak nk ck).ownBlock → u.cell? ⟨bv, 0, none⟩ = some (.int .i64 a.1) ∧ u.cell? ⟨bv, 1, none⟩ = some (.int .i64 a.2.1.1) ∧ u.cell? ⟨bv, 2, none⟩ = some (.int .i64 a.2.1.2)) from fun u hu => ⟨(rv.grown hu hne1).cell (j := 0) rfl, (rv.grown hu hne1).cell (j := 1) rfl, (rv.grown hu hne1).cell (j := 2) rfl⟩)
      have gd : w7.grownBy w7.drew (Value.slice ak nk ck).ownBlock := zA8 hdw _
      have k0 := ra.cell (j := 0) rfl
      have k1 := ra.cell (j := 1) rfl
      have HL0 := (show Hid ((Lq zAo X2 ps q).length ≤ 140720000000000) by show _ ≤ _; omega)
      have HL1 := (show Hid (((Lq zAo X2 ps q) ++ cN.wr a.1).length ≤ 140720000000000) by show _ ≤ _; simp only [List.length_append]; have := zBk a.1; have := zBk a.2.1.1; have := zBk a.2.1.2; omega)
      have HL2 := (show Hid ((((Lq zAo X2 ps q) ++ cN.wr a.1) ++ cN.wr a.2.1.1).length ≤ 140720000000000) by show _ ≤ _; simp only [List.length_append]; have := zBk a.1; have := zBk a.2.1.1; have := zBk a.2.1.2; omega)
      go_wp2_with fail
      refine wp_region_held_drew (S := fun u => u.cell? ⟨bv, 0, none⟩ = some (.int .i64 a.1) ∧ u.cell? ⟨bv, 1, none⟩ = some (.int .i64 a.2.1.1) ∧ u.cell? ⟨bv, 2, none⟩ = some (.int .i64 a.2.1.2)) (by kernel_rfl) (HK.out _ gd) (fun hHeld => ?_)
      refine wpAnyH_take (i := 1) (v := (.pointer (some ⟨bv, 0, none⟩))) rfl (by kernel_rfl) (by kernel_rfl) (by kernel_rfl) (fun _ _ _ h => h) (Or.inl ⟨by rfl, fun u hSu => by (try dsimp only at hSu); go_simp⟩) (by assumption) ?_
      simp only [Act.put, List.setIfInBounds_toArray, List.set_cons_zero, List.set_cons_succ]
      refine wpAnyH_take (i := 2) (v := (.int .i64 a.1)) rfl (by kernel_rfl) (by kernel_rfl) (by kernel_rfl) (fun _ _ _ h => h) (Or.inl ⟨by rfl, fun u hSu => by (try dsimp only at hSu); go_simp⟩) (by assumption) ?_
      simp only [Act.put, List.setIfInBounds_toArray, List.set_cons_zero, List.set_cons_succ]
      refine wpAnyH_take (i := 4) (v := (.pointer (some ⟨bv, 1, none⟩))) rfl (by kernel_rfl) (by kernel_rfl) (by kernel_rfl) (fun _ _ _ h => h) (Or.inl ⟨by rfl, fun u hSu => by (try dsimp only at hSu); go_simp⟩) (by assumption) ?_
      simp only [Act.put, List.setIfInBounds_toArray, List.set_cons_zero, List.set_cons_succ]
      refine wpAnyH_take (i := 5) (v := (.pointer (some ⟨bv, 1, none⟩))) rfl (by kernel_rfl) (by kernel_rfl) (by kernel_rfl) (fun _ _ _ h => h) (Or.inl ⟨by rfl, fun u hSu => by (try dsimp only at hSu); go_simp⟩) (by assumption) ?_
      simp only [Act.put, List.setIfInBounds_toArray, List.set_cons_zero, List.set_cons_succ]
      refine wpAnyH_take (i := 6) (v := (.int .i64 a.2.1.1)) rfl (by kernel_rfl) (by kernel_rfl) (by kernel_rfl) (fun _ _ _ h => h) (Or.inl ⟨by rfl, fun u hSu => by (try dsimp only at hSu); go_simp⟩) (by assumption) ?_
      simp only [Act.put, List.setIfInBounds_toArray, List.set_cons_zero, List.set_cons_succ]
      refine wpAnyH_take (i := 8) (v := (.pointer (some ⟨bv, 1, none⟩))) rfl (by kernel_rfl) (by kernel_rfl) (by kernel_rfl) (fun _ _ _ h => h) (Or.inl ⟨by rfl, fun u hSu => by (try dsimp only at hSu); go_simp⟩) (by assumption) ?_
      simp only [Act.put, List.setIfInBounds_toArray, List.set_cons_zero, List.set_cons_succ]
      refine wpAnyH_take (i := 9) (v := (.pointer (some ⟨bv, 2, none⟩))) rfl (by kernel_rfl) (by kernel_rfl) (by kernel_rfl) (fun _ _ _ h => h) (Or.inl ⟨by rfl, fun u hSu => by (try dsimp only at hSu); go_simp⟩) (by assumption) ?_
      simp only [Act.put, List.setIfInBounds_toArray, List.set_cons_zero, List.set_cons_succ]
      refine wpAnyH_take (i := 10) (v := (.int .i64 a.2.1.2)) rfl (by kernel_rfl) (by kernel_rfl) (by kernel_rfl) (fun _ _ _ h => h) (Or.inl ⟨by rfl, fun u hSu => by (try dsimp only at hSu); go_simp⟩) (by assumption) ?_
      simp only [Act.put, List.setIfInBounds_toArray, List.set_cons_zero, List.set_cons_succ]
      refine wpAnyH_ready (rs := [0]) (by kernel_rfl) (by simp) ?_
      refine AllReadyH.cons (o := _) rfl (fun K hK => ?_) AllReadyH.nil
      go_simp
      refine hK.out _ _ (HK.out _ gd) (fun hHeld => ?_)
      clear hK K
      refine wpAnyH_ready (rs := [3]) (by kernel_rfl) (by simp) ?_
      refine AllReadyH.cons (o := _) rfl (fun K hK => ?_) AllReadyH.nil
      go_simp
      refine (zAq w7.drew _ _ _ a.1 ho.drew (Nat.le_trans HL0.out (by decide))).mono ?_
      rintro e w7_1 ⟨v7_1, rfl, q7_1⟩
      have a7_1 := App.pre hdw q7_1
      try go_simp
      refine hK.out _ _ (HK.out _ a7_1.grown) (fun hHeld => ?_)
      clear hK K
      refine wpAnyH_ready (rs := [7]) (by kernel_rfl) (by simp) ?_
      refine AllReadyH.cons (o := _) rfl (fun K hK => ?_) AllReadyH.nil
      go_simp
      refine (zAq w7_1 _ _ _ a.2.1.1 a7_1.own (Nat.le_trans HL1.out (by decide))).mono ?_
      rintro e w7_2 ⟨v7_2, rfl, q7_2⟩
      have a7_2 := a7_1.trans q7_2
      try go_simp
      refine hK.out _ _ (HK.out _ a7_2.grown) (fun hHeld => ?_)
      clear hK K
      refine wpAnyH_ready (rs := [11]) (by kernel_rfl) (by simp) ?_
      refine AllReadyH.cons (o := _) rfl (fun K hK => ?_) AllReadyH.nil
      go_simp
      refine (zAq w7_2 _ _ _ a.2.1.2 a7_2.own (Nat.le_trans HL2.out (by decide))).mono ?_
      rintro e w7_3 ⟨v7_3, rfl, q7_3⟩
      have a7_3 := a7_2.trans q7_3
      have gg := a7_3.grown'
      obtain ⟨ao7, n7, c7, rfl⟩ := zAg a7_3.own
      have ra' := ra.grown gg hne0
      have d0 := ra'.cell (j := 0) rfl
      have d1 := ra'.cell (j := 1) rfl
      have z0 := ra'.frozen 0
      have z1 := ra'.frozen 1
      try go_simp
      refine hK.out _ _ (HK.out _ a7_3.grown) (fun hHeld => ?_)
      clear hK K
      refine wpAnyH_ready (rs := [12]) (by kernel_rfl) (by simp) ?_
      refine AllReadyH.cons (o := _) rfl (fun K hK => ?_) AllReadyH.nil
      go_simp
      refine hK.out _ _ ⟨zAu (HK.out w7_3 gg).1 hbv, zAu (HK.out w7_3 gg).2.1 hbv, zAu (HK.out w7_3 gg).2.2 hbv⟩ (fun hHeld => ?_)
      clear hK K
      refine wpAnyH_done (by kernel_rfl) ?_ _
      clear hHeld
      have gs : w7_3.grownBy ((w7_3.setCell ⟨w.heap.size, 0, none⟩ (.slice ao7 n7 c7)).setCell ⟨w.heap.size, 1, none⟩ (.bool ((((Bq zAo b2 ps q) || !cN.ok a.1) || !cN.ok a.2.1.1) || !cN.ok a.2.1.2))) (some w.heap.size) := zA2 (zAd _ _ _ _) (zAd _ _ _ _) (.inl rfl)
      have ap' := App.box (ap.trans a7_3) zN ra' (.slice ao7 n7 c7) (.bool ((((Bq zAo b2 ps q) || !cN.ok a.1) || !cN.ok a.2.1.1) || !cN.ok a.2.1.2))
      have ra'' : Row _ w.heap.size 109 [.slice ao7 n7 c7, .bool ((((Bq zAo b2 ps q) || !cN.ok a.1) || !cN.ok a.2.1.1) || !cN.ok a.2.1.2)] := (ra'.set 0 (.slice ao7 n7 c7)).set 1 (.bool ((((Bq zAo b2 ps q) || !cN.ok a.1) || !cN.ok a.2.1.1) || !cN.ok a.2.1.2))
      have rv' := (rv.grown gg hne1).grown gs (fun e => by injection e with e; omega)
      have rb' := (rb.grown gg (zA6 rb ho (by decide))).grown gs (fun e => by injection e with e; omega)
      have rr' := (rr.grown gg hne2).grown gs (fun e => by injection e with e; omega)
      clear hdw ho hne0 hne1 hne2 HK gd k0 k1 gg ra' d0 d1 z0 z1 gs ap ra rv rb rr
      generalize hX : ((((Lq zAo X2 ps q) ++ cN.wr a.1) ++ cN.wr a.2.1.1) ++ cN.wr a.2.1.2) = X7 at ap'
      generalize hb : ((((Bq zAo b2 ps q) || !cN.ok a.1) || !cN.ok a.2.1.1) || !cN.ok a.2.1.2) = b7 at *
      have HX7 := (show Hid (((((Lq zAo X2 ps q) ++ cN.wr a.1) ++ cN.wr a.2.1.1) ++ cN.wr a.2.1.2) = X7) from hX)
      have HB7 := (show Hid (((((Bq zAo b2 ps q) || !cN.ok a.1) || !cN.ok a.2.1.1) || !cN.ok a.2.1.2) = b7) from hb)
      have lx7 : X7.length ≤ (Lq zAo X2 ps q).length + 30 := by rw [← hX]; simp only [List.length_append]; have := zBk a.1; have := zBk a.2.1.1; have := zBk a.2.1.2; omega
      clear hX hb
      generalize (w7_3.setCell ⟨w.heap.size, 0, none⟩ (.slice ao7 n7 c7)).setCell ⟨w.heap.size, 1, none⟩ (.bool b7) = w8 at *
      have ap := ap'
      have ra := ra''
      have rb := rb'
      have rr := rr'
      have rv := rv'
      clear ap' ra'' rb' rr' rv'
      have y1 : a.2.2.1.2.2.1.length ≤ 2147483647 := by have := hz'.1; simp only [bP, bQ, bT] at this; omega
      have y2 : a.2.2.1.2.2.2.length ≤ 2147483647 := by have := hz'.1; simp only [bP, bQ, bT] at this; omega
      have y3 : bL bV a.2.2.2 ≤ 2000000 := by have := hz'.1; simp only [bP] at this; omega
      have HVL := (show Hid ((X7 ++ zBc.wr a.2.2.1).length + bL bV a.2.2.2 * 20 ≤ 140720000000000) by show _ ≤ _; simp only [List.length_append]; have := zF4 a.2.2.1; have h9 := hz'.2; have h8 := HLQ.out; simp only [bP] at h9 h8; omega)
      go_upto_region 8 with fail
      have hdw : Below w8.heap.size w8 w8.drew := ⟨rfl, rfl, rfl, zN, fun _ _ => rfl⟩
      have ho := ap.own
      have hne0 := zA6 ra ho (by decide)
      have hne1 := zA6 rv ho (by decide)
      have hne2 := zA6 rr ho (by decide)
      have HK := (show Hid (∀ u, w8.grownBy u (Value.slice ao7 n7 c7).ownBlock → u.cell? ⟨bv, 3, none⟩ = some (.int .i64 a.2.2.1.1) ∧ u.cell? ⟨bv, 4, none⟩ = some (.int .i64 a.2.2.1.2.1) ∧ u.cell? ⟨bv, 5, none⟩ = some so ∧ u.cell? ⟨bv, 6, none⟩ = some sg ∧ u.cell? ⟨bv, 7, none⟩ = some sc) from fun u hu => ⟨(rv.grown hu hne1).cell (j := 3) rfl, (rv.grown hu hne1).cell (j := 4) rfl, (rv.grown hu hne1).cell (j := 5) rfl, (rv.grown hu hne1).cell (j := 6) rfl, (rv.grown hu hne1).cell (j := 7) rfl⟩)
      have gd : w8.grownBy w8.drew (Value.slice ao7 n7 c7).ownBlock := zA8 hdw _
      have k0 := ra.cell (j := 0) rfl
      have k1 := ra.cell (j := 1) rfl
      have HL0 := (show Hid (X7.length ≤ 140720000000000) by show _ ≤ _; have := HVL.out; simp only [List.length_append] at this; omega)
      have HL1 := (show Hid ((X7 ++ zBc.wr a.2.2.1).length ≤ 140720000000000) by show _ ≤ _; have := HVL.out; simp only [List.length_append] at this ⊢; omega)
      go_wp2_with fail
      refine wp_region_held_drew (S := fun u => u.cell? ⟨bv, 3, none⟩ = some (.int .i64 a.2.2.1.1) ∧ u.cell? ⟨bv, 4, none⟩ = some (.int .i64 a.2.2.1.2.1) ∧ u.cell? ⟨bv, 5, none⟩ = some so ∧ u.cell? ⟨bv, 6, none⟩ = some sg ∧ u.cell? ⟨bv, 7, none⟩ = some sc) (by kernel_rfl) (HK.out _ gd) (fun hHeld => ?_)
      refine wpAnyH_take (i := 1) (v := (.pointer (some ⟨bv, 3, none⟩))) rfl (by kernel_rfl) (by kernel_rfl) (by kernel_rfl) (fun _ _ _ h => h) (Or.inl ⟨by rfl, fun u hSu => by (try dsimp only at hSu); go_simp⟩) (by assumption) ?_
      simp only [Act.put, List.setIfInBounds_toArray, List.set_cons_zero, List.set_cons_succ]
      refine wpAnyH_take (i := 2) (v := (.agg #[.int .i64 a.2.2.1.1, .int .i64 a.2.2.1.2.1, so, sg])) rfl (by kernel_rfl) (by kernel_rfl) (by kernel_rfl) (fun _ _ _ h => h) (Or.inl ⟨by rfl, fun u hSu => by (try dsimp only at hSu); go_simp⟩) (by assumption) ?_
      simp only [Act.put, List.setIfInBounds_toArray, List.set_cons_zero, List.set_cons_succ]
      refine wpAnyH_take (i := 4) (v := (.pointer (some ⟨bv, 7, none⟩))) rfl (by kernel_rfl) (by kernel_rfl) (by kernel_rfl) (fun _ _ _ h => h) (Or.inl ⟨by rfl, fun u hSu => by (try dsimp only at hSu); go_simp⟩) (by assumption) ?_
      simp only [Act.put, List.setIfInBounds_toArray, List.set_cons_zero, List.set_cons_succ]
      refine wpAnyH_take (i := 5) (v := sc) rfl (by kernel_rfl) (by kernel_rfl) (by kernel_rfl) (fun _ _ _ h => h) (Or.inl ⟨by rfl, fun u hSu => by (try dsimp only at hSu); go_simp⟩) (by assumption) ?_
      simp only [Act.put, List.setIfInBounds_toArray, List.set_cons_zero, List.set_cons_succ]
      refine wpAnyH_ready (rs := [0]) (by kernel_rfl) (by simp) ?_
      refine AllReadyH.cons (o := _) rfl (fun K hK => ?_) AllReadyH.nil
      go_simp
      refine hK.out _ _ (HK.out _ gd) (fun hHeld => ?_)
      clear hK K
      refine wpAnyH_ready (rs := [3]) (by kernel_rfl) (by simp) ?_
      refine AllReadyH.cons (o := _) rfl (fun K hK => ?_) AllReadyH.nil
      go_simp
      refine (zEx w0 w8.drew _ _ _ [.int .i64 a.2.2.1.1, .int .i64 a.2.2.1.2.1, so, sg] a.2.2.1 (hB0.trans (ap.below hf hB0.size)).drew (ap.fr hf hB0.size) ho.drew HRQ.out HL0.out y1 y2).mono ?_
      rintro e w8_1 ⟨v8_1, rfl, q8_1⟩
      have a8_1 := App.pre hdw q8_1
      try go_simp
      refine hK.out _ _ (HK.out _ a8_1.grown) (fun hHeld => ?_)
      clear hK K
      refine wpAnyH_ready (rs := [6]) (by kernel_rfl) (by simp) ?_
      refine AllReadyH.cons (o := _) rfl (fun K hK => ?_) AllReadyH.nil
      go_simp
      refine (zD5 w0 w8_1 _ _ _ sc a.2.2.2 (hB0.trans ((ap.trans a8_1).below hf hB0.size)) ((ap.trans a8_1).fr hf hB0.size) a8_1.own HRV.out HVL.out y3).mono ?_
      rintro e w8_2 ⟨v8_2, rfl, q8_2⟩
      have a8_2 := a8_1.trans q8_2
      have gg := a8_2.grown'
      obtain ⟨ao8, n8, c8, rfl⟩ := zAg a8_2.own
      have ra' := ra.grown gg hne0
      have d0 := ra'.cell (j := 0) rfl
      have d1 := ra'.cell (j := 1) rfl
      have z0 := ra'.frozen 0
      have z1 := ra'.frozen 1
      try go_simp
      refine hK.out _ _ (HK.out _ a8_2.grown) (fun hHeld => ?_)
      clear hK K
      refine wpAnyH_ready (rs := [7]) (by kernel_rfl) (by simp) ?_
      refine AllReadyH.cons (o := _) rfl (fun K hK => ?_) AllReadyH.nil
      go_simp
      refine hK.out _ _ ⟨zAu (HK.out w8_2 gg).1 hbv, zAu (HK.out w8_2 gg).2.1 hbv, zAu (HK.out w8_2 gg).2.2.1 hbv, zAu (HK.out w8_2 gg).2.2.2.1 hbv, zAu (HK.out w8_2 gg).2.2.2.2 hbv⟩ (fun hHeld => ?_)
      clear hK K
      refine wpAnyH_done (by kernel_rfl) ?_ _
      clear hHeld
      have gs : w8_2.grownBy ((w8_2.setCell ⟨w.heap.size, 0, none⟩ (.slice ao8 n8 c8)).setCell ⟨w.heap.size, 1, none⟩ (.bool ((b7 || !zBc.ok a.2.2.1) || !(cL zAi).ok a.2.2.2))) (some w.heap.size) := zA2 (zAd _ _ _ _) (zAd _ _ _ _) (.inl rfl)
      have ap' := App.box (ap.trans a8_2) zN ra' (.slice ao8 n8 c8) (.bool ((b7 || !zBc.ok a.2.2.1) || !(cL zAi).ok a.2.2.2))
      have ra'' : Row _ w.heap.size 109 [.slice ao8 n8 c8, .bool ((b7 || !zBc.ok a.2.2.1) || !(cL zAi).ok a.2.2.2)] := (ra'.set 0 (.slice ao8 n8 c8)).set 1 (.bool ((b7 || !zBc.ok a.2.2.1) || !(cL zAi).ok a.2.2.2))
      have rv' := (rv.grown gg hne1).grown gs (fun e => by injection e with e; omega)
      have rb' := (rb.grown gg (zA6 rb ho (by decide))).grown gs (fun e => by injection e with e; omega)
      have rr' := (rr.grown gg hne2).grown gs (fun e => by injection e with e; omega)
      clear hdw ho hne0 hne1 hne2 HK gd k0 k1 gg ra' d0 d1 z0 z1 gs ap ra rv rb rr
      generalize hX : ((X7 ++ zBc.wr a.2.2.1) ++ (cL zAi).wr a.2.2.2) = X8 at ap'
      generalize hb : ((b7 || !zBc.ok a.2.2.1) || !(cL zAi).ok a.2.2.2) = b8 at *
      have HX8 := (show Hid (((X7 ++ zBc.wr a.2.2.1) ++ (cL zAi).wr a.2.2.2) = X8) from hX)
      have HB8 := (show Hid (((b7 || !zBc.ok a.2.2.1) || !(cL zAi).ok a.2.2.2) = b8) from hb)
      have eX : X8 = Lq zAo X2 ps (q + 1) := by rw [← hX, ← HSL.out, ← HX7.out]; simp [zAo, cP, zI1, List.append_assoc]
      have eB : b8 = Bq zAo b2 ps (q + 1) := by rw [← hb, ← HSB.out, ← HB7.out]; simp [zAo, cP, zI1, Bool.or_assoc]
      clear hX hb HX7 HB7 HX8 HB8
      generalize (w8_2.setCell ⟨w.heap.size, 0, none⟩ (.slice ao8 n8 c8)).setCell ⟨w.heap.size, 1, none⟩ (.bool b8) = w9 at *
      rw [eX] at ap'
      rw [eB] at ra''
      clear eX eB HSL HSB
      go_wp2_with fail
      go_roundw
      case rel => exact ⟨q + 1, ao8, n8, c8, by omega, by go_num, ra'', rb', rr', ap'⟩
      case measure => simp [intOf]; omega
    · obtain rfl : q = ps.length := by omega
      have hqd : decide ((ps.length : Int) < ps.length) = false := by simp
      rw [HBA.out] at ra
      rw [zHv] at ap
      have hle := HLE.out ps.length
      rw [zHv] at hle
      have c7' := rb.cell (j := 7) rfl
      have hn0 := zA6 ra ap.own (by decide)
      have hn2 := zA6 rr ap.own (by decide)
      have hT := zC1 wr (.slice ak nk ck) (b2 || !(cL zAo).ok ps) (X2 ++ (cL zAo).wr ps) vg x.2.2.2.2.2.2 ap.own (HVG.out _ (hB0.trans (ap.below hf hB0.size))) (by omega) t2
      go_wp2_with (first
        | (refine zAa rfl _ _ rfl w.heap.size rfl _ _ ra _ Tryz.underlying109 rfl (by kernel_rfl) ?_)
        | (go_at_call 102; refine hT.mono ?_; rintro e w8 ⟨v8, rfl, q8⟩; obtain ⟨ao8, n8, c8, rfl⟩ := zAg q8.own; have rr8 := rr.grown q8.grown hn2)
        | (refine zA7 rfl _ _ _ rfl (w.heap.size + 2) [.slice ao8 n8 c8, .bool ((b2 || !(cL zAo).ok ps) || !cT.ok x.2.2.2.2.2.2)] rfl rfl _ _ rr8 rfl (by kernel_rfl) zC9 ?_; intro w9 hr9 hg9))
      have hr9 := hr9.out
      refine bodyPost_ret (v := .agg ([.slice ao8 n8 c8, .bool ((b2 || !(cL zAo).ok ps) || !cT.ok x.2.2.2.2.2.2)] : List Value).toArray) (results_cell_row rfl _ _ (w.heap.size + 2) _ _ (0, 0) _ (by rfl) hr9 Tryz.underlying109 rfl (by kernel_rfl)) rfl ?_
      exact zCb.end (App.after (ap.trans q8) (by omega) hg9 (zA6 rr8 q8.own (by decide))) HAX.out HAB.out
end Go.Proofs.YtgjepofinpmcpaaGreatDoor
