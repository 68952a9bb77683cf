/- The walks over packages clone and vote: requests that are copied, signed, asked. -/
import Derived.Test.YtmfmfjndigjlfaaDoorQ1
set_option linter.unusedVariables false
namespace Go.Proofs.YtmfmfjndigjlfaaDoor
open Go.RowKit Oct Sha

set_option maxRecDepth 10000 in
set_option maxHeartbeats 2000000 in
/-- clone.Req. -/
theorem cloneReq_any (w : World) (r : List Value) (x : PReq) (h : RReq Any w r x) (z1 : x.2.2.1.length ≤ 1000000000) (z2 : x.2.2.2.length ≤ 1000000000) :
    Calls Tryd.prog 35 #[.agg r.toArray] w fun e w' => ∃ r', e = .returned (.agg r'.toArray) ∧ RReq (From w.heap.size) w' r' x ∧ Below w.heap.size w w' := by
  obtain ⟨vo, vg, rfl, ho, hg⟩ := h
  obtain ⟨w2, hw2⟩ : ∃ w2, w2 = (w.alloc (.cells #[.int .i64 x.1, .int .i64 x.2.1, vo, vg] 35)).alloc (.cells #[.int .i64 0, .int .i64 0, .slice none 0 0, .slice none 0 0] 35) := ⟨_, rfl⟩
  have ra : Row w2 w.heap.size 35 [.int .i64 x.1, .int .i64 x.2.1, vo, vg] := by rw [hw2]; exact rowA (Row.new w 35 _) _
  have rr : Row w2 (w.heap.size + 1) 35 [.int .i64 0, .int .i64 0, .slice none 0 0, .slice none 0 0] := by
    rw [hw2]
    have := Row.new (w.alloc (.cells #[.int .i64 x.1, .int .i64 x.2.1, vo, vg] 35)) 35 [.int .i64 0, .int .i64 0, .slice none 0 0, .slice none 0 0]
    simpa using this
  have hB : Below w.heap.size w w2 := by rw [hw2]; exact ((Below.refl _ w).alloc (Nat.le_refl _) _).alloc (by simp) _
  have hsz : w2.heap.size = w.heap.size + 2 := by rw [hw2]; simp
  go_enter Tryd.func35, Tryd.ntmps35
  go_upto_region 1 with fail
  rw [← hw2]
  clear hw2
  have HS := (show Hid (w2.heap.size = w.heap.size + 2) from hsz)
  clear hsz
  have c2 := ra.cell (j := 2) rfl
  have ho2 := (ho.mv (Mv.below hB)).1
  go_wp2_with (first
    | (go_at_call 56; refine (clone_any w2 _ x.2.2.1 ho2 (Nat.le_trans z1 (by decide))).mono ?_; rintro e w3 ⟨v3, rfl, f3, hb3⟩; have ra3 := ra.below hb3)
    | (refine wl_set rfl _ _ _ rfl w.heap.size 2 _ rfl rfl _ _ ra3 (show 2 < 4 by decide) (by kernel_rfl) f3.one ?_; intro w4 ra4 hg4; have ra4' : Row w4 w.heap.size 35 [.int .i64 x.1, .int .i64 x.2.1, v3, vg] := ra4.out; have c3 := ra4'.cell (j := 3) rfl; have hB3 := below_and hB (Nat.le_refl _) hb3; have hB4 : Below w.heap.size w w4 := hB3.trans (grown_below hg4 hB3.size (fun k hk => by cases hk; exact Nat.le_refl _)); have hg2 := (hg.mv (Mv.below hB4)).1)
    | (go_at_call 56; refine (clone_any w4 _ x.2.2.2 hg2 (Nat.le_trans z2 (by decide))).mono ?_; rintro e w5 ⟨v5, rfl, g5, hb5⟩; have ra5 := ra4'.below hb5)
    | (refine wl_set rfl _ _ _ rfl w.heap.size 3 _ rfl rfl _ _ ra5 (show 3 < 4 by decide) (by kernel_rfl) g5.one ?_; intro w6 ra6 hg6; have ra6' : Row w6 w.heap.size 35 [.int .i64 x.1, .int .i64 x.2.1, v3, v5] := ra6.out; have rr6 := (((rr.below hb3).grown hg4 (fun e => by injection e with e; omega)).below hb5).grown hg6 (fun e => by injection e with e; omega))
    | (refine wl_load rfl _ _ rfl w.heap.size rfl _ _ ra6' _ Tryd.underlying35 rfl (by kernel_rfl) ?_)
    | (refine wl_store rfl _ _ _ rfl (w.heap.size + 1) [.int .i64 x.1, .int .i64 x.2.1, v3, v5] rfl rfl _ _ rr6 rfl (by kernel_rfl) (one4 f3.one g5.one) ?_; intro w7 hr7 hg7))
  have hs2 := HS.out
  have f4 := f3.mv (Mv.from (L := w.heap.size + 2) hg4 (by omega) (by omega))
  have f5 := f4.mv (Mv.belowG hb5)
  have f6 := f5.mv (Mv.from (L := w.heap.size + 2) hg6 (by omega) (Nat.le_refl _))
  have f7 := f6.mv (Mv.from (L := w.heap.size) hg7 (by omega) (by omega))
  have hs4 := Nat.le_trans hb3.size hg4.size
  have g6 := g5.mv (Mv.from (L := w.heap.size + 2) hg6 (by omega) (by omega))
  have g7 := g6.mv (Mv.from (L := w.heap.size) hg7 (by omega) (by omega))
  have hB5 := below_and hB4 (Nat.le_refl _) hb5
  have hB6 := hB5.trans (grown_below hg6 hB5.size (fun k hk => by cases hk; exact Nat.le_refl _))
  have hB7 := hB6.trans (grown_below hg7 hB6.size (fun k hk => by cases hk; omega))
  have hr7 := hr7.out
  refine bodyPost_ret (v := .agg ([.int .i64 x.1, .int .i64 x.2.1, v3, v5] : List Value).toArray) (results_cell_row rfl _ _ (w.heap.size + 1) _ _ (0, 0) _ (by rfl) hr7 Tryd.underlying35 rfl (by kernel_rfl)) rfl ?_
  exact ⟨_, rfl, ⟨_, _, rfl, f7, g7⟩, hB7⟩

set_option maxRecDepth 10000 in
set_option maxHeartbeats 4000000 in
/-- vote.Ask. -/
theorem ask_any (w : World) (r : List Value) (x : PReq) (h : RReq Any w r x) (z1 : x.2.2.1.length ≤ 3000000) (hT : Tab w) :
    Calls Tryd.prog 13 #[.agg r.toArray] w fun e w' => ∃ r', e = .returned (.agg r'.toArray) ∧ RReq Any w' r' (x.1, x.2.1, x.2.2.1, askS x) ∧ Below w.heap.size w w' := by
  have hall := h
  obtain ⟨vo, vg, rfl, ho, hg⟩ := h
  obtain ⟨w2, hw2⟩ : ∃ w2, w2 = (w.alloc (.cells #[.int .i64 x.1, .int .i64 x.2.1, vo, vg] 35)).alloc (.cells #[.int .i64 0, .int .i64 0, .slice none 0 0, .slice none 0 0] 35) := ⟨_, rfl⟩
  have ra : Row w2 w.heap.size 35 [.int .i64 x.1, .int .i64 x.2.1, vo, vg] := by rw [hw2]; exact rowA (Row.new w 35 _) _
  have rr : Row w2 (w.heap.size + 1) 35 [.int .i64 0, .int .i64 0, .slice none 0 0, .slice none 0 0] := by
    rw [hw2]
    have := Row.new (w.alloc (.cells #[.int .i64 x.1, .int .i64 x.2.1, vo, vg] 35)) 35 [.int .i64 0, .int .i64 0, .slice none 0 0, .slice none 0 0]
    simpa using this
  have hB : Below w.heap.size w w2 := by rw [hw2]; exact ((Below.refl _ w).alloc (Nat.le_refl _) _).alloc (by simp) _
  have hdw : Below w2.heap.size w2 w2.drew := ⟨rfl, rfl, rfl, Nat.le_refl _, fun _ _ => rfl⟩
  have hBd := below_and hB (Nat.le_refl _) hdw
  have HP := (show Hid (∀ _ : Unit, _) from fun _ => askParts_any w2.drew _ x (mov_req _ _ _ _ _ _ hall hBd.size (Mv.below hBd)))
  have HR := (show Hid (∀ u : World, Calls Tryd.prog 33 #[.int .i64 x.1] u fun e w' => e = .returned (.int .i64 (cliL x.1)) ∧ w' = u) from fun u => client_any u x.1)
  have HT := (show Hid (tot (askP x) ≤ 4000000) from askP_tot z1)
  have hT2 := hT.below hB
  go_enter Tryd.func13, Tryd.ntmps13
  go_upto_region 1 with fail
  rw [← hw2]
  clear hw2
  have a0 := ra.cell (j := 0) rfl
  have a1 := ra.cell (j := 1) rfl
  have a2 := ra.cell (j := 2) rfl
  have a3 := ra.cell (j := 3) rfl
  go_wp2_with fail
  go_region_law (first
    | (go_simp; go_at_call 32; refine (sign_any w3 (cliL x.1) ⟨#[114, 101, 113, 117, 101, 115, 116]⟩ v3 _ r3 (by decide) HT.out (hT2.below hb3)).mono ?_; rintro e w4 ⟨v4, rfl, ho4, hf4, hb4⟩; have hB4 : Below w2.heap.size w2 w4 := below_and hb3 (Nat.le_refl _) hb4; have ra4 := ra.below hB4; have d3 := ra4.cell (j := 3) rfl; have z3 := ra4.frozen 3; have hRT := RT.own ho4 (signL_byt _ _ _) hf4; clear ho4; obtain ⟨ax4, c4, rfl, hc4⟩ := hRT.form)
    | (go_simp; go_at_call 34; refine (HP.out ()).mono ?_; rintro e w3 ⟨v3, rfl, r3, hb3'⟩; have hb3 : Below w2.heap.size w2 w3 := below_and hdw (Nat.le_refl _) hb3')
    | (go_simp; go_at_call 33; refine (HR.out _).mono ?_; rintro e w5 ⟨rfl, rfl⟩))
  all_goals (
    change RT (From w3.heap.size) w4 (.slice ax4 (askS x).length c4) (askS x) at hRT
    have hlt3 : w.heap.size + 1 < w3.heap.size := Nat.lt_of_lt_of_le rr.lt hb3.size
    have ra5 := ra4.set 3 (.slice ax4 (askS x).length c4)
    have hg5 := grown_set w4 w.heap.size 3 (.slice ax4 (askS x).length c4)
    have rr5 := (rr.below hB4).grown hg5 (fun e => by injection e with e; omega)
    have B4 := below_and hB (Nat.le_refl _) hB4
    have B5 := B4.trans (grown_below hg5 B4.size (fun k hk => by cases hk; exact Nat.le_refl _))
    have f5 : RT Any _ (.slice ax4 (askS x).length c4) (askS x) := (hRT.mv (Mv.from (L := w.heap.size) hg5 (by omega) (by omega))).mv Mv.any
    have o5 := ho.mv (Mv.below B5)
    obtain ⟨w5, hw5⟩ : ∃ w5, w5 = w4.setCell ⟨w.heap.size, 3, none⟩ (.slice ax4 (askS x).length c4) := ⟨_, rfl⟩
    have hgl : (signL (cliL x.1) (sL ⟨#[114, 101, 113, 117, 101, 115, 116]⟩) (askP x)).length = (askS x).length := rfl
    rw [hgl, ← hw5]
    rw [← hw5] at ra5 rr5 B5 f5 o5
    have ra5 : Row w5 w.heap.size 35 [.int .i64 x.1, .int .i64 x.2.1, vo, .slice ax4 (askS x).length c4] := ra5
    clear hw5 hgl hg5 hRT hf4 hb4 hB4 ra4 d3 z3 a0 a1 a2 a3 B4
    have hC := cloneReq_any w5 [.int .i64 x.1, .int .i64 x.2.1, vo, .slice ax4 (askS x).length c4] (x.1, x.2.1, x.2.2.1, askS x) ⟨_, _, rfl, o5, f5⟩ (by show x.2.2.1.length ≤ _; omega) (by show (askS x).length ≤ _; unfold askS signL; split; rw [show (shaL (packL ([signW, enc (cliL x.1), sL ⟨#[114, 101, 113, 117, 101, 115, 116]⟩] ++ askP x))).length = 32 from out_len _]; decide; decide)
    have HC := (show Hid (∀ _ : Unit, _) from fun _ => hC)
    have e0 := ra5.cell (j := 0) rfl
    have e1 := ra5.cell (j := 1) rfl
    have e2 := ra5.cell (j := 2) rfl
    have e3 := ra5.cell (j := 3) rfl
    clear hC
    go_wp2_with fail
    refine (HC.out ()).mono ?_
    rintro e w6 ⟨r6, rfl, q6, hb6⟩
    have B6 := below_and B5 (Nat.le_refl _) hb6
    have rr6 := rr5.below hb6
    have hlt6 := rr5.lt
    obtain ⟨o6, g6, rfl, ro6, rg6⟩ := q6
    go_wp2_with (refine wl_store rfl _ _ _ rfl (w.heap.size + 1) [.int .i64 x.1, .int .i64 x.2.1, o6, g6] rfl rfl _ _ rr6 rfl (by kernel_rfl) (one4 ro6.one rg6.one) ?_; intro w7 hr7 hg7)
    have q7 := mov_req _ _ _ _ _ _ (show RReq (From w5.heap.size) w6 _ (x.1, x.2.1, x.2.2.1, askS x) from ⟨_, _, rfl, ro6, rg6⟩) hg7.size (Mv.from (L := w.heap.size) hg7 hlt6 (by omega))
    have q8 := mov_req _ _ _ _ _ _ q7 (Nat.le_refl _) (Mv.any (w := w7))
    have B7 := B6.trans (grown_below hg7 B6.size (fun k hk => by cases hk; omega))
    refine bodyPost_ret (v := .agg ([.int .i64 x.1, .int .i64 x.2.1, o6, g6] : List Value).toArray) (results_cell_row rfl _ _ (w.heap.size + 1) _ _ (0, 0) _ (by rfl) hr7.out Tryd.underlying35 rfl (by kernel_rfl)) rfl ?_
    exact ⟨_, rfl, q8, B7⟩)

set_option maxRecDepth 10000 in
set_option maxHeartbeats 2000000 in
/-- vote.mayAsk. -/
theorem mayAsk_any (w : World) (r : List Value) (x : PReq) (h : RReq Any w r x) [Decidable (mayL x)] :
    Calls Tryd.prog 41 #[.agg r.toArray] w fun e w' => e = .returned (.bool (decide (mayL x))) ∧ Below w.heap.size w w' := by
  obtain ⟨vo, vg, rfl, ho, hg⟩ := h
  obtain ⟨ao, ac, rfl, hac⟩ := ho.form
  have b0 := below_alloc w (.cells #[.int .i64 x.1, .int .i64 x.2.1, .slice ao x.2.2.1.length ac, vg] 35)
  by_cases h1 : 1 ≤ x.1
  rotate_left
  · rw [decide_eq_false (fun e : mayL x => h1 e.1)]
    have d1 : decide (1 ≤ x.1) = false := decide_eq_false h1
    go_enter Tryd.func41, Tryd.ntmps41
    go_wp2_with fail
    go_ret
    exact ⟨rfl, b0⟩
  by_cases h2 : x.1 ≤ 4
  rotate_left
  · rw [decide_eq_false (fun e : mayL x => h2 e.2.1)]
    have d2 : decide (x.1 ≤ 4) = false := decide_eq_false h2
    go_enter Tryd.func41, Tryd.ntmps41
    go_wp2_with fail
    go_ret
    exact ⟨rfl, b0⟩
  by_cases h3 : 1 ≤ x.2.1
  rotate_left
  · rw [decide_eq_false (fun e : mayL x => h3 e.2.2.1)]
    have d3 : decide (1 ≤ x.2.1) = false := decide_eq_false h3
    go_enter Tryd.func41, Tryd.ntmps41
    go_wp2_with fail
    go_ret
    exact ⟨rfl, b0⟩
  by_cases h4 : x.2.1 ≤ 2147483647
  rotate_left
  · rw [decide_eq_false (fun e : mayL x => h4 e.2.2.2.1)]
    have d4 : decide (x.2.1 ≤ 2147483647) = false := decide_eq_false h4
    go_enter Tryd.func41, Tryd.ntmps41
    go_wp2_with fail
    go_ret
    exact ⟨rfl, b0⟩
  by_cases h5 : 1 ≤ x.2.2.1.length
  rotate_left
  · rw [decide_eq_false (fun e : mayL x => h5 e.2.2.2.2.1)]
    have e5 : x.2.2.1.length = 0 := by omega
    rw [e5] at b0 ⊢
    go_enter Tryd.func41, Tryd.ntmps41
    go_wp2_with fail
    go_ret
    exact ⟨rfl, b0⟩
  have h5' : (1 : Int) ≤ (x.2.2.1.length : Int) := by omega
  by_cases h6 : x.2.2.1.length ≤ 256
  rotate_left
  · rw [decide_eq_false (fun e : mayL x => h6 e.2.2.2.2.2)]
    have d6 : decide ((x.2.2.1.length : Int) ≤ 256) = false := decide_eq_false (by omega)
    go_enter Tryd.func41, Tryd.ntmps41
    go_wp2_with fail
    go_ret
    exact ⟨rfl, b0⟩
  have h6' : (x.2.2.1.length : Int) ≤ 256 := by omega
  rw [decide_eq_true (show mayL x from ⟨h1, h2, h3, h4, h5, h6⟩)]
  go_enter Tryd.func41, Tryd.ntmps41
  go_wp2_with fail
  go_ret
  exact ⟨rfl, b0⟩
end Go.Proofs.YtmfmfjndigjlfaaDoor
