/- The document's own answer for layer 6: requests. -/
import Derived.Test.YtgbfmccecnfooaaGreatDoorCLBQ
import Derived.Test.YtgbfmccecnfooaaGreatDoorCLBB
set_option linter.unusedVariables false
namespace Go.Proofs.YtgbfmccecnfooaaGreatDoor
open Go.RowKit Oct Sha
theorem refCli_any (w : World) (i : Int) : Calls Tryz.prog 99 #[.int .i64 i] w fun e w' => e = .returned (.int .i64 (cliL i)) ∧ w' = w := by
  by_cases h0 : 1 ≤ i
  · by_cases h1 : i ≤ 27
    · rw [cliL, if_pos (by omega)]
      go_enter Tryz.func99, Tryz.ntmps99
      go_wp2_with fail
      go_ret
      exact ⟨rfl, rfl⟩
    · rw [cliL, if_neg (by omega)]
      go_enter Tryz.func99, Tryz.ntmps99
      go_wp2_with fail
      go_ret
      exact ⟨rfl, rfl⟩
  · rw [cliL, if_neg (by omega)]
    go_enter Tryz.func99, Tryz.ntmps99
    go_wp2_with fail
    go_ret
    exact ⟨rfl, rfl⟩
set_option maxRecDepth 10000 in
set_option maxHeartbeats 4000000 in
/-- The document's Ask. -/
theorem refAsk_any (w : World) (r : List Value) (x : PReq) (h : RReq Any w r x) (hl : x.2.2.1.length ≤ 3000000) :
    Calls Tryz.prog 66 #[.agg r.toArray] w fun e w' => ∃ r', e = .returned (.agg r'.toArray) ∧ RReq Any w' r' (x.1, x.2.1, x.2.2.1, askS x) ∧ Below w.heap.size w w' := by
  obtain ⟨vo, vg, rfl, ho, hg⟩ := h
  obtain ⟨ao, ac, rfl, hac⟩ := ho.form
  obtain ⟨w0, hw0⟩ : ∃ w0, w0 = (w.alloc (.cells #[.int .i64 x.1, .int .i64 x.2.1, .slice ao x.2.2.1.length ac, vg] 62)).alloc (.cells #[.int .i64 0, .int .i64 0, .slice none 0 0, .slice none 0 0] 62) := ⟨_, rfl⟩
  have ra : Row w0 w.heap.size 62 [.int .i64 x.1, .int .i64 x.2.1, .slice ao x.2.2.1.length ac, vg] := by rw [hw0]; exact rowA (Row.new w 62 _) _
  have rr : Row w0 (w.heap.size + 1) 62 [.int .i64 0, .int .i64 0, .slice none 0 0, .slice none 0 0] := by
    rw [hw0]
    have := Row.new (w.alloc (.cells #[.int .i64 x.1, .int .i64 x.2.1, .slice ao x.2.2.1.length ac, vg] 62)) 62 [.int .i64 0, .int .i64 0, .slice none 0 0, .slice none 0 0]
    simpa using this
  have B0 : Below w.heap.size w w0 := by rw [hw0]; exact ((Below.refl _ w).alloc (Nat.le_refl _) _).alloc (by simp) _
  have hr := rdv_els w0 (nc [x.1, x.2.1]) 3 (by simp [nc]) (by simp [nc])
  have b0 := below_alloc w0 (.cells (nc [x.1, x.2.1]).toArray 3)
  have HN := (show Hid (∀ _ : Unit, _) from fun _ => refNums_any _ _ [x.1, x.2.1] hr.drew (by simp) (by simp))
  have HR := (show Hid (∀ u : World, Calls Tryz.prog 99 #[.int .i64 x.1] u fun e w' => e = .returned (.int .i64 (cliL x.1)) ∧ w' = u) from fun u => refCli_any u x.1)
  have HT := (show Hid (tot [numsL [x.1, x.2.1], x.2.2.1] ≤ 4000000) from askP_tot hl)
  have SK := (show Hid (∀ u, Below w0.heap.size w0 u → u.cell? ⟨w.heap.size, 0, none⟩ = some (.int .i64 x.1) ∧ u.cell? ⟨w.heap.size, 1, none⟩ = some (.int .i64 x.2.1) ∧ u.cell? ⟨w.heap.size, 2, none⟩ = some (.slice ao x.2.2.1.length ac)) from fun u hu => ⟨(ra.below hu).cell (j := 0) rfl, (ra.below hu).cell (j := 1) rfl, (ra.below hu).cell (j := 2) rfl⟩)
  obtain ⟨a0, a1, a2⟩ := SK.out w0 (Below.refl _ _)
  have HO := (show Hid (∀ u, Below w0.heap.size w0 u → Rd u (.slice ao x.2.2.1.length ac) x.2.2.1) from fun u hu => (ho.mv (Mv.below (below_and B0 (Nat.le_refl _) hu))).1)
  go_enter Tryz.func66, Tryz.ntmps66
  go_upto_region 1 with fail
  rw [← hw0]
  clear hw0
  go_wp2_with fail
  go_region_held3 (fun u => u.cell? ⟨w.heap.size, 0, none⟩ = some (.int .i64 x.1) ∧ u.cell? ⟨w.heap.size, 1, none⟩ = some (.int .i64 x.2.1) ∧ u.cell? ⟨w.heap.size, 2, none⟩ = some (.slice ao x.2.2.1.length ac))
    (first | exact SK.out _ (by assumption) | exact hS5 _ | go_keep)
    (first
      | (go_at_call 98; refine (refSign_any _ (cliL x.1) ⟨#[114, 101, 113, 117, 101, 115, 116]⟩ _ [numsL [x.1, x.2.1], x.2.2.1] r2 (by decide) HT.out).mono ?_; rintro e w4 ⟨v4, rfl, ho4, hf4, hb4⟩; have hB4 : Below w0.heap.size w0 w4 := below_and B2 (Nat.le_refl _) hb4; have ra4 := ra.below hB4; have d3 := ra4.cell (j := 3) rfl; have z3 := ra4.frozen 3; have hRT := RT.own ho4 (signL_byt _ _ _) hf4; clear ho4; obtain ⟨ax4, c4, rfl, hc4⟩ := hRT.form; have hS5 : ∀ vv : Value, (w4.setCell ⟨w.heap.size, 3, none⟩ vv).cell? ⟨w.heap.size, 0, none⟩ = some (.int .i64 x.1) ∧ (w4.setCell ⟨w.heap.size, 3, none⟩ vv).cell? ⟨w.heap.size, 1, none⟩ = some (.int .i64 x.2.1) ∧ (w4.setCell ⟨w.heap.size, 3, none⟩ vv).cell? ⟨w.heap.size, 2, none⟩ = some (.slice ao x.2.2.1.length ac) := fun vv => ⟨cell_set_ne (ra4.cell (j := 0) rfl) (by decide), cell_set_ne (ra4.cell (j := 1) rfl) (by decide), cell_set_ne (ra4.cell (j := 2) rfl) (by decide)⟩)
      | (go_at_call 100; refine (HN.out ()).mono ?_; rintro e w1 ⟨v1, rfl, ho1, hf1, hb1⟩; have B1 : Below w0.heap.size w0 w1 := below_and b0.drew (Nat.le_refl _) hb1; have r1 := ho1.rd (numsL_byt _); clear ho1; obtain ⟨a1', c1', rfl, hc1'⟩ := r1.form; have b2 := below_alloc w1 (.cells #[.slice a1' (numsL [x.1, x.2.1]).length c1', .slice ao x.2.2.1.length ac] 24); have B2 := below_and B1 (Nat.le_refl _) b2; have r2 : Rdl (w1.alloc (.cells #[.slice a1' (numsL [x.1, x.2.1]).length c1', .slice ao x.2.2.1.length ac] 24)) (.slice (some ⟨w1.heap.size, 0, none⟩) 2 2) [numsL [x.1, x.2.1], x.2.2.1] := ⟨[.slice a1' (numsL [x.1, x.2.1]).length c1', .slice ao x.2.2.1.length ac], rdv_els w1 [.slice a1' (numsL [x.1, x.2.1]).length c1', .slice ao x.2.2.1.length ac] 24 (by simp) (by simp), r1.below b2, HO.out _ B2, trivial⟩)
      | (go_at_call 99; refine (HR.out _).mono ?_; rintro e w9 ⟨rfl, rfl⟩))
  all_goals (
    change RT (From _) w4 (.slice ax4 (askS x).length c4) (askS x) at hRT
    have hltM := Nat.lt_of_lt_of_le rr.lt B2.size
    have ra5 := ra4.set 3 (.slice ax4 (askS x).length c4)
    have hg5 := grown_set w4 w.heap.size 3 (.slice ax4 (askS x).length c4)
    have rr5 := (rr.below hB4).grown hg5 (fun e => by injection e with e; omega)
    have B4 := below_and B0 (Nat.le_refl _) hB4
    have B5 := B4.trans (grown_below hg5 B4.size (fun k hk => by cases hk; exact Nat.le_refl _))
    have f5 := hRT.mv (Mv.from (L := w.heap.size + 2) hg5 (by omega) (by omega))
    obtain ⟨w5, hw5⟩ : ∃ w5, w5 = w4.setCell ⟨w.heap.size, 3, none⟩ (.slice ax4 (askS x).length c4) := ⟨_, rfl⟩
    have hgl : (signL (cliL x.1) (sL ⟨#[114, 101, 113, 117, 101, 115, 116]⟩) [numsL [x.1, x.2.1], x.2.2.1]).length = (askS x).length := rfl
    rw [hgl, ← hw5]
    rw [← hw5] at ra5 rr5 B5 f5
    have ra5 : Row w5 w.heap.size 62 [.int .i64 x.1, .int .i64 x.2.1, .slice ao x.2.2.1.length ac, .slice ax4 (askS x).length c4] := ra5
    clear hw5 hgl hg5 hRT hf4 hb4 hB4 ra4 d3 z3 a0 a1 a2 B4 hS5 r2 b2 B2 B1
    go_wp2_with (first
      | (refine wl_load rfl _ _ rfl w.heap.size rfl _ _ ra5 _ Tryz.underlying62 rfl (by kernel_rfl) ?_)
      | (refine wl_store rfl _ _ _ rfl (w.heap.size + 1) [.int .i64 x.1, .int .i64 x.2.1, .slice ao x.2.2.1.length ac, .slice ax4 (askS x).length c4] rfl rfl _ _ rr5 rfl (by kernel_rfl) (one4 rfl rfl) ?_; intro w7 hr7 hg7))
    have f7 := (f5.mv (Mv.from (L := w.heap.size) hg7 (by omega) (by omega))).mv (Mv.any (w := w7))
    have B7 := B5.trans (grown_below hg7 B5.size (fun k hk => by cases hk; omega))
    refine bodyPost_ret (v := .agg ([.int .i64 x.1, .int .i64 x.2.1, .slice ao x.2.2.1.length ac, .slice ax4 (askS x).length c4] : List Value).toArray) (results_cell_row rfl _ _ (w.heap.size + 1) _ _ (0, 0) _ (by rfl) hr7.out Tryz.underlying62 rfl (by kernel_rfl)) rfl ?_
    exact ⟨_, rfl, ⟨_, _, rfl, ho.mv (Mv.below B7), f7⟩, B7⟩)
theorem fld3 (a b : Int) (o g : Option Addr) (n m c d : Nat) (u : World) : (Instr.field 62 (.agg #[.int .i64 a, .int .i64 b, .slice o n c, .slice g m d]) 3).run Tryz.prog u = .ok (.slice g m d) u := by kernel_rfl
set_option maxRecDepth 10000 in
set_option maxHeartbeats 4000000 in
/-- The document's Asked. -/
theorem refAsked_any (w : World) (r : List Value) (x : PReq) (h : RReq Any w r x) (hl : x.2.2.1.length ≤ 3000000) :
    Calls Tryz.prog 38 #[.agg r.toArray] w fun e w' => e = .returned (.bool (askedL x)) ∧ Below w.heap.size w w' := by
  have hall := h
  obtain ⟨vo, vg, rfl, ho, hg⟩ := h
  obtain ⟨ao, ac, rfl, hac⟩ := ho.form
  have b0 := below_alloc w (.cells #[.int .i64 x.1, .int .i64 x.2.1, .slice ao x.2.2.1.length ac, vg] 62)
  by_cases hm : mayL x
  rotate_left
  · have hf : askedL x = false := by rw [askedL, decide_eq_false hm]; rfl
    rw [hf]
    have hc : x.1 < 1 ∨ (1 ≤ x.1 ∧ 4 < x.1) ∨ (1 ≤ x.1 ∧ x.1 ≤ 4 ∧ x.2.1 < 1) ∨ (1 ≤ x.1 ∧ x.1 ≤ 4 ∧ 1 ≤ x.2.1 ∧ 2147483647 < x.2.1) ∨ (1 ≤ x.1 ∧ x.1 ≤ 4 ∧ 1 ≤ x.2.1 ∧ x.2.1 ≤ 2147483647 ∧ x.2.2.1.length = 0) ∨ (1 ≤ x.1 ∧ x.1 ≤ 4 ∧ 1 ≤ x.2.1 ∧ x.2.1 ≤ 2147483647 ∧ (1 : Int) ≤ x.2.2.1.length ∧ (256 : Int) < x.2.2.1.length) := by
      unfold mayL at hm
      omega
    clear hf hm
    rcases hc with h1 | ⟨h1, h2⟩ | ⟨h1, h2, h3⟩ | ⟨h1, h2, h3, h4⟩ | ⟨h1, h2, h3, h4, h5⟩ | ⟨h1, h2, h3, h4, h5, h6⟩
    case inr.inr.inr.inr.inl =>
      rw [h5] at b0 ⊢
      go_enter Tryz.func38, Tryz.ntmps38
      go_wp2_with fail
      go_ret
      exact ⟨rfl, b0⟩
    all_goals
      go_enter Tryz.func38, Tryz.ntmps38
      go_wp2_with fail
      go_ret
      exact ⟨rfl, b0⟩
  have hx : askedL x = decide (x.2.2.2 = askS x) := by rw [askedL, decide_eq_true hm, Bool.true_and]
  rw [hx]
  obtain ⟨h1, h2, h3, h4, h5, h6⟩ := hm
  have h5' : (1 : Int) ≤ x.2.2.1.length := by omega
  have h6' : (x.2.2.1.length : Int) ≤ 256 := by omega
  obtain ⟨w0, hw0⟩ : ∃ w0, w0 = w.alloc (.cells #[.int .i64 x.1, .int .i64 x.2.1, .slice ao x.2.2.1.length ac, vg] 62) := ⟨_, rfl⟩
  have ra : Row w0 w.heap.size 62 [.int .i64 x.1, .int .i64 x.2.1, .slice ao x.2.2.1.length ac, vg] := by rw [hw0]; exact Row.new w 62 _
  have B0 : Below w.heap.size w w0 := by rw [hw0]; exact below_alloc _ _
  clear b0
  obtain ⟨d, hd⟩ : ∃ d, d = decide (x.2.2.2 = askS x) := ⟨_, rfl⟩
  rw [← hd]
  have HD := (show Hid (d = decide (x.2.2.2 = askS x)) from hd)
  clear hd hx
  have hdw : Below w0.heap.size w0 w0.drew := ⟨rfl, rfl, rfl, Nat.le_refl _, fun _ _ => rfl⟩
  have hBd := below_and B0 (Nat.le_refl _) hdw
  have HA := (show Hid (∀ _ : Unit, _) from fun _ => refAsk_any w0.drew _ x (mov_req _ _ _ _ _ _ hall hBd.size (Mv.below hBd)) hl)
  have SK := (show Hid (∀ u, Below w0.heap.size w0 u → u.cell? ⟨w.heap.size, 0, none⟩ = some (.int .i64 x.1) ∧ u.cell? ⟨w.heap.size, 1, none⟩ = some (.int .i64 x.2.1) ∧ u.cell? ⟨w.heap.size, 2, none⟩ = some (.slice ao x.2.2.1.length ac) ∧ u.cell? ⟨w.heap.size, 3, none⟩ = some vg) from fun u hu => ⟨(ra.below hu).cell (j := 0) rfl, (ra.below hu).cell (j := 1) rfl, (ra.below hu).cell (j := 2) rfl, (ra.below hu).cell (j := 3) rfl⟩)
  have HG := (show Hid (∀ u, Below w0.heap.size w0 u → Rd u vg x.2.2.2) from fun u hu => (hg.mv (Mv.below (below_and B0 (Nat.le_refl _) hu))).1)
  obtain ⟨a0, a1, a2, a3⟩ := SK.out w0 (Below.refl _ _)
  rw [hw0] at a0 a1 a2 a3
  have hfl := fld3
  go_enter Tryz.func38, Tryz.ntmps38
  go_wp2_with fail
  rw [← hw0]
  rw [← hw0] at a0 a1 a2 a3
  clear hw0
  go_region_held3 (fun u => u.cell? ⟨w.heap.size, 0, none⟩ = some (.int .i64 x.1) ∧ u.cell? ⟨w.heap.size, 1, none⟩ = some (.int .i64 x.2.1) ∧ u.cell? ⟨w.heap.size, 2, none⟩ = some (.slice ao x.2.2.1.length ac) ∧ u.cell? ⟨w.heap.size, 3, none⟩ = some vg)
    (first | exact SK.out _ (by assumption) | go_keep)
    (first
      | (go_at_call 22; have hSm := same_any w2 vg _ x.2.2.2 (askS x) (HG.out w2 hb2) rg2.1; rw [← HD.out] at hSm; refine hSm.mono ?_; rintro e w2 ⟨rfl, rfl⟩)
      | (go_at_call 66; refine (HA.out ()).mono ?_; rintro e w2 ⟨r2, rfl, q2, hb2'⟩; have hb2 : Below w0.heap.size w0 w2 := below_and hdw (Nat.le_refl _) hb2'; obtain ⟨o2, g2, rfl, ro2, rg2⟩ := q2; obtain ⟨ao2, ac2, rfl, hac2⟩ := ro2.form; obtain ⟨ag2, gc2, rfl, hgc2⟩ := rg2.form))
  go_wp2_with fail
  go_ret
  exact ⟨rfl, below_and B0 (Nat.le_refl _) hb2⟩
end Go.Proofs.YtgbfmccecnfooaaGreatDoor
