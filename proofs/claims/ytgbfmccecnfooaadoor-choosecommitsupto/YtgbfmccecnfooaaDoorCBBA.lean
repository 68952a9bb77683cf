/- The walks over packages clone and vote: requests that are copied, signed, asked. -/
import Derived.Test.YtgbfmccecnfooaaDoorCBAV
import Derived.Test.YtgbfmccecnfooaaDoorCBAS
import Derived.Deep.Cut
import Derived.Test.YtgbfmccecnfooaaDoorCBAY
set_option linter.unusedVariables false
namespace Go.Proofs.YtgbfmccecnfooaaDoor
section
open Go.RowKit Oct Sha
set_option maxRecDepth 10000 in
set_option maxHeartbeats 1000000 in
/-- vote.voteParts. -/
theorem voteParts_any (w : World) (k x y s : Int) (v : Value) (l : List Int) (hv : Rd w v l) :
    Calls Tryd.prog 48 #[.int .i64 k, .agg #[.int .i64 x, .int .i64 y], .int .i64 s, v] w fun e w' => ∃ v', e = .returned v' ∧ Rdl w' v' [numsL [k, x, y, s], l] ∧ Below w.heap.size w w' := by
  obtain ⟨ao, cap, rfl, hcap⟩ := hv.form
  go_enter Tryd.func48, Tryd.ntmps48
  go_wp2_with fail
  have hr := rdv_els (w.alloc (.cells #[.int .i64 x, .int .i64 y] 23)) (nc [k, x, y, s]) 3 (by simp [nc]) (by simp [nc])
  rw [show (w.alloc (.cells #[.int .i64 x, .int .i64 y] 23)).heap.size = w.heap.size + 1 by simp] at hr
  have b0 : Below w.heap.size w ((w.alloc (.cells #[.int .i64 x, .int .i64 y] 23)).alloc (.cells (nc [k, x, y, s]).toArray 3)) := below_and (below_alloc w _) (Nat.le_refl _) (below_alloc _ _)
  refine (nums_any _ _ [k, x, y, s] hr (by simp) (by simp)).mono ?_
  rintro e w1 ⟨v1, rfl, ho1, hf1, hb1⟩
  have B1 := below_and b0 (Nat.le_refl _) hb1
  have r1 := ho1.rd (numsL_byt _)
  have v1' := hv.below B1
  clear hr b0 hb1 ho1 hf1
  obtain ⟨a1, c1, rfl, hc1⟩ := r1.form
  go_wp2_with fail
  go_ret
  exact ⟨_, rfl, ⟨[.slice a1 (numsL [k, x, y, s]).length c1, .slice ao l.length cap], rdv_els w1 [.slice a1 (numsL [k, x, y, s]).length c1, .slice ao l.length cap] 26 (by simp) (by simp), r1.below (below_alloc _ _), v1'.below (below_alloc _ _), trivial⟩, below_and B1 (Nat.le_refl _) (below_alloc _ _)⟩
set_option maxRecDepth 10000 in
set_option maxHeartbeats 2000000 in
/-- vote.Right. -/
theorem vRight_any (w : World) (k x y s i : Int) (v : Value) (l : List Int) (hv : Rd w v l) (hl : l.length ≤ 3000000) (gv : Value) (g : List Int) (hg : Rd w gv g) (hT : Tab w) :
    Calls Tryd.prog 46 #[.int .i64 k, .agg #[.int .i64 x, .int .i64 y], .int .i64 s, v, .agg #[.int .i64 i, gv]] w fun e w' => e = .returned (.bool (verL (repL i) g (sL ⟨#[118, 111, 116, 101]⟩) [numsL [k, x, y, s], l])) ∧ Below w.heap.size w w' := by
  obtain ⟨ao, cap, rfl, hcap⟩ := hv.form
  obtain ⟨ag, gap, rfl, hgap⟩ := hg.form
  obtain ⟨w0, hw0⟩ : ∃ w0, w0 = (w.alloc (.cells #[.int .i64 x, .int .i64 y] 23)).alloc (.cells #[.int .i64 i, .slice ag g.length gap] 54) := ⟨_, rfl⟩
  have ra : Row w0 w.heap.size 23 [.int .i64 x, .int .i64 y] := by rw [hw0]; exact (Row.new w 23 _).below (below_alloc _ _)
  have rb : Row w0 (w.heap.size + 1) 54 [.int .i64 i, .slice ag g.length gap] := by rw [hw0, show w.heap.size + 1 = (w.alloc (.cells #[.int .i64 x, .int .i64 y] 23)).heap.size by simp]; exact Row.new _ 54 _
  have B0 : Below w.heap.size w w0 := by rw [hw0]; exact below_and (below_alloc _ _) (Nat.le_refl _) (below_alloc _ _)
  have hdw : Below w0.heap.size w0 w0.drew := ⟨rfl, rfl, rfl, Nat.le_refl _, fun _ _ => rfl⟩
  go_enter Tryd.func46, Tryd.ntmps46
  go_upto_region 1 with fail
  rw [← hw0]
  clear hw0
  have v0 := hv.below B0
  have g0 := hg.below B0
  have SK := (show Hid (∀ u, Below w0.heap.size w0 u → u.cell? ⟨w.heap.size, 0, none⟩ = some (.int .i64 x) ∧ u.cell? ⟨w.heap.size, 1, none⟩ = some (.int .i64 y) ∧ u.cell? ⟨w.heap.size + 1, 0, none⟩ = some (.int .i64 i) ∧ u.cell? ⟨w.heap.size + 1, 1, none⟩ = some (.slice ag g.length gap)) from fun u hu => ⟨(ra.below hu).cell (j := 0) rfl, (ra.below hu).cell (j := 1) rfl, (rb.below hu).cell (j := 0) rfl, (rb.below hu).cell (j := 1) rfl⟩)
  obtain ⟨a0, a1, a2, a3⟩ := SK.out w0 (Below.refl _ _)
  have HR := (show Hid (∀ u : World, Calls Tryd.prog 40 #[.int .i64 i] u fun e w' => e = .returned (.int .i64 (repL i)) ∧ w' = u) from fun u => replica_any u i)
  have HT := (show Hid (tot [numsL [k, x, y, s], l] ≤ 4000000) by show _ ≤ _; simp only [tot, numsL_len, List.length_cons, List.length_nil]; omega)
  go_wp2_with fail
  go_region_held3 (fun u => u.cell? ⟨w.heap.size, 0, none⟩ = some (.int .i64 x) ∧ u.cell? ⟨w.heap.size, 1, none⟩ = some (.int .i64 y) ∧ u.cell? ⟨w.heap.size + 1, 0, none⟩ = some (.int .i64 i) ∧ u.cell? ⟨w.heap.size + 1, 1, none⟩ = some (.slice ag g.length gap))
    (first | exact SK.out _ (by assumption) | go_keep)
    (first
      | (go_at_call 39; refine (verify_any w3 (repL i) _ g ⟨#[118, 111, 116, 101]⟩ v3 _ (g0.below hb3) r3 (by decide) HT.out (hT.below (below_and B0 (Nat.le_refl _) hb3))).mono ?_; rintro e w4 ⟨rfl, hb4⟩; have hB4 : Below w0.heap.size w0 w4 := below_and hb3 (Nat.le_refl _) hb4)
      | (go_at_call 48; refine (voteParts_any w0.drew k x y s _ l (v0.below hdw)).mono ?_; rintro e w3 ⟨v3, rfl, r3, hb3'⟩; have hb3 : Below w0.heap.size w0 w3 := below_and hdw (Nat.le_refl _) hb3')
      | (go_at_call 40; refine (HR.out _).mono ?_; rintro e w2 ⟨rfl, rfl⟩))
  have B4 := below_and B0 (Nat.le_refl _) hB4
  go_wp2_with fail
  go_ret
  exact ⟨rfl, B4⟩
end
section
open Go.RowKit Oct Sha
def askP (x : PReq) : List (List Int) := [numsL [x.1, x.2.1], x.2.2.1]
def askS (x : PReq) : List Int := signL (cliL x.1) (sL ⟨#[114, 101, 113, 117, 101, 115, 116]⟩) (askP x)
def mayL (x : PReq) : Prop := 1 ≤ x.1 ∧ x.1 ≤ 4 ∧ 1 ≤ x.2.1 ∧ x.2.1 ≤ 2147483647 ∧ 1 ≤ x.2.2.1.length ∧ x.2.2.1.length ≤ 256
theorem askP_tot {x : PReq} (h : x.2.2.1.length ≤ 3000000) : tot (askP x) ≤ 4000000 := by simp only [askP, tot, numsL_len, List.length_cons, List.length_nil]; omega
set_option maxRecDepth 10000 in
set_option maxHeartbeats 1000000 in
/-- vote.askParts. -/
theorem askParts_any (w : World) (r : List Value) (x : PReq) (h : RReq Any w r x) :
    Calls Tryd.prog 72 #[.agg r.toArray] w fun e w' => ∃ v', e = .returned v' ∧ Rdl w' v' (askP x) ∧ Below w.heap.size w w' := by
  obtain ⟨vo, vg, rfl, ho, hg⟩ := h
  obtain ⟨ao, ac, rfl, hac⟩ := ho.form
  obtain ⟨w0, hw0⟩ : ∃ w0, w0 = w.alloc (.cells #[.int .i64 x.1, .int .i64 x.2.1, .slice ao x.2.2.1.length ac, vg] 36) := ⟨_, rfl⟩
  have ra : Row w0 w.heap.size 36 [.int .i64 x.1, .int .i64 x.2.1, .slice ao x.2.2.1.length ac, vg] := by rw [hw0]; exact Row.new w 36 _
  have B0 : Below w.heap.size w w0 := by rw [hw0]; exact below_alloc _ _
  have a0 := ra.cell (j := 0) rfl
  have a1 := ra.cell (j := 1) rfl
  have a2 := ra.cell (j := 2) rfl
  have hr := rdv_els w0 (nc [x.1, x.2.1]) 3 (by simp [nc]) (by simp [nc])
  have b0 := below_alloc w0 (.cells (nc [x.1, x.2.1]).toArray 3)
  have HN := (show Hid (∀ _ : Unit, _) from fun _ => nums_any _ _ [x.1, x.2.1] hr.drew (by simp) (by simp))
  go_enter Tryd.func72, Tryd.ntmps72
  go_upto_region 1 with fail
  rw [← hw0]
  clear hw0
  have SK := (show Hid (∀ u, Below w0.heap.size w0 u → u.cell? ⟨w.heap.size, 0, none⟩ = some (.int .i64 x.1) ∧ u.cell? ⟨w.heap.size, 1, none⟩ = some (.int .i64 x.2.1) ∧ u.cell? ⟨w.heap.size, 2, none⟩ = some (.slice ao x.2.2.1.length ac)) from fun u hu => ⟨(ra.below hu).cell (j := 0) rfl, (ra.below hu).cell (j := 1) rfl, (ra.below hu).cell (j := 2) rfl⟩)
  go_wp2_with fail
  go_region_held3 (fun u => u.cell? ⟨w.heap.size, 0, none⟩ = some (.int .i64 x.1) ∧ u.cell? ⟨w.heap.size, 1, none⟩ = some (.int .i64 x.2.1) ∧ u.cell? ⟨w.heap.size, 2, none⟩ = some (.slice ao x.2.2.1.length ac))
    (first | exact SK.out _ (by assumption) | go_keep)
    (first
      | (go_at_call 62; refine (HN.out ()).mono ?_; rintro e w1 ⟨v1, rfl, ho1, hf1, hb1⟩; have B1 : Below w0.heap.size w0 w1 := below_and b0.drew (Nat.le_refl _) hb1; have r1 := ho1.rd (numsL_byt _); clear ho1; obtain ⟨a1, c1, rfl, hc1⟩ := r1.form))
  have hoB := (ho.mv (Mv.below (below_and B0 (Nat.le_refl _) B1))).1
  go_wp2_with fail
  go_ret
  exact ⟨_, rfl, ⟨[.slice a1 (numsL [x.1, x.2.1]).length c1, .slice ao x.2.2.1.length ac], rdv_els w1 [.slice a1 (numsL [x.1, x.2.1]).length c1, .slice ao x.2.2.1.length ac] 26 (by simp) (by simp), r1.below (below_alloc _ _), hoB.below (below_alloc _ _), trivial⟩, below_and (below_and B0 (Nat.le_refl _) B1) (Nat.le_refl _) (below_alloc _ _)⟩
end
section
open Go.RowKit Oct Sha
set_option maxRecDepth 10000 in
set_option maxHeartbeats 2000000 in
/-- vote.mayAsk. -/
theorem mayAsk_any (w : World) (r : List Value) (x : PReq) (h : RReq Any w r x) [Decidable (mayL x)] :
    Calls Tryd.prog 70 #[.agg r.toArray] w fun e w' => e = .returned (.bool (decide (mayL x))) ∧ Below w.heap.size w w' := by
  obtain ⟨vo, vg, rfl, ho, hg⟩ := h
  obtain ⟨ao, ac, rfl, hac⟩ := ho.form
  have b0 := below_alloc w (.cells #[.int .i64 x.1, .int .i64 x.2.1, .slice ao x.2.2.1.length ac, vg] 36)
  by_cases h1 : 1 ≤ x.1
  rotate_left
  · rw [decide_eq_false (fun e : mayL x => h1 e.1)]
    have d1 : decide (1 ≤ x.1) = false := decide_eq_false h1
    go_enter Tryd.func70, Tryd.ntmps70
    go_wp2_with fail
    go_ret
    exact ⟨rfl, b0⟩
  by_cases h2 : x.1 ≤ 4
  rotate_left
  · rw [decide_eq_false (fun e : mayL x => h2 e.2.1)]
    have d2 : decide (x.1 ≤ 4) = false := decide_eq_false h2
    go_enter Tryd.func70, Tryd.ntmps70
    go_wp2_with fail
    go_ret
    exact ⟨rfl, b0⟩
  by_cases h3 : 1 ≤ x.2.1
  rotate_left
  · rw [decide_eq_false (fun e : mayL x => h3 e.2.2.1)]
    have d3 : decide (1 ≤ x.2.1) = false := decide_eq_false h3
    go_enter Tryd.func70, Tryd.ntmps70
    go_wp2_with fail
    go_ret
    exact ⟨rfl, b0⟩
  by_cases h4 : x.2.1 ≤ 2147483647
  rotate_left
  · rw [decide_eq_false (fun e : mayL x => h4 e.2.2.2.1)]
    have d4 : decide (x.2.1 ≤ 2147483647) = false := decide_eq_false h4
    go_enter Tryd.func70, Tryd.ntmps70
    go_wp2_with fail
    go_ret
    exact ⟨rfl, b0⟩
  by_cases h5 : 1 ≤ x.2.2.1.length
  rotate_left
  · rw [decide_eq_false (fun e : mayL x => h5 e.2.2.2.2.1)]
    have e5 : x.2.2.1.length = 0 := by omega
    rw [e5] at b0 ⊢
    go_enter Tryd.func70, Tryd.ntmps70
    go_wp2_with fail
    go_ret
    exact ⟨rfl, b0⟩
  have h5' : (1 : Int) ≤ (x.2.2.1.length : Int) := by omega
  by_cases h6 : x.2.2.1.length ≤ 256
  rotate_left
  · rw [decide_eq_false (fun e : mayL x => h6 e.2.2.2.2.2)]
    have d6 : decide ((x.2.2.1.length : Int) ≤ 256) = false := decide_eq_false (by omega)
    go_enter Tryd.func70, Tryd.ntmps70
    go_wp2_with fail
    go_ret
    exact ⟨rfl, b0⟩
  have h6' : (x.2.2.1.length : Int) ≤ 256 := by omega
  rw [decide_eq_true (show mayL x from ⟨h1, h2, h3, h4, h5, h6⟩)]
  go_enter Tryd.func70, Tryd.ntmps70
  go_wp2_with fail
  go_ret
  exact ⟨rfl, b0⟩
end
end Go.Proofs.YtgbfmccecnfooaaDoor
