/- The walks over packages clone and vote: requests that are copied, signed, asked. -/
import Derived.Test.YtgbfmccecnfooaaGreatDoorCRBA
import Derived.Test.YtgbfmccecnfooaaGreatDoorCRAN
set_option linter.unusedVariables false
namespace Go.Proofs.YtgbfmccecnfooaaGreatDoor
section
open Go.RowKit Oct Sha
def askP (x : PReq) : List (List Int) := [numsL [x.1, x.2.1], x.2.2.1]
def askS (x : PReq) : List Int := signL (cliL x.1) (sL ⟨#[114, 101, 113, 117, 101, 115, 116]⟩) (askP x)
def mayL (x : PReq) : Prop := 1 ≤ x.1 ∧ x.1 ≤ 4 ∧ 1 ≤ x.2.1 ∧ x.2.1 ≤ 2147483647 ∧ 1 ≤ x.2.2.1.length ∧ x.2.2.1.length ≤ 256
theorem askP_tot {x : PReq} (h : x.2.2.1.length ≤ 3000000) : tot (askP x) ≤ 4000000 := by simp only [askP, tot, numsL_len, List.length_cons, List.length_nil]; omega
set_option maxRecDepth 10000 in
set_option maxHeartbeats 1000000 in
/-- vote.askParts. -/
theorem askParts_any (w : World) (r : List Value) (x : PReq) (h : RReq Any w r x) :
    Calls Tryz.prog 126 #[.agg r.toArray] w fun e w' => ∃ v', e = .returned v' ∧ Rdl w' v' (askP x) ∧ Below w.heap.size w w' := by
  obtain ⟨vo, vg, rfl, ho, hg⟩ := h
  obtain ⟨ao, ac, rfl, hac⟩ := ho.form
  obtain ⟨w0, hw0⟩ : ∃ w0, w0 = w.alloc (.cells #[.int .i64 x.1, .int .i64 x.2.1, .slice ao x.2.2.1.length ac, vg] 62) := ⟨_, rfl⟩
  have ra : Row w0 w.heap.size 62 [.int .i64 x.1, .int .i64 x.2.1, .slice ao x.2.2.1.length ac, vg] := by rw [hw0]; exact Row.new w 62 _
  have B0 : Below w.heap.size w w0 := by rw [hw0]; exact below_alloc _ _
  have a0 := ra.cell (j := 0) rfl
  have a1 := ra.cell (j := 1) rfl
  have a2 := ra.cell (j := 2) rfl
  have hr := rdv_els w0 (nc [x.1, x.2.1]) 3 (by simp [nc]) (by simp [nc])
  have b0 := below_alloc w0 (.cells (nc [x.1, x.2.1]).toArray 3)
  have HN := (show Hid (∀ _ : Unit, _) from fun _ => nums_any _ _ [x.1, x.2.1] hr.drew (by simp) (by simp))
  go_enter Tryz.func126, Tryz.ntmps126
  go_upto_region 1 with fail
  rw [← hw0]
  clear hw0
  have SK := (show Hid (∀ u, Below w0.heap.size w0 u → u.cell? ⟨w.heap.size, 0, none⟩ = some (.int .i64 x.1) ∧ u.cell? ⟨w.heap.size, 1, none⟩ = some (.int .i64 x.2.1) ∧ u.cell? ⟨w.heap.size, 2, none⟩ = some (.slice ao x.2.2.1.length ac)) from fun u hu => ⟨(ra.below hu).cell (j := 0) rfl, (ra.below hu).cell (j := 1) rfl, (ra.below hu).cell (j := 2) rfl⟩)
  go_wp2_with fail
  go_region_held3 (fun u => u.cell? ⟨w.heap.size, 0, none⟩ = some (.int .i64 x.1) ∧ u.cell? ⟨w.heap.size, 1, none⟩ = some (.int .i64 x.2.1) ∧ u.cell? ⟨w.heap.size, 2, none⟩ = some (.slice ao x.2.2.1.length ac))
    (first | exact SK.out _ (by assumption) | go_keep)
    (first
      | (go_at_call 136; refine (HN.out ()).mono ?_; rintro e w1 ⟨v1, rfl, ho1, hf1, hb1⟩; have B1 : Below w0.heap.size w0 w1 := below_and b0.drew (Nat.le_refl _) hb1; have r1 := ho1.rd (numsL_byt _); clear ho1; obtain ⟨a1, c1, rfl, hc1⟩ := r1.form))
  have hoB := (ho.mv (Mv.below (below_and B0 (Nat.le_refl _) B1))).1
  go_wp2_with fail
  go_ret
  exact ⟨_, rfl, ⟨[.slice a1 (numsL [x.1, x.2.1]).length c1, .slice ao x.2.2.1.length ac], rdv_els w1 [.slice a1 (numsL [x.1, x.2.1]).length c1, .slice ao x.2.2.1.length ac] 24 (by simp) (by simp), r1.below (below_alloc _ _), hoB.below (below_alloc _ _), trivial⟩, below_and (below_and B0 (Nat.le_refl _) B1) (Nat.le_refl _) (below_alloc _ _)⟩
end
section
open Go.RowKit Oct Sha
set_option maxRecDepth 10000 in
set_option maxHeartbeats 2000000 in
/-- vote.mayAsk. -/
theorem mayAsk_any (w : World) (r : List Value) (x : PReq) (h : RReq Any w r x) [Decidable (mayL x)] :
    Calls Tryz.prog 124 #[.agg r.toArray] w fun e w' => e = .returned (.bool (decide (mayL x))) ∧ Below w.heap.size w w' := by
  obtain ⟨vo, vg, rfl, ho, hg⟩ := h
  obtain ⟨ao, ac, rfl, hac⟩ := ho.form
  have b0 := below_alloc w (.cells #[.int .i64 x.1, .int .i64 x.2.1, .slice ao x.2.2.1.length ac, vg] 62)
  by_cases h1 : 1 ≤ x.1
  rotate_left
  · rw [decide_eq_false (fun e : mayL x => h1 e.1)]
    have d1 : decide (1 ≤ x.1) = false := decide_eq_false h1
    go_enter Tryz.func124, Tryz.ntmps124
    go_wp2_with fail
    go_ret
    exact ⟨rfl, b0⟩
  by_cases h2 : x.1 ≤ 4
  rotate_left
  · rw [decide_eq_false (fun e : mayL x => h2 e.2.1)]
    have d2 : decide (x.1 ≤ 4) = false := decide_eq_false h2
    go_enter Tryz.func124, Tryz.ntmps124
    go_wp2_with fail
    go_ret
    exact ⟨rfl, b0⟩
  by_cases h3 : 1 ≤ x.2.1
  rotate_left
  · rw [decide_eq_false (fun e : mayL x => h3 e.2.2.1)]
    have d3 : decide (1 ≤ x.2.1) = false := decide_eq_false h3
    go_enter Tryz.func124, Tryz.ntmps124
    go_wp2_with fail
    go_ret
    exact ⟨rfl, b0⟩
  by_cases h4 : x.2.1 ≤ 2147483647
  rotate_left
  · rw [decide_eq_false (fun e : mayL x => h4 e.2.2.2.1)]
    have d4 : decide (x.2.1 ≤ 2147483647) = false := decide_eq_false h4
    go_enter Tryz.func124, Tryz.ntmps124
    go_wp2_with fail
    go_ret
    exact ⟨rfl, b0⟩
  by_cases h5 : 1 ≤ x.2.2.1.length
  rotate_left
  · rw [decide_eq_false (fun e : mayL x => h5 e.2.2.2.2.1)]
    have e5 : x.2.2.1.length = 0 := by omega
    rw [e5] at b0 ⊢
    go_enter Tryz.func124, Tryz.ntmps124
    go_wp2_with fail
    go_ret
    exact ⟨rfl, b0⟩
  have h5' : (1 : Int) ≤ (x.2.2.1.length : Int) := by omega
  by_cases h6 : x.2.2.1.length ≤ 256
  rotate_left
  · rw [decide_eq_false (fun e : mayL x => h6 e.2.2.2.2.2)]
    have d6 : decide ((x.2.2.1.length : Int) ≤ 256) = false := decide_eq_false (by omega)
    go_enter Tryz.func124, Tryz.ntmps124
    go_wp2_with fail
    go_ret
    exact ⟨rfl, b0⟩
  have h6' : (x.2.2.1.length : Int) ≤ 256 := by omega
  rw [decide_eq_true (show mayL x from ⟨h1, h2, h3, h4, h5, h6⟩)]
  go_enter Tryz.func124, Tryz.ntmps124
  go_wp2_with fail
  go_ret
  exact ⟨rfl, b0⟩
end
end Go.Proofs.YtgbfmccecnfooaaGreatDoor
