/- The walks over package vote: requests. -/
import Derived.Test.YtmfmfjndigjlfaaDoorT2
import Derived.Test.YtmfmfjndigjlfaaDoorCl
set_option linter.unusedVariables false
namespace Go.Proofs.YtmfmfjndigjlfaaDoor
open Go.RowKit Oct Sha

/-- The domain's letters; what a request signs. -/
def reqB : ByteArray := ⟨#[114, 101, 113, 117, 101, 115, 116]⟩
def askP (x : PReq) : List (List Int) := [numsL [x.1, x.2.1], x.2.2.1]
def askT (x : PReq) : List Int := textL (cliL x.1) (sL ⟨#[114, 101, 113, 117, 101, 115, 116]⟩) (askP x)
def askS (x : PReq) : List Int := signL (cliL x.1) (sL ⟨#[114, 101, 113, 117, 101, 115, 116]⟩) (askP x)
def mayL (x : PReq) : Prop := 1 ≤ x.1 ∧ x.1 ≤ 4 ∧ 1 ≤ x.2.1 ∧ x.2.1 ≤ 2147483647 ∧ 1 ≤ x.2.2.1.length ∧ x.2.2.1.length ≤ 256
theorem askP_tot {x : PReq} (h : x.2.2.1.length ≤ 3000000) : tot (askP x) ≤ 4000000 := by simp only [askP, tot, numsL_len, List.length_cons, List.length_nil]; omega

set_option maxRecDepth 10000 in
set_option maxHeartbeats 1000000 in
/-- vote.askParts. -/
theorem askParts_any (w : World) (r : List Value) (x : PReq) (h : RReq Any w r x) :
    Calls Tryd.prog 34 #[.agg r.toArray] w fun e w' => ∃ v', e = .returned v' ∧ Rdl w' v' (askP x) ∧ Below w.heap.size w w' := by
  obtain ⟨vo, vg, rfl, ho, hg⟩ := h
  obtain ⟨ao, ac, rfl, hac⟩ := ho.form
  obtain ⟨w0, hw0⟩ : ∃ w0, w0 = w.alloc (.cells #[.int .i64 x.1, .int .i64 x.2.1, .slice ao x.2.2.1.length ac, vg] 35) := ⟨_, rfl⟩
  have ra : Row w0 w.heap.size 35 [.int .i64 x.1, .int .i64 x.2.1, .slice ao x.2.2.1.length ac, vg] := by rw [hw0]; exact Row.new w 35 _
  have B0 : Below w.heap.size w w0 := by rw [hw0]; exact below_alloc _ _
  have a0 := ra.cell (j := 0) rfl
  have a1 := ra.cell (j := 1) rfl
  have a2 := ra.cell (j := 2) rfl
  have hr := rdv_els w0 (nc [x.1, x.2.1]) 3 (by simp [nc]) (by simp [nc])
  have b0 := below_alloc w0 (.cells (nc [x.1, x.2.1]).toArray 3)
  have HN := (show Hid (∀ _ : Unit, _) from fun _ => nums_any _ _ [x.1, x.2.1] hr.drew (by simp) (by simp))
  go_enter Tryd.func34, Tryd.ntmps34
  go_upto_region 1 with fail
  rw [← hw0]
  clear hw0
  have SK := (show Hid (∀ u, Below w0.heap.size w0 u → u.cell? ⟨w.heap.size, 0, none⟩ = some (.int .i64 x.1) ∧ u.cell? ⟨w.heap.size, 1, none⟩ = some (.int .i64 x.2.1) ∧ u.cell? ⟨w.heap.size, 2, none⟩ = some (.slice ao x.2.2.1.length ac)) from fun u hu => ⟨(ra.below hu).cell (j := 0) rfl, (ra.below hu).cell (j := 1) rfl, (ra.below hu).cell (j := 2) rfl⟩)
  go_wp2_with fail
  go_region_held3 (fun u => u.cell? ⟨w.heap.size, 0, none⟩ = some (.int .i64 x.1) ∧ u.cell? ⟨w.heap.size, 1, none⟩ = some (.int .i64 x.2.1) ∧ u.cell? ⟨w.heap.size, 2, none⟩ = some (.slice ao x.2.2.1.length ac))
    (first | exact SK.out _ (by assumption) | go_keep)
    (first
      | (go_at_call 55; refine (HN.out ()).mono ?_; rintro e w1 ⟨v1, rfl, ho1, hf1, hb1⟩; have B1 : Below w0.heap.size w0 w1 := below_and b0.drew (Nat.le_refl _) hb1; have r1 := ho1.rd (numsL_byt _); clear ho1; obtain ⟨a1, c1, rfl, hc1⟩ := r1.form))
  have hoB := (ho.mv (Mv.below (below_and B0 (Nat.le_refl _) B1))).1
  go_wp2_with fail
  go_ret
  exact ⟨_, rfl, ⟨[.slice a1 (numsL [x.1, x.2.1]).length c1, .slice ao x.2.2.1.length ac], rdv_els w1 [.slice a1 (numsL [x.1, x.2.1]).length c1, .slice ao x.2.2.1.length ac] 24 (by simp) (by simp), r1.below (below_alloc _ _), hoB.below (below_alloc _ _), trivial⟩, below_and (below_and B0 (Nat.le_refl _) B1) (Nat.le_refl _) (below_alloc _ _)⟩

set_option maxRecDepth 10000 in
set_option maxHeartbeats 2000000 in
/-- vote.AskText. -/
theorem askText_any (w : World) (r : List Value) (x : PReq) (h : RReq Any w r x) (hl : x.2.2.1.length ≤ 3000000) :
    Calls Tryd.prog 17 #[.agg r.toArray] w fun e w' => ∃ v', e = .returned v' ∧ Own w' 5 v' (bc (askT x)) ∧ Fr w.heap.size v' ∧ Below w.heap.size w w' := by
  have hall := h
  obtain ⟨vo, vg, rfl, ho, hg⟩ := h
  obtain ⟨w0, hw0⟩ : ∃ w0, w0 = w.alloc (.cells #[.int .i64 x.1, .int .i64 x.2.1, vo, vg] 35) := ⟨_, rfl⟩
  have ra : Row w0 w.heap.size 35 [.int .i64 x.1, .int .i64 x.2.1, vo, vg] := by rw [hw0]; exact Row.new w 35 _
  have B0 : Below w.heap.size w w0 := by rw [hw0]; exact below_alloc _ _
  have hdw : Below w0.heap.size w0 w0.drew := ⟨rfl, rfl, rfl, Nat.le_refl _, fun _ _ => rfl⟩
  have hP := askParts_any w0.drew _ x (mov_req _ _ _ _ _ _ hall (below_and B0 (Nat.le_refl _) hdw).size (Mv.below (below_and B0 (Nat.le_refl _) hdw)))
  have HP := (show Hid (∀ _ : Unit, _) from fun _ => hP)
  clear hP
  go_enter Tryd.func17, Tryd.ntmps17
  go_upto_region 1 with fail
  rw [← hw0]
  clear hw0
  have SK := (show Hid (∀ u, Below w0.heap.size w0 u → u.cell? ⟨w.heap.size, 0, none⟩ = some (.int .i64 x.1) ∧ u.cell? ⟨w.heap.size, 1, none⟩ = some (.int .i64 x.2.1) ∧ u.cell? ⟨w.heap.size, 2, none⟩ = some vo ∧ u.cell? ⟨w.heap.size, 3, none⟩ = some vg) from fun u hu => ⟨(ra.below hu).cell (j := 0) rfl, (ra.below hu).cell (j := 1) rfl, (ra.below hu).cell (j := 2) rfl, (ra.below hu).cell (j := 3) rfl⟩)
  obtain ⟨a0, a1, a2, a3⟩ := SK.out w0 (Below.refl _ _)
  have HR := (show Hid (∀ u : World, Calls Tryd.prog 33 #[.int .i64 x.1] u fun e w' => e = .returned (.int .i64 (cliL x.1)) ∧ w' = u) from fun u => client_any u x.1)
  have HT := (show Hid (tot (askP x) ≤ 4000000) from askP_tot hl)
  go_wp2_with fail
  go_region_held3 (fun u => u.cell? ⟨w.heap.size, 0, none⟩ = some (.int .i64 x.1) ∧ u.cell? ⟨w.heap.size, 1, none⟩ = some (.int .i64 x.2.1) ∧ u.cell? ⟨w.heap.size, 2, none⟩ = some vo ∧ u.cell? ⟨w.heap.size, 3, none⟩ = some vg)
    (first | exact SK.out _ (by assumption) | go_keep)
    (first
      | (go_at_call 39; refine (text_any w3 (cliL x.1) ⟨#[114, 101, 113, 117, 101, 115, 116]⟩ v3 _ r3 (by decide) HT.out).mono ?_; rintro e w4 ⟨v4, rfl, ho4, hf4, hb4⟩; have hB4 : Below w0.heap.size w0 w4 := below_and hb3 (Nat.le_refl _) hb4)
      | (go_at_call 34; refine (HP.out ()).mono ?_; rintro e w3 ⟨v3, rfl, r3, hb3'⟩; have hb3 : Below w0.heap.size w0 w3 := below_and hdw (Nat.le_refl _) hb3')
      | (go_at_call 33; refine (HR.out _).mono ?_; rintro e w2 ⟨rfl, rfl⟩))
  have B4 := below_and B0 (Nat.le_refl _) hB4
  have hF4 : Fr w.heap.size v4 := hf4.mono (below_and B0 (Nat.le_refl _) hb3).size
  go_wp2_with fail
  go_ret
  exact ⟨_, rfl, ho4, hF4, B4⟩

end Go.Proofs.YtmfmfjndigjlfaaDoor
