/- vote.Asked. -/
import Derived.Test.YtgbfmccecnfooaaDoorCBBA
set_option linter.unusedVariables false
namespace Go.Proofs.YtgbfmccecnfooaaDoor
open Go.RowKit Oct Sha
instance (x : PReq) : Decidable (mayL x) := by unfold mayL; infer_instance
def askedL (x : PReq) : Bool := decide (mayL x) && decide (x.2.2.2 = askS x)
theorem may_key {x : PReq} (h : mayL x) : 0 ≤ cliL x.1 ∧ cliL x.1 ≤ 127 := by
  have : cliL x.1 = 100 + x.1 := if_pos ⟨h.1, by have := h.2.1; omega⟩
  have := h.1
  have := h.2.1
  omega
theorem asked_ver {x : PReq} (h : mayL x) : verL (cliL x.1) x.2.2.2 (sL ⟨#[114, 101, 113, 117, 101, 115, 116]⟩) (askP x) = askedL x := by
  rw [askedL, decide_eq_true h, Bool.true_and, verL, if_pos (may_key h)]
  rfl
set_option maxRecDepth 10000 in
set_option maxHeartbeats 4000000 in
/-- vote.Asked. -/
theorem asked_any (w : World) (r : List Value) (x : PReq) (h : RReq Any w r x) (z1 : x.2.2.1.length ≤ 3000000) (hT : Tab w) :
    Calls Tryd.prog 58 #[.agg r.toArray] w fun e w' => e = .returned (.bool (askedL x)) ∧ Below w.heap.size w w' := by
  have hall := h
  obtain ⟨vo, vg, rfl, ho, hg⟩ := h
  obtain ⟨w0, hw0⟩ : ∃ w0, w0 = w.alloc (.cells #[.int .i64 x.1, .int .i64 x.2.1, vo, vg] 36) := ⟨_, rfl⟩
  have ra : Row w0 w.heap.size 36 [.int .i64 x.1, .int .i64 x.2.1, vo, vg] := by rw [hw0]; exact Row.new w 36 _
  have B0 : Below w.heap.size w w0 := by rw [hw0]; exact below_alloc _ _
  have hdw : Below w0.heap.size w0 w0.drew := ⟨rfl, rfl, rfl, Nat.le_refl _, fun _ _ => rfl⟩
  have HA := (show Hid (∀ u, Below w0.heap.size w0 u → RReq Any u [.int .i64 x.1, .int .i64 x.2.1, vo, vg] x) from fun u hu => mov_req _ _ _ _ _ _ hall (below_and B0 (Nat.le_refl _) hu).size (Mv.below (below_and B0 (Nat.le_refl _) hu)))
  have SK := (show Hid (∀ u, Below w0.heap.size w0 u → u.cell? ⟨w.heap.size, 0, none⟩ = some (.int .i64 x.1) ∧ u.cell? ⟨w.heap.size, 1, none⟩ = some (.int .i64 x.2.1) ∧ u.cell? ⟨w.heap.size, 2, none⟩ = some vo ∧ u.cell? ⟨w.heap.size, 3, none⟩ = some vg) from fun u hu => ⟨(ra.below hu).cell (j := 0) rfl, (ra.below hu).cell (j := 1) rfl, (ra.below hu).cell (j := 2) rfl, (ra.below hu).cell (j := 3) rfl⟩)
  obtain ⟨a0, a1, a2, a3⟩ := SK.out w0 (Below.refl _ _)
  have HR := (show Hid (∀ u : World, Calls Tryd.prog 71 #[.int .i64 x.1] u fun e w' => e = .returned (.int .i64 (cliL x.1)) ∧ w' = u) from fun u => client_any u x.1)
  have HT := (show Hid (tot (askP x) ≤ 4000000) from askP_tot z1)
  have hT0 := hT.below B0
  by_cases hm : mayL x
  · have hv := asked_ver hm
    have HM := (show Hid (∀ u, Below w0.heap.size w0 u → Calls Tryd.prog 70 #[.agg #[.int .i64 x.1, .int .i64 x.2.1, vo, vg]] u fun e w' => e = .returned (.bool true) ∧ Below u.heap.size u w') from fun u hu => by
      have := mayAsk_any u _ x (HA.out u hu)
      rwa [decide_eq_true hm] at this)
    go_enter Tryd.func58, Tryd.ntmps58
    go_upto_region 1 with fail
    rw [← hw0]
    clear hw0
    have gw := fun u hu => (hg.mv (Mv.below (below_and B0 (Nat.le_refl _) hu)) : RT Any u vg x.2.2.2)
    have HG := (show Hid (∀ u, Below w0.heap.size w0 u → Rd u vg x.2.2.2) from fun u hu => (gw u hu).1)
    have HV := (show Hid (verL (cliL x.1) x.2.2.2 (sL ⟨#[114, 101, 113, 117, 101, 115, 116]⟩) (askP x) = askedL x) from hv)
    clear gw hv hm
    go_wp2_with fail
    go_region_held3 (fun u => u.cell? ⟨w.heap.size, 0, none⟩ = some (.int .i64 x.1) ∧ u.cell? ⟨w.heap.size, 1, none⟩ = some (.int .i64 x.2.1) ∧ u.cell? ⟨w.heap.size, 2, none⟩ = some vo ∧ u.cell? ⟨w.heap.size, 3, none⟩ = some vg)
      (first | exact SK.out _ (by assumption) | go_keep)
      (first
        | (go_at_call 39; refine (verify_any w3 (cliL x.1) _ x.2.2.2 ⟨#[114, 101, 113, 117, 101, 115, 116]⟩ v3 _ (HG.out w3 hb3) r3 (by decide) HT.out (hT0.below hb3)).mono ?_; rintro e w4 ⟨rfl, hb4⟩; have hB4 : Below w0.heap.size w0 w4 := below_and hb3 (Nat.le_refl _) hb4)
        | (go_at_call 72; refine (askParts_any w2 _ x (HA.out w2 hb2)).mono ?_; rintro e w3 ⟨v3, rfl, r3, hb3'⟩; have hb3 : Below w0.heap.size w0 w3 := below_and hb2 (Nat.le_refl _) hb3')
        | (go_at_call 71; refine (HR.out _).mono ?_; rintro e w2 ⟨rfl, rfl⟩)
        | (go_at_call 70; refine (HM.out w0.drew hdw).mono ?_; rintro e w2 ⟨rfl, hb2'⟩; have hb2 : Below w0.heap.size w0 w2 := below_and hdw (Nat.le_refl _) hb2'))
    go_wp2_with fail
    go_ret
    exact ⟨by rw [← HV.out]; rfl, below_and B0 (Nat.le_refl _) hB4⟩
  · have HM := (show Hid (∀ u, Below w0.heap.size w0 u → Calls Tryd.prog 70 #[.agg #[.int .i64 x.1, .int .i64 x.2.1, vo, vg]] u fun e w' => e = .returned (.bool false) ∧ Below u.heap.size u w') from fun u hu => by
      have := mayAsk_any u _ x (HA.out u hu)
      rwa [decide_eq_false hm] at this)
    have HF := (show Hid (askedL x = false) by show _ = _; rw [askedL, decide_eq_false hm]; rfl)
    go_enter Tryd.func58, Tryd.ntmps58
    go_upto_region 1 with fail
    rw [← hw0]
    clear hw0 hm
    go_wp2_with fail
    first
      | (go_region_law
          (go_simp; go_at_call 70; refine (HM.out w0.drew hdw).mono ?_; rintro e w2 ⟨rfl, hb2'⟩; have hb2 : Below w0.heap.size w0 w2 := below_and hdw (Nat.le_refl _) hb2'))
      | fail
    all_goals (
      go_wp2_with fail
      go_ret
      exact ⟨by rw [HF.out]; rfl, below_and B0 (Nat.le_refl _) hb2⟩)
end Go.Proofs.YtgbfmccecnfooaaDoor
