/- The walks over package vote: what a vote signs. -/
import Derived.Test.YtgbfmccecnfooaaGreatDoorCRAW
import Derived.Test.YtgbfmccecnfooaaGreatDoorCRAX
import Derived.Deep.Cut
set_option linter.unusedVariables false
namespace Go.Proofs.YtgbfmccecnfooaaGreatDoor
open Go.RowKit Oct Sha
set_option maxRecDepth 10000 in
set_option maxHeartbeats 1000000 in
/-- vote.voteParts. -/
theorem voteParts_any (w : World) (k x y s : Int) (v : Value) (l : List Int) (hv : Rd w v l) :
    Calls Tryz.prog 102 #[.int .i64 k, .agg #[.int .i64 x, .int .i64 y], .int .i64 s, v] w fun e w' => ∃ v', e = .returned v' ∧ Rdl w' v' [numsL [k, x, y, s], l] ∧ Below w.heap.size w w' := by
  obtain ⟨ao, cap, rfl, hcap⟩ := hv.form
  go_enter Tryz.func102, Tryz.ntmps102
  go_wp2_with fail
  have hr := rdv_els (w.alloc (.cells #[.int .i64 x, .int .i64 y] 23)) (nc [k, x, y, s]) 3 (by simp [nc]) (by simp [nc])
  rw [show (w.alloc (.cells #[.int .i64 x, .int .i64 y] 23)).heap.size = w.heap.size + 1 by simp] at hr
  have b0 : Below w.heap.size w ((w.alloc (.cells #[.int .i64 x, .int .i64 y] 23)).alloc (.cells (nc [k, x, y, s]).toArray 3)) := below_and (below_alloc w _) (Nat.le_refl _) (below_alloc _ _)
  refine (nums_any _ _ [k, x, y, s] hr (by simp) (by simp)).mono ?_
  rintro e w1 ⟨v1, rfl, ho1, hf1, hb1⟩
  have B1 := below_and b0 (Nat.le_refl _) hb1
  have r1 := ho1.rd (numsL_byt _)
  have v1' := hv.below B1
  clear hr b0 hb1 ho1 hf1
  obtain ⟨a1, c1, rfl, hc1⟩ := r1.form
  go_wp2_with fail
  go_ret
  exact ⟨_, rfl, ⟨[.slice a1 (numsL [k, x, y, s]).length c1, .slice ao l.length cap], rdv_els w1 [.slice a1 (numsL [k, x, y, s]).length c1, .slice ao l.length cap] 24 (by simp) (by simp), r1.below (below_alloc _ _), v1'.below (below_alloc _ _), trivial⟩, below_and B1 (Nat.le_refl _) (below_alloc _ _)⟩
set_option maxRecDepth 10000 in
set_option maxHeartbeats 2000000 in
/-- vote.Right. -/
theorem vRight_any (w : World) (k x y s i : Int) (v : Value) (l : List Int) (hv : Rd w v l) (hl : l.length ≤ 3000000) (gv : Value) (g : List Int) (hg : Rd w gv g) (hT : Tab w) :
    Calls Tryz.prog 70 #[.int .i64 k, .agg #[.int .i64 x, .int .i64 y], .int .i64 s, v, .agg #[.int .i64 i, gv]] w fun e w' => e = .returned (.bool (verL (repL i) g (sL ⟨#[118, 111, 116, 101]⟩) [numsL [k, x, y, s], l])) ∧ Below w.heap.size w w' := by
  obtain ⟨ao, cap, rfl, hcap⟩ := hv.form
  obtain ⟨ag, gap, rfl, hgap⟩ := hg.form
  obtain ⟨w0, hw0⟩ : ∃ w0, w0 = (w.alloc (.cells #[.int .i64 x, .int .i64 y] 23)).alloc (.cells #[.int .i64 i, .slice ag g.length gap] 42) := ⟨_, rfl⟩
  have ra : Row w0 w.heap.size 23 [.int .i64 x, .int .i64 y] := by rw [hw0]; exact (Row.new w 23 _).below (below_alloc _ _)
  have rb : Row w0 (w.heap.size + 1) 42 [.int .i64 i, .slice ag g.length gap] := by rw [hw0, show w.heap.size + 1 = (w.alloc (.cells #[.int .i64 x, .int .i64 y] 23)).heap.size by simp]; exact Row.new _ 42 _
  have B0 : Below w.heap.size w w0 := by rw [hw0]; exact below_and (below_alloc _ _) (Nat.le_refl _) (below_alloc _ _)
  have hdw : Below w0.heap.size w0 w0.drew := ⟨rfl, rfl, rfl, Nat.le_refl _, fun _ _ => rfl⟩
  go_enter Tryz.func70, Tryz.ntmps70
  go_upto_region 1 with fail
  rw [← hw0]
  clear hw0
  have v0 := hv.below B0
  have g0 := hg.below B0
  have SK := (show Hid (∀ u, Below w0.heap.size w0 u → u.cell? ⟨w.heap.size, 0, none⟩ = some (.int .i64 x) ∧ u.cell? ⟨w.heap.size, 1, none⟩ = some (.int .i64 y) ∧ u.cell? ⟨w.heap.size + 1, 0, none⟩ = some (.int .i64 i) ∧ u.cell? ⟨w.heap.size + 1, 1, none⟩ = some (.slice ag g.length gap)) from fun u hu => ⟨(ra.below hu).cell (j := 0) rfl, (ra.below hu).cell (j := 1) rfl, (rb.below hu).cell (j := 0) rfl, (rb.below hu).cell (j := 1) rfl⟩)
  obtain ⟨a0, a1, a2, a3⟩ := SK.out w0 (Below.refl _ _)
  have HR := (show Hid (∀ u : World, Calls Tryz.prog 57 #[.int .i64 i] u fun e w' => e = .returned (.int .i64 (repL i)) ∧ w' = u) from fun u => replica_any u i)
  have HT := (show Hid (tot [numsL [k, x, y, s], l] ≤ 4000000) by show _ ≤ _; simp only [tot, numsL_len, List.length_cons, List.length_nil]; omega)
  go_wp2_with fail
  go_region_held3 (fun u => u.cell? ⟨w.heap.size, 0, none⟩ = some (.int .i64 x) ∧ u.cell? ⟨w.heap.size, 1, none⟩ = some (.int .i64 y) ∧ u.cell? ⟨w.heap.size + 1, 0, none⟩ = some (.int .i64 i) ∧ u.cell? ⟨w.heap.size + 1, 1, none⟩ = some (.slice ag g.length gap))
    (first | exact SK.out _ (by assumption) | go_keep)
    (first
      | (go_at_call 56; refine (verify_any w3 (repL i) _ g ⟨#[118, 111, 116, 101]⟩ v3 _ (g0.below hb3) r3 (by decide) HT.out (hT.below (below_and B0 (Nat.le_refl _) hb3))).mono ?_; rintro e w4 ⟨rfl, hb4⟩; have hB4 : Below w0.heap.size w0 w4 := below_and hb3 (Nat.le_refl _) hb4)
      | (go_at_call 102; refine (voteParts_any w0.drew k x y s _ l (v0.below hdw)).mono ?_; rintro e w3 ⟨v3, rfl, r3, hb3'⟩; have hb3 : Below w0.heap.size w0 w3 := below_and hdw (Nat.le_refl _) hb3')
      | (go_at_call 57; refine (HR.out _).mono ?_; rintro e w2 ⟨rfl, rfl⟩))
  have B4 := below_and B0 (Nat.le_refl _) hB4
  go_wp2_with fail
  go_ret
  exact ⟨rfl, B4⟩
end Go.Proofs.YtgbfmccecnfooaaGreatDoor
