/- The document's own Right, Faults, Quorum (as B2 says them), beside texts that B1 can't stand beside. -/
import Derived.Test.YtkgjlmhgfefegaaDoorT2
import Derived.Test.YtkgjlmhgfefegaaDoorJ04
import Derived.Test.YtkgjlmhgfefegaaDoorT4
section
set_option linter.unusedVariables false
namespace Go.Proofs.YtkgjlmhgfefegaaDoor
open Go.RowKit Oct Sha

set_option maxRecDepth 10000 in
set_option maxHeartbeats 1000000 in
/-- catenaryref06.parts. -/
theorem refParts_any (w : World) (k x y s : Int) (v : Value) (l : List Int) (hv : Rd w v l) :
    Calls Tryd.prog 35 #[.int .i64 k, .agg #[.int .i64 x, .int .i64 y], .int .i64 s, v] w fun e w' => ∃ v', e = .returned v' ∧ Rdl w' v' [numsL [k, x, y, s], l] ∧ Below w.heap.size w w' := by
  obtain ⟨ao, cap, rfl, hcap⟩ := hv.form
  go_enter Tryd.func35, Tryd.ntmps35
  go_wp2_with fail
  have hr := rdv_els (w.alloc (.cells #[.int .i64 x, .int .i64 y] 23)) (nc [k, x, y, s]) 3 (by simp [nc]) (by simp [nc])
  rw [show (w.alloc (.cells #[.int .i64 x, .int .i64 y] 23)).heap.size = w.heap.size + 1 by simp] at hr
  have b0 : Below w.heap.size w ((w.alloc (.cells #[.int .i64 x, .int .i64 y] 23)).alloc (.cells (nc [k, x, y, s]).toArray 3)) := below_and (below_alloc w _) (Nat.le_refl _) (below_alloc _ _)
  refine (refNums_any _ _ [k, x, y, s] hr (by simp) (by simp)).mono ?_
  rintro e w1 ⟨v1, rfl, ho1, hf1, hb1⟩
  have B1 := below_and b0 (Nat.le_refl _) hb1
  have r1 := ho1.rd (numsL_byt _)
  have v1' := hv.below B1
  clear hr b0 hb1 ho1 hf1
  obtain ⟨a1, c1, rfl, hc1⟩ := r1.form
  go_wp2_with fail
  go_ret
  exact ⟨_, rfl, ⟨[.slice a1 (numsL [k, x, y, s]).length c1, .slice ao l.length cap], rdv_els w1 [.slice a1 (numsL [k, x, y, s]).length c1, .slice ao l.length cap] 24 (by simp) (by simp), r1.below (below_alloc _ _), v1'.below (below_alloc _ _), trivial⟩, below_and B1 (Nat.le_refl _) (below_alloc _ _)⟩




set_option maxRecDepth 10000 in
set_option maxHeartbeats 2000000 in
/-- The document's Right. -/
theorem refVRight_any (w : World) (k x y s i : Int) (v : Value) (l : List Int) (hv : Rd w v l) (hl : l.length ≤ 3000000) (gv : Value) (g : List Int) (hg : Rd w gv g) :
    Calls Tryd.prog 21 #[.int .i64 k, .agg #[.int .i64 x, .int .i64 y], .int .i64 s, v, .agg #[.int .i64 i, gv]] w fun e w' => e = .returned (.bool (verL (repL i) g (sL ⟨#[118, 111, 116, 101]⟩) [numsL [k, x, y, s], l])) ∧ Below w.heap.size w w' := by
  obtain ⟨ao, cap, rfl, hcap⟩ := hv.form
  obtain ⟨ag, gap, rfl, hgap⟩ := hg.form
  obtain ⟨w0, hw0⟩ : ∃ w0, w0 = (w.alloc (.cells #[.int .i64 x, .int .i64 y] 23)).alloc (.cells #[.int .i64 i, .slice ag g.length gap] 35) := ⟨_, rfl⟩
  have ra : Row w0 w.heap.size 23 [.int .i64 x, .int .i64 y] := by rw [hw0]; exact (Row.new w 23 _).below (below_alloc _ _)
  have rb : Row w0 (w.heap.size + 1) 35 [.int .i64 i, .slice ag g.length gap] := by rw [hw0, show w.heap.size + 1 = (w.alloc (.cells #[.int .i64 x, .int .i64 y] 23)).heap.size by simp]; exact Row.new _ 35 _
  have B0 : Below w.heap.size w w0 := by rw [hw0]; exact below_and (below_alloc _ _) (Nat.le_refl _) (below_alloc _ _)
  have hdw : Below w0.heap.size w0 w0.drew := ⟨rfl, rfl, rfl, Nat.le_refl _, fun _ _ => rfl⟩
  go_enter Tryd.func21, Tryd.ntmps21
  go_upto_region 1 with fail
  rw [← hw0]
  clear hw0
  have v0 := hv.below B0
  have g0 := hg.below B0
  have SK := (show Hid (∀ u, Below w0.heap.size w0 u → u.cell? ⟨w.heap.size, 0, none⟩ = some (.int .i64 x) ∧ u.cell? ⟨w.heap.size, 1, none⟩ = some (.int .i64 y) ∧ u.cell? ⟨w.heap.size + 1, 0, none⟩ = some (.int .i64 i) ∧ u.cell? ⟨w.heap.size + 1, 1, none⟩ = some (.slice ag g.length gap)) from fun u hu => ⟨(ra.below hu).cell (j := 0) rfl, (ra.below hu).cell (j := 1) rfl, (rb.below hu).cell (j := 0) rfl, (rb.below hu).cell (j := 1) rfl⟩)
  obtain ⟨a0, a1, a2, a3⟩ := SK.out w0 (Below.refl _ _)
  have HR := (show Hid (∀ u : World, Calls Tryd.prog 34 #[.int .i64 i] u fun e w' => e = .returned (.int .i64 (repL i)) ∧ w' = u) from fun u => refReplica_any u i)
  have HT := (show Hid (tot [numsL [k, x, y, s], l] ≤ 4000000) by show _ ≤ _; simp only [tot, numsL_len, List.length_cons, List.length_nil]; omega)
  go_wp2_with fail
  go_region_held3 (fun u => u.cell? ⟨w.heap.size, 0, none⟩ = some (.int .i64 x) ∧ u.cell? ⟨w.heap.size, 1, none⟩ = some (.int .i64 y) ∧ u.cell? ⟨w.heap.size + 1, 0, none⟩ = some (.int .i64 i) ∧ u.cell? ⟨w.heap.size + 1, 1, none⟩ = some (.slice ag g.length gap))
    (first | exact SK.out _ (by assumption) | go_keep)
    (first
      | (go_at_call 33; refine (refVerify_any w3 (repL i) _ g ⟨#[118, 111, 116, 101]⟩ v3 _ (g0.below hb3) r3 (by decide) HT.out).mono ?_; rintro e w4 ⟨rfl, hb4⟩; have hB4 : Below w0.heap.size w0 w4 := below_and hb3 (Nat.le_refl _) hb4)
      | (go_at_call 35; refine (refParts_any w0.drew k x y s _ l (v0.below hdw)).mono ?_; rintro e w3 ⟨v3, rfl, r3, hb3'⟩; have hb3 : Below w0.heap.size w0 w3 := below_and hdw (Nat.le_refl _) hb3')
      | (go_at_call 34; refine (HR.out _).mono ?_; rintro e w2 ⟨rfl, rfl⟩))
  have B4 := below_and B0 (Nat.le_refl _) hB4
  go_wp2_with fail
  go_ret
  exact ⟨rfl, B4⟩

end Go.Proofs.YtkgjlmhgfefegaaDoor
end

section
set_option linter.unusedVariables false
namespace Go.Proofs.YtkgjlmhgfefegaaDoor
open Go.RowKit Oct Bal
namespace Bb
theorem fau_at {n : Int} {j : Nat} (h : n = 3 * (j : Int) + 1) (h1 : 1 ≤ j) (h5 : j ≤ 5) : fau n = j := by
  have : j = 1 ∨ j = 2 ∨ j = 3 ∨ j = 4 ∨ j = 5 := by omega
  rcases this with rfl | rfl | rfl | rfl | rfl <;> subst h <;> rfl
theorem fau_none {n : Int} (h : ∀ j : Nat, 1 ≤ j → j < 6 → n ≠ 3 * (j : Int) + 1) : fau n = 0 := by
  have h1 := h 1 (by omega) (by omega)
  have h2 := h 2 (by omega) (by omega)
  have h3 := h 3 (by omega) (by omega)
  have h4 := h 4 (by omega) (by omega)
  have h5 := h 5 (by omega) (by omega)
  unfold fau
  rw [if_neg (by omega), if_neg (by omega), if_neg (by omega), if_neg (by omega), if_neg (by omega)]

theorem refFaults_any (w : World) (n : Int) : Calls Tryd.prog 32 #[.int .i64 n] w fun e w' => e = .returned (.int .i64 (fau n)) ∧ w' = w := by
  obtain ⟨r, hr⟩ : ∃ r, r = fau n := ⟨_, rfl⟩
  rw [← hr]
  have HR := (show Hid (r = fau n) from hr)
  clear hr
  go_enter Tryd.func32, Tryd.ntmps32
  go_wp2_with fail
  go_loop [3] (fun i => ∃ k : Nat, 1 ≤ k ∧ k ≤ 6 ∧ i = .int .i64 k ∧ Hid (∀ j : Nat, 1 ≤ j → j < k → n ≠ 3 * (j : Int) + 1)) (fun i => 6 - (intOf i).toNat)
  case atStart => exact ⟨1, by omega, by omega, rfl, fun j h1 h2 => by omega⟩
  case round =>
    obtain ⟨k, hk1, hk6, rfl, hno⟩ := hrel
    by_cases hk : k < 6
    · have hi : (k : Int) ≤ 5 := by omega
      by_cases hn : n = 3 * (k : Int) + 1
      · have hr' : r = k := by rw [HR.out, fau_at hn hk1 (by omega)]
        subst hr'
        clear HR
        go_wp2_with fail
        go_ret
        exact ⟨rfl, rfl⟩
      · have hnx : ¬ (n = 3 * (k : Int) + 1) := hn
        go_wp2_with fail
        go_round
        case rel => exact ⟨k + 1, by omega, by omega, by go_num, fun j h1 h2 => by
          rcases Nat.lt_or_ge j k with h | h
          · exact hno.out j h1 h
          · obtain rfl : j = k := by omega
            exact hn⟩
        case measure => simp [intOf]; omega
    · have hi : ¬ (k : Int) ≤ 5 := by omega
      obtain rfl : k = 6 := by omega
      have hr' : r = 0 := by rw [HR.out, fau_none hno.out]
      subst hr'
      clear HR
      go_wp2_with fail
      go_ret
      exact ⟨rfl, rfl⟩
theorem refRight_any (w : World) (n : Int) : Calls Tryd.prog 19 #[.int .i64 n] w fun e w' => e = .returned (.bool (rgt n)) ∧ w' = w := by
  have hF := refFaults_any w n
  by_cases h : rgt n = true
  · have h1 := fau_pos.2 h
    rw [h]
    clear h
    generalize fau n = f at *
    go_enter Tryd.func19, Tryd.ntmps19
    go_wp2_with fail
    refine hF.mono ?_
    rintro e w1 ⟨rfl, rfl⟩
    clear hF
    go_wp2_with fail
    go_ret
    exact ⟨rfl, rfl⟩
  · rw [fau_no h] at hF
    rw [rgt_no h]
    go_enter Tryd.func19, Tryd.ntmps19
    go_wp2_with fail
    refine hF.mono ?_
    rintro e w1 ⟨rfl, rfl⟩
    clear hF
    go_wp2_with fail
    go_ret
    exact ⟨rfl, rfl⟩
theorem refRight_yes (w : World) (n : Int) (h : rgt n = true) : Calls Tryd.prog 19 #[.int .i64 n] w fun e w' => e = .returned (.bool true) ∧ w' = w := h ▸ refRight_any w n
theorem refRight_not (w : World) (n : Int) (h : ¬ rgt n = true) : Calls Tryd.prog 19 #[.int .i64 n] w fun e w' => e = .returned (.bool false) ∧ w' = w := rgt_no h ▸ refRight_any w n
theorem refQuorum_any (w : World) (n : Int) : Calls Tryd.prog 20 #[.int .i64 n] w fun e w' => e = .returned (.int .i64 (quo n)) ∧ w' = w := by
  by_cases h : rgt n = true
  · have hR := refRight_yes w n h
    have hF := refFaults_any w n
    have h5 := fau_five (n := n)
    rw [quo_yes h]
    clear h
    generalize fau n = f at *
    go_enter Tryd.func20, Tryd.ntmps20
    go_wp2_with fail
    refine hR.mono ?_
    rintro e w1 ⟨rfl, rfl⟩
    clear hR
    go_wp2_with fail
    refine hF.mono ?_
    rintro e w1 ⟨rfl, rfl⟩
    clear hF
    go_wp2_with fail
    go_ret
    exact ⟨ret_int (by omega), rfl⟩
  · have hR := refRight_not w n h
    rw [quo_no h]
    clear h
    go_enter Tryd.func20, Tryd.ntmps20
    go_wp2_with fail
    refine hR.mono ?_
    rintro e w1 ⟨rfl, rfl⟩
    clear hR
    go_wp2_with fail
    go_ret
    exact ⟨rfl, rfl⟩
end Bb
end Go.Proofs.YtkgjlmhgfefegaaDoor
end
