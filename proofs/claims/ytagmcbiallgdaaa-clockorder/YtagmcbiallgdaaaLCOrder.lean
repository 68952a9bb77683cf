/- catenarylaw14.ClockOrder: its walk. -/
import Derived.Test.YtagmcbiallgdaaaCk3
import Derived.Deep.Cut
set_option linter.unusedVariables false
set_option linter.unusedSimpArgs false
namespace Go.Proofs.Ytagmcbiallgdaaa
open Go.RowKit Oct Bal Clk

/-- What the law asks, plain. -/
theorem acc_lt {n a b q : Int} (h0 : 0 ≤ a) (h1 : a < b) (h2 : b < q) (hq : q ≤ 1000) : acc n b q < acc n a q ∧ acc n a q < chg n q ∧ wai n ≤ acc n b q ∧ acc n a q ≤ 4096 := by
  unfold acc chg
  rw [bnd_in (n := a) h0 (by omega), bnd_in (n := b) (by omega) (by omega), bnd_in (n := q) (by omega) hq]
  have := wai_bd n
  omega
theorem quo_bd (n : Int) : 0 ≤ quo n ∧ quo n ≤ 11 := by
  by_cases h : rgt n = true
  · rw [quo_yes h]
    have := fau_five (n := n)
    omega
  · rw [quo_no h]
    omega

set_option maxHeartbeats 1000000 in
theorem orderC_any (w : World) (n k a b : Int) : Calls Try.prog 6 #[.int .i64 n, .int .i64 k, .agg #[.int .i64 a, .int .i64 b]] w fun e w' => e = .returned (.bool true) ∧ Below w.heap.size w w' := by
  have le := Nat.le_refl w.heap.size
  have HQ := (show Hid (∀ u, Calls Try.prog 23 #[.int .i64 n] u fun e w' => e = .returned (.int .i64 (quo n)) ∧ w' = u) from fun u => quorum_any u n)
  obtain ⟨hq0, hq1⟩ := quo_bd n
  generalize quo n = q at *
  go_enter Try.func6, Try.ntmps6
  go_upto_region 3 with (go_at_call 7; refine (clockAlive_any _).mono ?_; rintro e w1 ⟨rfl, hb1⟩)
  have B1 := below_and (below_alloc w (.cells #[.int .i64 a, .int .i64 b] 35)) le hb1
  have r0 : Row w1 w.heap.size 35 [.int .i64 a, .int .i64 b] := (Row.new w 35 [.int .i64 a, .int .i64 b]).below hb1
  have c0 := r0.cell (j := 0) rfl
  have c1 := r0.cell (j := 1) rfl
  clear hb1 r0
  obtain ⟨N0, hN0⟩ : ∃ N0, N0 = w.heap.size := ⟨_, rfl⟩
  rw [← hN0] at c0 c1 ⊢
  clear hN0
  go_quiet ((go_at_call 23; exact Calls.quiet_of_same (HQ.out _)))
  have hdn : Below w1.heap.size w1 (w1.drewN nq) := bel_drewN (Below.refl _ _) nq
  generalize w1.drewN nq = wd at hdn ⊢
  have B2 := below_and B1 le hdn
  clear hdn B1 c0 c1 HQ
  by_cases h1 : q = 0
  · go_wp2_with fail
    go_ret
    exact ⟨rfl, B2⟩
  by_cases h2 : a < 0
  · go_wp2_with fail
    go_ret
    exact ⟨rfl, B2⟩
  by_cases h3 : b ≤ a
  · go_wp2_with fail
    go_ret
    exact ⟨rfl, B2⟩
  by_cases h4 : q ≤ b
  · go_wp2_with fail
    go_ret
    exact ⟨rfl, B2⟩
  obtain ⟨f1, f2, f3, f4⟩ := acc_lt (n := k) (a := a) (b := b) (q := q) (by omega) (by omega) (by omega) (by omega)
  obtain ⟨f5, f6⟩ := wai_bd k
  have hA := accuseC_any wd k a q
  have hB := accuseC_any wd k b q
  have hC := changeC_any wd k q
  have hW := waitC_any wd k
  have HN := (show Hid (∀ u, 0 ≤ k → k < 8 → Calls Try.prog 8 #[.int .i64 (k + 1)] u fun e w' => e = .returned (.int .i64 (2 * wai k)) ∧ w' = u) from fun u h0 h1 => wai_next h0 h1 ▸ waitC_any u (k + 1))
  generalize acc k a q = X at *
  generalize acc k b q = Y at *
  generalize chg k q = Z at *
  generalize wai k = V at *
  have e1 : decide (X ≤ Y) = false := decide_eq_false (by omega)
  have e2 : decide (Z ≤ X) = false := decide_eq_false (by omega)
  have e3 : decide (V < 4) = false := decide_eq_false (by omega)
  have e4 : decide (Y < V) = false := decide_eq_false (by omega)
  by_cases k0 : k < 0
  · go_wp2_with (first
    | (go_at_call 10; with_reducible refine hA.mono ?_; rintro e w2 ⟨rfl, rfl⟩; clear hA)
    | (go_at_call 10; with_reducible refine hB.mono ?_; rintro e w2 ⟨rfl, rfl⟩; clear hB)
    | (go_at_call 12; refine hC.mono ?_; rintro e w2 ⟨rfl, rfl⟩)
    | (go_at_call 8; with_reducible refine hW.mono ?_; rintro e w2 ⟨rfl, rfl⟩))
    go_ret
    exact ⟨rfl, B2⟩
  by_cases k8 : 8 ≤ k
  · go_wp2_with (first
    | (go_at_call 10; with_reducible refine hA.mono ?_; rintro e w2 ⟨rfl, rfl⟩; clear hA)
    | (go_at_call 10; with_reducible refine hB.mono ?_; rintro e w2 ⟨rfl, rfl⟩; clear hB)
    | (go_at_call 12; refine hC.mono ?_; rintro e w2 ⟨rfl, rfl⟩)
    | (go_at_call 8; with_reducible refine hW.mono ?_; rintro e w2 ⟨rfl, rfl⟩))
    go_ret
    exact ⟨rfl, B2⟩
  have hN := HN.out wd (by omega) (by omega)
  have e5 : (2 * V == 2 * V) = true := by simp
  clear HN
  go_wp2_with (first
    | (go_at_call 10; with_reducible refine hA.mono ?_; rintro e w2 ⟨rfl, rfl⟩; clear hA)
    | (go_at_call 10; with_reducible refine hB.mono ?_; rintro e w2 ⟨rfl, rfl⟩; clear hB)
    | (go_at_call 12; refine hC.mono ?_; rintro e w2 ⟨rfl, rfl⟩)
    | (go_at_call 8; with_reducible refine hW.mono ?_; rintro e w2 ⟨rfl, rfl⟩)
    | (go_at_call 8; with_reducible refine hN.mono ?_; rintro e w2 ⟨rfl, rfl⟩))
  go_ret
  exact ⟨rfl, B2⟩
end Go.Proofs.Ytagmcbiallgdaaa
