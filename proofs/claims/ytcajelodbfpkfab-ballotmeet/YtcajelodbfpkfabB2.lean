/- The walks over the document's own numbers, over ballots and heads. -/
import Derived.Test.YtcajelodbfpkfabB1
namespace Go.Proofs.Ytcajelodbfpkfab
open Go.RowKit Oct Bal

theorem fau_at {n : Int} {j : Nat} (h : n = 3 * (j : Int) + 1) (h1 : 1 ≤ j) (h5 : j ≤ 5) : fau n = j := by
  have : j = 1 ∨ j = 2 ∨ j = 3 ∨ j = 4 ∨ j = 5 := by omega
  rcases this with rfl | rfl | rfl | rfl | rfl <;> subst h <;> rfl
theorem fau_none {n : Int} (h : ∀ j : Nat, 1 ≤ j → j < 6 → n ≠ 3 * (j : Int) + 1) : fau n = 0 := by
  have h1 := h 1 (by omega) (by omega)
  have h2 := h 2 (by omega) (by omega)
  have h3 := h 3 (by omega) (by omega)
  have h4 := h 4 (by omega) (by omega)
  have h5 := h 5 (by omega) (by omega)
  unfold fau
  rw [if_neg (by omega), if_neg (by omega), if_neg (by omega), if_neg (by omega), if_neg (by omega)]


theorem isNaN_any (w : World) (x : Int) : Calls Try.prog 17 #[.int .i64 x] w fun e w' => e = .returned (.bool false) ∧ w' = w := by
  have hne : (x != x) = false := by simp
  go_enter Try.func17, Try.ntmps17
  go_wp2_with fail
  go_ret
  exact ⟨rfl, rfl⟩
theorem cmpInt_any (w : World) (x y : Int) : Calls Try.prog 13 #[.int .i64 x, .int .i64 y] w fun e w' => e = .returned (.int .i64 (cm x y)) ∧ w' = w := by
  by_cases h : x < y
  · rw [cm, if_pos h]
    go_enter Try.func13, Try.ntmps13
    go_wp2_with (go_at_call 17; refine (isNaN_any _ _).mono ?_; rintro e w' ⟨rfl, rfl⟩)
    go_ret
    exact ⟨rfl, rfl⟩
  by_cases h2 : y < x
  · rw [cm, if_neg h, if_pos h2]
    go_enter Try.func13, Try.ntmps13
    go_wp2_with (go_at_call 17; refine (isNaN_any _ _).mono ?_; rintro e w' ⟨rfl, rfl⟩)
    go_ret
    exact ⟨rfl, rfl⟩
  · rw [cm, if_neg h, if_neg h2]
    go_enter Try.func13, Try.ntmps13
    go_wp2_with (go_at_call 17; refine (isNaN_any _ _).mono ?_; rintro e w' ⟨rfl, rfl⟩)
    go_ret
    exact ⟨rfl, rfl⟩
/-- A ballot as a value. -/
abbrev bal (v t : Int) : Value := .agg #[.int .i64 v, .int .i64 t]
theorem compare_any (w : World) (a b c d : Int) : Calls Try.prog 10 #[bal a b, bal c d] w fun e w' => e = .returned (.int .i64 (cmp2 a b c d)) ∧ Below w.heap.size w w' := by
  by_cases h : a = c
  · rw [cmp2, if_pos h]
    subst h
    have hne : (a != a) = false := by simp
    have hC := fun W => cmpInt_any W b d
    have HC := (show Hid (∀ W, _) from hC)
    clear hC
    generalize cm b d = r at *
    go_enter Try.func10, Try.ntmps10
    go_wp2_with (go_at_call 13; refine (HC.out _).mono ?_; rintro e w' ⟨rfl, rfl⟩)
    go_ret
    exact ⟨rfl, below_and (below_alloc _ _) (Nat.le_refl _) (below_alloc _ _)⟩
  · rw [cmp2, if_neg h]
    have hne : (a != c) = true := by simpa using h
    have hC := fun W => cmpInt_any W a c
    have HC := (show Hid (∀ W, _) from hC)
    clear hC
    generalize cm a c = r at *
    go_enter Try.func10, Try.ntmps10
    go_wp2_with (go_at_call 13; refine (HC.out _).mono ?_; rintro e w' ⟨rfl, rfl⟩)
    go_ret
    exact ⟨rfl, below_and (below_alloc _ _) (Nat.le_refl _) (below_alloc _ _)⟩
end Go.Proofs.Ytcajelodbfpkfab
