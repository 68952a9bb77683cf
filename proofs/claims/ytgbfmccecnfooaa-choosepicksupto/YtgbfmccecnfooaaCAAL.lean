/- Ballots compared, beside texts. -/
import Derived.Test.YtgbfmccecnfooaaCAAF
import Derived.Test.YtgbfmccecnfooaaCAAB
import Derived.WalkSpells
import Derived.WalkLawsBesides
import Derived.KernelRfl
import Derived.Deep.QuietTactic
set_option linter.unusedVariables false
namespace Go.Proofs.Ytgbfmccecnfooaa
open Go.RowKit Oct Bal
theorem isNaNB_any (w : World) (x : Int) : Calls Try.prog 25 #[.int .i64 x] w fun e w' => e = .returned (.bool false) ∧ w' = w := by
  have hne : (x != x) = false := by simp
  go_enter Try.func25, Try.ntmps25
  go_wp2_with fail
  go_ret
  exact ⟨rfl, rfl⟩
theorem cmpIntB_any (w : World) (x y : Int) : Calls Try.prog 23 #[.int .i64 x, .int .i64 y] w fun e w' => e = .returned (.int .i64 (cm x y)) ∧ w' = w := by
  by_cases h : x < y
  · rw [cm, if_pos h]
    go_enter Try.func23, Try.ntmps23
    go_wp2_with (go_at_call 25; refine (isNaNB_any _ _).mono ?_; rintro e w' ⟨rfl, rfl⟩)
    go_ret
    exact ⟨rfl, rfl⟩
  by_cases h2 : y < x
  · rw [cm, if_neg h, if_pos h2]
    go_enter Try.func23, Try.ntmps23
    go_wp2_with (go_at_call 25; refine (isNaNB_any _ _).mono ?_; rintro e w' ⟨rfl, rfl⟩)
    go_ret
    exact ⟨rfl, rfl⟩
  · rw [cm, if_neg h, if_neg h2]
    go_enter Try.func23, Try.ntmps23
    go_wp2_with (go_at_call 25; refine (isNaNB_any _ _).mono ?_; rintro e w' ⟨rfl, rfl⟩)
    go_ret
    exact ⟨rfl, rfl⟩
/-- A ballot as a value. -/
abbrev bal (v t : Int) : Value := .agg #[.int .i64 v, .int .i64 t]
theorem compareB_any (w : World) (a b c d : Int) : Calls Try.prog 19 #[bal a b, bal c d] w fun e w' => e = .returned (.int .i64 (cmp2 a b c d)) ∧ Below w.heap.size w w' := by
  by_cases h : a = c
  · rw [cmp2, if_pos h]
    subst h
    have hne : (a != a) = false := by simp
    have hC := fun W => cmpIntB_any W b d
    have HC := (show Hid (∀ W, _) from hC)
    clear hC
    generalize cm b d = r at *
    go_enter Try.func19, Try.ntmps19
    go_wp2_with (go_at_call 23; refine (HC.out _).mono ?_; rintro e w' ⟨rfl, rfl⟩)
    go_ret
    exact ⟨rfl, below_and (below_alloc _ _) (Nat.le_refl _) (below_alloc _ _)⟩
  · rw [cmp2, if_neg h]
    have hne : (a != c) = true := by simpa using h
    have hC := fun W => cmpIntB_any W a c
    have HC := (show Hid (∀ W, _) from hC)
    clear hC
    generalize cm a c = r at *
    go_enter Try.func19, Try.ntmps19
    go_wp2_with (go_at_call 23; refine (HC.out _).mono ?_; rintro e w' ⟨rfl, rfl⟩)
    go_ret
    exact ⟨rfl, below_and (below_alloc _ _) (Nat.le_refl _) (below_alloc _ _)⟩
theorem cmp2_lt {a c : Int} (b d : Int) (h : a < c) : cmp2 a b c d = -1 := by rw [cmp2, if_neg (by omega), cm, if_pos h]
theorem cmp2_gt {a c : Int} (b d : Int) (h : c < a) : cmp2 a b c d = 1 := by rw [cmp2, if_neg (by omega), cm, if_neg (by omega), if_pos h]
theorem refCompareB_any (w : World) (a b c d : Int) : Calls Try.prog 21 #[bal a b, bal c d] w fun e w' => e = .returned (.int .i64 (cmp2 a b c d)) ∧ Below w.heap.size w w' := by
  by_cases h1 : a < c
  · rw [cmp2_lt b d h1]
    go_enter Try.func21, Try.ntmps21
    go_wp2_with fail
    go_ret
    exact ⟨rfl, below_and (below_alloc _ _) (Nat.le_refl _) (below_alloc _ _)⟩
  by_cases h2 : c < a
  · rw [cmp2_gt b d h2]
    go_enter Try.func21, Try.ntmps21
    go_wp2_with fail
    go_ret
    exact ⟨rfl, below_and (below_alloc _ _) (Nat.le_refl _) (below_alloc _ _)⟩
  obtain rfl : a = c := by omega
  clear h1 h2
  rw [cmp2, if_pos rfl]
  by_cases h1 : b < d
  · rw [cm, if_pos h1]
    go_enter Try.func21, Try.ntmps21
    go_wp2_with fail
    go_ret
    exact ⟨rfl, below_and (below_alloc _ _) (Nat.le_refl _) (below_alloc _ _)⟩
  by_cases h2 : d < b
  · rw [cm, if_neg h1, if_pos h2]
    go_enter Try.func21, Try.ntmps21
    go_wp2_with fail
    go_ret
    exact ⟨rfl, below_and (below_alloc _ _) (Nat.le_refl _) (below_alloc _ _)⟩
  · rw [cm, if_neg h1, if_neg h2]
    go_enter Try.func21, Try.ntmps21
    go_wp2_with fail
    go_ret
    exact ⟨rfl, below_and (below_alloc _ _) (Nat.le_refl _) (below_alloc _ _)⟩
end Go.Proofs.Ytgbfmccecnfooaa
