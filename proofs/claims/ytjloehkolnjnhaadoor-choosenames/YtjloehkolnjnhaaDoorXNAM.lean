/- Ballots compared, beside texts. -/
import Derived.Test.YtjloehkolnjnhaaDoorXNAG
import Derived.Test.YtjloehkolnjnhaaDoorXNAB
import Derived.WalkSpells
import Derived.WalkLawsBesides
import Derived.KernelRfl
import Derived.Deep.QuietTactic
set_option linter.unusedVariables false
namespace Go.Proofs.YtjloehkolnjnhaaDoor
open Go.RowKit Oct Bal
theorem isNaNB_any (w : World) (x : Int) : Calls Tryd.prog 30 #[.int .i64 x] w fun e w' => e = .returned (.bool false) ∧ w' = w := by
  have hne : (x != x) = false := by simp
  go_enter Tryd.func30, Tryd.ntmps30
  go_wp2_with fail
  go_ret
  exact ⟨rfl, rfl⟩
theorem cmpIntB_any (w : World) (x y : Int) : Calls Tryd.prog 21 #[.int .i64 x, .int .i64 y] w fun e w' => e = .returned (.int .i64 (cm x y)) ∧ w' = w := by
  by_cases h : x < y
  · rw [cm, if_pos h]
    go_enter Tryd.func21, Tryd.ntmps21
    go_wp2_with (go_at_call 30; refine (isNaNB_any _ _).mono ?_; rintro e w' ⟨rfl, rfl⟩)
    go_ret
    exact ⟨rfl, rfl⟩
  by_cases h2 : y < x
  · rw [cm, if_neg h, if_pos h2]
    go_enter Tryd.func21, Tryd.ntmps21
    go_wp2_with (go_at_call 30; refine (isNaNB_any _ _).mono ?_; rintro e w' ⟨rfl, rfl⟩)
    go_ret
    exact ⟨rfl, rfl⟩
  · rw [cm, if_neg h, if_neg h2]
    go_enter Tryd.func21, Tryd.ntmps21
    go_wp2_with (go_at_call 30; refine (isNaNB_any _ _).mono ?_; rintro e w' ⟨rfl, rfl⟩)
    go_ret
    exact ⟨rfl, rfl⟩
/-- A ballot as a value. -/
abbrev bal (v t : Int) : Value := .agg #[.int .i64 v, .int .i64 t]
theorem compareB_any (w : World) (a b c d : Int) : Calls Tryd.prog 15 #[bal a b, bal c d] w fun e w' => e = .returned (.int .i64 (cmp2 a b c d)) ∧ Below w.heap.size w w' := by
  by_cases h : a = c
  · rw [cmp2, if_pos h]
    subst h
    have hne : (a != a) = false := by simp
    have hC := fun W => cmpIntB_any W b d
    have HC := (show Hid (∀ W, _) from hC)
    clear hC
    generalize cm b d = r at *
    go_enter Tryd.func15, Tryd.ntmps15
    go_wp2_with (go_at_call 21; refine (HC.out _).mono ?_; rintro e w' ⟨rfl, rfl⟩)
    go_ret
    exact ⟨rfl, below_and (below_alloc _ _) (Nat.le_refl _) (below_alloc _ _)⟩
  · rw [cmp2, if_neg h]
    have hne : (a != c) = true := by simpa using h
    have hC := fun W => cmpIntB_any W a c
    have HC := (show Hid (∀ W, _) from hC)
    clear hC
    generalize cm a c = r at *
    go_enter Tryd.func15, Tryd.ntmps15
    go_wp2_with (go_at_call 21; refine (HC.out _).mono ?_; rintro e w' ⟨rfl, rfl⟩)
    go_ret
    exact ⟨rfl, below_and (below_alloc _ _) (Nat.le_refl _) (below_alloc _ _)⟩
end Go.Proofs.YtjloehkolnjnhaaDoor
