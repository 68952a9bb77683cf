/- slices' stable sort over votes: how two votes compare. -/
import Derived.Test.YtgpkngiakhdmhaaDoorSBBK
set_option linter.unusedSimpArgs false
set_option linter.unusedVariables false
namespace Go.Proofs.YtgpkngiakhdmhaaDoor
open Go.RowKit Oct
def cmpI (x y : Int) : Int := if x < y then -1 else if y < x then 1 else 0
theorem cmpI_lt {x y : Int} : cmpI x y < 0 ↔ x < y := by
  unfold cmpI
  by_cases h : x < y
  · simp [h]
  · rw [if_neg h]
    split <;> simp <;> omega
theorem isNaNV_any (w : World) (x : Int) : Calls Tryd.prog 43 #[.int .i64 x] w fun e w' => e = .returned (.bool false) ∧ w' = w := by
  have hne : (x != x) = false := by simp
  go_enter Tryd.func43, Tryd.ntmps43
  go_wp2_with fail
  go_ret
  exact ⟨rfl, rfl⟩
theorem cmpIntV_any (w : World) (x y : Int) : Calls Tryd.prog 34 #[.int .i64 x, .int .i64 y] w fun e w' => e = .returned (.int .i64 (cmpI x y)) ∧ w' = w := by
  by_cases h : x < y
  · rw [cmpI, if_pos h]
    go_enter Tryd.func34, Tryd.ntmps34
    go_wp2_with (go_at_call 43; refine (isNaNV_any _ _).mono ?_; rintro e w' ⟨rfl, rfl⟩)
    go_ret
    exact ⟨rfl, rfl⟩
  by_cases h2 : y < x
  · rw [cmpI, if_neg h, if_pos h2]
    go_enter Tryd.func34, Tryd.ntmps34
    go_wp2_with (go_at_call 43; refine (isNaNV_any _ _).mono ?_; rintro e w' ⟨rfl, rfl⟩)
    go_ret
    exact ⟨rfl, rfl⟩
  · rw [cmpI, if_neg h, if_neg h2]
    go_enter Tryd.func34, Tryd.ntmps34
    go_wp2_with (go_at_call 43; refine (isNaNV_any _ _).mono ?_; rintro e w' ⟨rfl, rfl⟩)
    go_ret
    exact ⟨rfl, rfl⟩
theorem cmpV_any (w : World) (x y : VC) : Calls Tryd.prog 33 #[.agg #[.int .i64 x.2.1, x.1], .agg #[.int .i64 y.2.1, y.1]] w fun e w' => e = .returned (.int .i64 (cmpI x.2.1 y.2.1)) ∧ Below w.heap.size w w' := by
  have HC := (show Hid (∀ u, Calls Tryd.prog 34 #[.int .i64 x.2.1, .int .i64 y.2.1] u fun e w' => e = .returned (.int .i64 (cmpI x.2.1 y.2.1)) ∧ w' = u) from fun u => cmpIntV_any u _ _)
  go_enter Tryd.func33, Tryd.ntmps33
  go_wp2_with (go_at_call 34; refine (HC.out _).mono ?_; rintro e w1 ⟨rfl, rfl⟩)
  go_ret
  exact ⟨rfl, by first | exact Below.refl _ _ | exact (below_alloc _ _).trans (Below.mono (below_alloc _ _) (by simp))⟩
end Go.Proofs.YtgpkngiakhdmhaaDoor
