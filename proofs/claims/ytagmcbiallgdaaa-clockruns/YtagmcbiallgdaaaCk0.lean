/- Waiting, plain: bounds, waits, when is accused, when the view is changed. -/
import Derived.Test.YtagmcbiallgdaaaB1
set_option linter.unusedVariables false
namespace Go.Proofs.Ytagmcbiallgdaaa
namespace Clk

/-- The number from 0 to m that is nearest. -/
def bnd (n m : Int) : Int := if n < 0 then 0 else if m < n then m else n
theorem bnd_bd {n m : Int} (h : 0 ≤ m) : 0 ≤ bnd n m ∧ bnd n m ≤ m := by unfold bnd; split <;> (try split) <;> omega
theorem bnd_in {n m : Int} (h0 : 0 ≤ n) (h1 : n ≤ m) : bnd n m = n := by unfold bnd; rw [if_neg (by omega), if_neg (by omega)]
/-- How long is waited, by how often it was doubled. -/
def wa (k : Nat) : Int := 4 * 2 ^ k
theorem wa_succ (k : Nat) : wa (k + 1) = wa k * 2 := by unfold wa; rw [Int.pow_succ]; omega
theorem wa_bd {k : Nat} (h : k ≤ 8) : 4 ≤ wa k ∧ wa k ≤ 1024 := by
  have : k = 0 ∨ k = 1 ∨ k = 2 ∨ k = 3 ∨ k = 4 ∨ k = 5 ∨ k = 6 ∨ k = 7 ∨ k = 8 := by omega
  rcases this with rfl | rfl | rfl | rfl | rfl | rfl | rfl | rfl | rfl <;> decide
def wai (n : Int) : Int := wa (bnd n 8).toNat
theorem wai_bd (n : Int) : 4 ≤ wai n ∧ wai n ≤ 1024 := wa_bd (by have := bnd_bd (n := n) (m := 8) (by decide); omega)
theorem wai_next {n : Int} (h0 : 0 ≤ n) (h1 : n < 8) : wai (n + 1) = 2 * wai n := by
  unfold wai
  rw [bnd_in h0 (by omega), bnd_in (by omega) (by omega)]
  obtain ⟨k, rfl⟩ := Int.eq_ofNat_of_zero_le h0
  have : ((k : Int) + 1).toNat = k + 1 := by omega
  rw [this, wa_succ, Int.toNat_natCast]
  omega
def acc (b p q : Int) : Int := wai b + 2 * max 0 (bnd q 1000 - 1 - bnd p 1000)
def chg (b q : Int) : Int := wai b + 2 * bnd q 1000 + 4
end Clk
end Go.Proofs.Ytagmcbiallgdaaa
