/- Ballots, plain: the numbers of clusters, places, orders, the turned order; nothing of any program. -/

namespace Go.Proofs.YtjloehkolnjnhaaDoor
namespace Bal
/-- f of n = 3 f + 1; else 0. -/
def fau (n : Int) : Int := if n = 4 then 1 else if n = 7 then 2 else if n = 10 then 3 else if n = 13 then 4 else if n = 16 then 5 else 0
def rgt (n : Int) : Bool := decide (n = 4 ∨ n = 7 ∨ n = 10 ∨ n = 13 ∨ n = 16)
def quo (n : Int) : Int := if rgt n = true then 2 * fau n + 1 else 0
theorem rgt_iff {n : Int} : rgt n = true ↔ (n = 4 ∨ n = 7 ∨ n = 10 ∨ n = 13 ∨ n = 16) := by simp [rgt]
theorem rgt_no {n : Int} (h : ¬ rgt n = true) : rgt n = false := by simpa using h
theorem fau_no {n : Int} (h : ¬ rgt n = true) : fau n = 0 := by
  rw [rgt_iff] at h
  unfold fau
  repeat' split
  all_goals omega
theorem fau_three {n : Int} (h : rgt n = true) : n = 3 * fau n + 1 := by
  rw [rgt_iff] at h
  rcases h with rfl | rfl | rfl | rfl | rfl <;> decide
theorem fau_five {n : Int} : 0 ≤ fau n ∧ fau n ≤ 5 := by
  unfold fau
  repeat' split
  all_goals omega
theorem quo_yes {n : Int} (h : rgt n = true) : quo n = 2 * fau n + 1 := by rw [quo, if_pos h]
theorem quo_no {n : Int} (h : ¬ rgt n = true) : quo n = 0 := by rw [quo, if_neg h]
theorem rgt_le {n : Int} (h : rgt n = true) : 4 ≤ n ∧ n ≤ 16 := by
  rw [rgt_iff] at h
  omega
/-- Which of two pairs is lower. -/
def cm (x y : Int) : Int := if x < y then -1 else if y < x then 1 else 0
def cmp2 (a b c d : Int) : Int := if a = c then cm b d else cm a c
end Bal
end Go.Proofs.YtjloehkolnjnhaaDoor
