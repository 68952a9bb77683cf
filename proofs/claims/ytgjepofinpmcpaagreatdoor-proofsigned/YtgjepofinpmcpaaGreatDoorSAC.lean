/- Ballots, plain: the numbers of clusters, places, orders, the turned order; nothing of any program. -/

namespace Go.Proofs.YtgjepofinpmcpaaGreatDoor
namespace Bal
def rgt (n : Int) : Bool := decide (n = 4 ∨ n = 7 ∨ n = 10 ∨ n = 13 ∨ n = 16)
theorem rgt_iff {n : Int} : rgt n = true ↔ (n = 4 ∨ n = 7 ∨ n = 10 ∨ n = 13 ∨ n = 16) := by simp [rgt]
theorem rgt_no {n : Int} (h : ¬ rgt n = true) : rgt n = false := by simpa using h
theorem rgt_le {n : Int} (h : rgt n = true) : 4 ≤ n ∧ n ≤ 16 := by
  rw [rgt_iff] at h
  omega
/-- 0, 1, .. n - 1. -/
def rng (n : Nat) : List Int := (List.range n).map Int.ofNat
end Bal
end Go.Proofs.YtgjepofinpmcpaaGreatDoor
