/- Ballots, plain: the numbers of clusters, places, orders, the turned order; nothing of any program. -/

namespace Go.Proofs.Ytjloehkolnjnhaa
namespace Bal
/-- Which of two pairs is lower. -/
def cm (x y : Int) : Int := if x < y then -1 else if y < x then 1 else 0
def cmp2 (a b c d : Int) : Int := if a = c then cm b d else cm a c
theorem cm_neg (x y : Int) : cm y x = - cm x y := by
  unfold cm
  repeat' split
  all_goals omega
theorem cmp2_neg (a b c d : Int) : cmp2 c d a b = - cmp2 a b c d := by
  unfold cmp2
  by_cases h : a = c
  · rw [if_pos h, if_pos h.symm]; exact cm_neg _ _
  · rw [if_neg h, if_neg (fun e => h e.symm)]; exact cm_neg _ _
theorem cmp2_trans (a b c d e f : Int) (h1 : cmp2 a b c d ≤ 0) (h2 : cmp2 c d e f ≤ 0) : cmp2 a b e f ≤ 0 ∧ (cmp2 a b e f = 0 ↔ cmp2 a b c d = 0 ∧ cmp2 c d e f = 0) := by
  unfold cmp2 cm at *
  repeat' split at h1
  all_goals repeat' split at h2
  all_goals repeat' split
  all_goals omega
/-- 0, 1, .. n - 1. -/
def rng (n : Nat) : List Int := (List.range n).map Int.ofNat
theorem len_of_sub : ∀ (s l : List Int), s.Nodup → (∀ x ∈ s, x ∈ l) → s.length ≤ l.length
  | [], l, _, _ => by simp
  | x :: s, l, hn, hs => by
    have hx : x ∈ l := hs x (by simp)
    rw [List.nodup_cons] at hn
    have := len_of_sub s (l.erase x) hn.2 (fun y hy => by
      have hy' : y ≠ x := fun e => hn.1 (e ▸ hy)
      exact (List.mem_erase_of_ne hy').2 (hs y (by simp [hy])))
    rw [List.length_erase_of_mem hx] at this
    have hl : 0 < l.length := List.length_pos_of_mem hx
    simp
    omega
end Bal
end Go.Proofs.Ytjloehkolnjnhaa
