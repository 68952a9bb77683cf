/- Ballots, plain: the numbers of clusters, places, orders, the turned order; nothing of any program. -/

namespace Go.Proofs.YtgpkngiakhdmhaaDoor
namespace Bal
/-- f of n = 3 f + 1; else 0. -/
def fau (n : Int) : Int := if n = 4 then 1 else if n = 7 then 2 else if n = 10 then 3 else if n = 13 then 4 else if n = 16 then 5 else 0
def rgt (n : Int) : Bool := decide (n = 4 ∨ n = 7 ∨ n = 10 ∨ n = 13 ∨ n = 16)
def quo (n : Int) : Int := if rgt n = true then 2 * fau n + 1 else 0
theorem rgt_iff {n : Int} : rgt n = true ↔ (n = 4 ∨ n = 7 ∨ n = 10 ∨ n = 13 ∨ n = 16) := by simp [rgt]
theorem rgt_no {n : Int} (h : ¬ rgt n = true) : rgt n = false := by simpa using h
theorem fau_pos {n : Int} : 0 < fau n ↔ rgt n = true := by
  rw [rgt_iff]
  unfold fau
  constructor
  · intro h
    repeat' split at h
    all_goals omega
  · intro h
    rcases h with rfl | rfl | rfl | rfl | rfl <;> decide
theorem fau_no {n : Int} (h : ¬ rgt n = true) : fau n = 0 := by
  rw [rgt_iff] at h
  unfold fau
  repeat' split
  all_goals omega
theorem fau_three {n : Int} (h : rgt n = true) : n = 3 * fau n + 1 := by
  rw [rgt_iff] at h
  rcases h with rfl | rfl | rfl | rfl | rfl <;> decide
theorem fau_five {n : Int} : 0 ≤ fau n ∧ fau n ≤ 5 := by
  unfold fau
  repeat' split
  all_goals omega
theorem quo_yes {n : Int} (h : rgt n = true) : quo n = 2 * fau n + 1 := by rw [quo, if_pos h]
theorem quo_no {n : Int} (h : ¬ rgt n = true) : quo n = 0 := by rw [quo, if_neg h]
theorem rgt_le {n : Int} (h : rgt n = true) : 4 ≤ n ∧ n ≤ 16 := by
  rw [rgt_iff] at h
  omega
theorem fau_ge {n : Int} (h : rgt n = true) : 1 ≤ fau n := by
  have := fau_pos.2 h
  omega
/-- The first place of r. -/
def plc : List Int → Int → Int
  | [], _ => -1
  | x :: l, r => if x = r then 0 else if plc l r = -1 then -1 else plc l r + 1
theorem plc_lo (l : List Int) (r : Int) : -1 ≤ plc l r := by
  induction l with
  | nil => simp [plc]
  | cons x l ih => unfold plc; repeat' split
                   all_goals omega
theorem plc_none {l : List Int} {r : Int} : plc l r = -1 ↔ r ∉ l := by
  induction l with
  | nil => simp [plc]
  | cons x l ih =>
    unfold plc
    have := plc_lo l r
    by_cases h : x = r
    · simp [h]
    · by_cases h2 : plc l r = -1
      · rw [if_neg h, if_pos h2]
        have := ih.1 h2
        simp only [List.mem_cons, not_or, true_iff]
        exact ⟨fun e => h e.symm, this⟩
      · rw [if_neg h, if_neg h2]
        constructor
        · intro e; omega
        · intro e
          exact absurd (ih.2 (fun hm => e (by simp [hm]))) h2
/-- The first place is where it is told by a walk: none ahead of k is r, the k-th is. -/
theorem plc_hit {l : List Int} {r : Int} {k : Nat} (hk : l[k]? = some r) (hn : r ∉ l.take k) : plc l r = k := by
  induction l generalizing k with
  | nil => simp at hk
  | cons x l ih =>
    cases k with
    | zero => simp at hk; subst hk; simp [plc]
    | succ k =>
      simp at hk hn
      have e := ih hk hn.2
      unfold plc
      rw [if_neg (fun e => hn.1 e.symm), if_neg (by omega), e]
      omega
/-- 0, 1, .. n - 1. -/
def rng (n : Nat) : List Int := (List.range n).map Int.ofNat
theorem rng_len (n : Nat) : (rng n).length = n := by simp [rng]
theorem mem_rng {n : Nat} {r : Int} : r ∈ rng n ↔ 0 ≤ r ∧ r < n := by
  simp only [rng, List.mem_map, List.mem_range]
  constructor
  · rintro ⟨k, hk, rfl⟩; simp; omega
  · intro h; exact ⟨r.toNat, by omega, by simp; omega⟩
theorem len_of_sub : ∀ (s l : List Int), s.Nodup → (∀ x ∈ s, x ∈ l) → s.length ≤ l.length
  | [], l, _, _ => by simp
  | x :: s, l, hn, hs => by
    have hx : x ∈ l := hs x (by simp)
    rw [List.nodup_cons] at hn
    have := len_of_sub s (l.erase x) hn.2 (fun y hy => by
      have hy' : y ≠ x := fun e => hn.1 (e ▸ hy)
      exact (List.mem_erase_of_ne hy').2 (hs y (by simp [hy])))
    rw [List.length_erase_of_mem hx] at this
    have hl : 0 < l.length := List.length_pos_of_mem hx
    simp
    omega
end Bal
end Go.Proofs.YtgpkngiakhdmhaaDoor
