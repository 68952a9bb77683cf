/- Names with values, plain: texts in order, entries in order, what an operation does; nothing of any program. -/
import Derived.Test.YtgbfmccecnfooaaDoorCBAA
set_option linter.unusedSimpArgs false
set_option linter.unusedVariables false
namespace Go.Proofs.YtgbfmccecnfooaaDoor
section
namespace Bal
/-- f of n = 3 f + 1; else 0. -/
def fau (n : Int) : Int := if n = 4 then 1 else if n = 7 then 2 else if n = 10 then 3 else if n = 13 then 4 else if n = 16 then 5 else 0
def rgt (n : Int) : Bool := decide (n = 4 ∨ n = 7 ∨ n = 10 ∨ n = 13 ∨ n = 16)
def quo (n : Int) : Int := if rgt n = true then 2 * fau n + 1 else 0
theorem rgt_iff {n : Int} : rgt n = true ↔ (n = 4 ∨ n = 7 ∨ n = 10 ∨ n = 13 ∨ n = 16) := by simp [rgt]
theorem rgt_no {n : Int} (h : ¬ rgt n = true) : rgt n = false := by simpa using h
theorem fau_pos {n : Int} : 0 < fau n ↔ rgt n = true := by
  rw [rgt_iff]
  unfold fau
  constructor
  · intro h
    repeat' split at h
    all_goals omega
  · intro h
    rcases h with rfl | rfl | rfl | rfl | rfl <;> decide
theorem fau_no {n : Int} (h : ¬ rgt n = true) : fau n = 0 := by
  rw [rgt_iff] at h
  unfold fau
  repeat' split
  all_goals omega
theorem fau_three {n : Int} (h : rgt n = true) : n = 3 * fau n + 1 := by
  rw [rgt_iff] at h
  rcases h with rfl | rfl | rfl | rfl | rfl <;> decide
theorem fau_five {n : Int} : 0 ≤ fau n ∧ fau n ≤ 5 := by
  unfold fau
  repeat' split
  all_goals omega
theorem quo_yes {n : Int} (h : rgt n = true) : quo n = 2 * fau n + 1 := by rw [quo, if_pos h]
theorem quo_no {n : Int} (h : ¬ rgt n = true) : quo n = 0 := by rw [quo, if_neg h]
theorem rgt_le {n : Int} (h : rgt n = true) : 4 ≤ n ∧ n ≤ 16 := by
  rw [rgt_iff] at h
  omega
theorem fau_ge {n : Int} (h : rgt n = true) : 1 ≤ fau n := by
  have := fau_pos.2 h
  omega
/-- Which of two pairs is lower. -/
def cm (x y : Int) : Int := if x < y then -1 else if y < x then 1 else 0
def cmp2 (a b c d : Int) : Int := if a = c then cm b d else cm a c
end Bal
end
section
namespace Kvl
abbrev PEnt := List Int × List Int
abbrev POp := Int × List Int × List Int × List Int × Int
/-- Texts by their bytes: -1, 0, 1. -/
def cmpL : List Int → List Int → Int
  | [], [] => 0
  | [], _ :: _ => -1
  | _ :: _, [] => 1
  | a :: as0, b :: bs => if a < b then -1 else if b < a then 1 else cmpL as0 bs
/-! Entries. -/
def rgt1 (e : PEnt) : Prop := 1 ≤ e.1.length ∧ e.1.length ≤ 16 ∧ e.2.length ≤ 64
instance (e : PEnt) : Decidable (rgt1 e) := by unfold rgt1; infer_instance
/-- Each Name above the one ahead of it. -/
def up : List Int → List PEnt → Prop
  | _, [] => True
  | n, x :: r => cmpL n x.1 < 0 ∧ up x.1 r
instance upDec : (n : List Int) → (l : List PEnt) → Decidable (up n l)
  | _, [] => isTrue trivial
  | n, x :: r => @instDecidableAnd _ _ _ (upDec x.1 r)
def rgtL (l : List PEnt) : Prop := l.length ≤ 64 ∧ up [] l ∧ ∀ e ∈ l, rgt1 e
instance (l : List PEnt) : Decidable (rgtL l) := by unfold rgtL; infer_instance
/-! Operations. -/
def mA (k : Int) : Nat := if k = 2 ∨ k = 3 then 64 else 0
def mB (k : Int) : Nat := if k = 3 then 64 else 0
def lN (k : Int) : Int := if k = 5 ∨ k = 6 then 1 else 0
def mN (k : Int) : Int := if k = 5 ∨ k = 6 then 1000 else 0
/-- Can it be written? -/
def wok (o : POp) : Prop := (1 ≤ o.1 ∧ o.1 ≤ 8) ∧ (1 ≤ o.2.1.length ∧ o.2.1.length ≤ 16) ∧ o.2.2.1.length ≤ mA o.1 ∧ o.2.2.2.1.length ≤ mB o.1 ∧ lN o.1 ≤ o.2.2.2.2 ∧ o.2.2.2.2 ≤ mN o.1
instance (o : POp) : Decidable (wok o) := by unfold wok; infer_instance
end Kvl
end
end Go.Proofs.YtgbfmccecnfooaaDoor
