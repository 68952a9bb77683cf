/- Names with values, plain: the place of a name; the document's way of putting; what the laws ask. -/
import Derived.Test.YtgpkngiakhdmhaaDoorSBAI
set_option linter.unusedSimpArgs false
set_option linter.unusedVariables false
namespace Go.Proofs.YtgpkngiakhdmhaaDoor
namespace Kvl
/-- Where the entry of a name is, or would be. -/
def pos (n : List Int) : List PEnt → Nat
  | [] => 0
  | x :: r => if cmpL x.1 n < 0 then pos n r + 1 else 0
theorem put_new {n v : List Int} : ∀ {l : List PEnt}, getR n l = none → putR n v l = l.take (pos n l) ++ (n, v) :: l.drop (pos n l)
  | [], _ => rfl
  | x :: r, h => by
    unfold getR at h
    unfold putR pos
    by_cases h1 : cmpL x.1 n < 0
    · rw [if_pos h1] at h
      rw [if_pos h1, if_pos h1, put_new h]; simp
    · rw [if_neg h1] at h
      by_cases h2 : x.1 = n
      · rw [if_pos h2] at h; simp at h
      · rw [if_neg h1, if_neg h2, if_neg h1]; simp
/-! The document's way. -/
/-- The first place of a name. -/
def fst (n : List Int) : List PEnt → Option Nat
  | [] => none
  | x :: r => if x.1 = n then some 0 else (fst n r).map (· + 1)
/-! What the laws ask. -/
end Kvl
end Go.Proofs.YtgpkngiakhdmhaaDoor
