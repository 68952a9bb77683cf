/- What LeaseOver asks, plain. -/
import Derived.Test.YtbnioibeckifbaaZp
set_option linter.unusedVariables false
set_option linter.unusedSimpArgs false
namespace Go.Proofs.Ytbnioibeckifbaa
namespace Kvl
open Oct

theorem wok_acq {l : List Int} {t : Int} (h1 : 1 ≤ l.length) (h2 : l.length ≤ 16) (h3 : 1 ≤ t) (h4 : t ≤ 1000) : wok (5, l, [], [], t) :=
  ⟨(by decide : (1 : Int) ≤ 5 ∧ (5 : Int) ≤ 8), ⟨h1, h2⟩, Nat.zero_le _, Nat.zero_le _, (by show (if (5 : Int) = 5 ∨ (5 : Int) = 6 then (1 : Int) else 0) ≤ t; rw [if_pos (.inl rfl)]; exact h3), (by show t ≤ (if (5 : Int) = 5 ∨ (5 : Int) = 6 then (1000 : Int) else 0); rw [if_pos (.inl rfl)]; exact h4)⟩
theorem rgtS_nil : rgtS [] := by decide
theorem rgtS_one {l : List Int} {c u : Int} (h1 : 1 ≤ l.length) (h2 : l.length ≤ 16) (h3 : 1 ≤ c ∧ c ≤ 4) (h4 : 1 ≤ u ∧ u ≤ 2147483647) : rgtS [(l, [c, u])] :=
  ⟨by simp, ⟨empty_low h1, trivial⟩, fun e he => by simp at he; subst he; exact ⟨⟨h1, h2⟩, h3, h4⟩⟩
theorem over1 {l : List Int} {c t n : Int} (h1 : 1 ≤ l.length) (h2 : l.length ≤ 16) (h3 : 1 ≤ c ∧ c ≤ 4) (h4 : 0 ≤ t ∧ t ≤ 2147482647) (h5 : 1 ≤ n) (h6 : n ≤ 1000) : doS [] (5, l, [], [], n) c t = ([(l, [c, t + n])], 0, []) := by
  rw [doS_yes ⟨rgtS_nil, ⟨wok_acq h1 h2 h5 h6, by show (5 : Int) ≤ 5; decide⟩, h3, h4⟩]
  rfl
theorem getR_one {l v : List Int} : getR l [(l, v)] = some v := by
  unfold getR
  rw [if_neg (by rw [cmp_self]; decide), if_pos rfl]
theorem over2 {l : List Int} {c d u t n : Int} (h1 : 1 ≤ l.length) (h2 : l.length ≤ 16) (h3 : 1 ≤ c ∧ c ≤ 4) (h3' : 1 ≤ d ∧ d ≤ 4) (h4 : 0 ≤ t ∧ t ≤ 2147482647) (h5 : 1 ≤ n) (h6 : n ≤ 1000) (hu : t < u) (hu2 : u ≤ 2147483647) : (doS [(l, [c, u])] (5, l, [], [], n) d t).2.1 = if c = d then 0 else 4 := by
  rw [doS_yes ⟨rgtS_one h1 h2 h3 ⟨by omega, hu2⟩, ⟨wok_acq h1 h2 h5 h6, by show (5 : Int) ≤ 5; decide⟩, h3', h4⟩]
  rw [liv_all (fun e he => by simp at he; subst he; exact hu)]
  unfold doT
  have hg : getR (5, l, ([] : List Int), ([] : List Int), n).2.1 [(l, [c, u])] = some [c, u] := getR_one
  rw [hg]
  dsimp only
  rw [if_neg (by decide : ¬ (5 : Int) = 8)]
  have hlo : lo [c, u] = c := rfl
  rw [hlo]
  by_cases h : c = d
  · rw [if_neg (fun e => e h), if_neg (by decide : ¬ (5 : Int) = 7), if_pos h]
  · rw [if_pos h, if_neg h]
theorem over3 {l : List Int} {c d u n : Int} (h1 : 1 ≤ l.length) (h2 : l.length ≤ 16) (h3 : 1 ≤ c ∧ c ≤ 4) (h3' : 1 ≤ d ∧ d ≤ 4) (h4 : 1 ≤ u ∧ u ≤ 2147482647) (h5 : 1 ≤ n) (h6 : n ≤ 1000) : (doS [(l, [c, u])] (5, l, [], [], n) d u).2.1 = 0 := by
  rw [doS_yes ⟨rgtS_one h1 h2 h3 ⟨h4.1, by omega⟩, ⟨wok_acq h1 h2 h5 h6, by show (5 : Int) ≤ 5; decide⟩, h3', ⟨by omega, h4.2⟩⟩]
  have : liv u [(l, [c, u])] = [] := by
    unfold liv
    rw [List.filter_cons, decide_eq_false (by show ¬ u < u; omega)]
    rfl
  rw [this]
  rfl
theorem over4 {l : List Int} {c u t : Int} (hu : t < u) : (holS [(l, [c, u])] l t).1 = c := by
  have : ([(l, [c, u])].find? fun x => decide (t < lu x.2) && decide (x.1 = l)) = some (l, [c, u]) := by
    exact List.find?_cons_of_pos (by rw [decide_eq_true (show t < lu (l, [c, u]).2 from hu)]; simp)
  unfold holS
  rw [this]
  rfl
theorem over5 {l : List Int} {c u : Int} : (holS [(l, [c, u])] l u).1 = 0 := by
  have : ([(l, [c, u])].find? fun x => decide (u < lu x.2) && decide (x.1 = l)) = none := by
    rw [List.find?_cons_of_neg (by rw [decide_eq_false (show ¬ u < lu (l, [c, u]).2 by show ¬ u < u; omega)]; simp)]
    rfl
  unfold holS
  rw [this]
end Kvl
end Go.Proofs.Ytbnioibeckifbaa
