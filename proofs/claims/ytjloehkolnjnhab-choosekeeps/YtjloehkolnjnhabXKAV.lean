/- Layer 18, plain: what is picked was prepared in a ballot as high as any. -/
import Derived.Test.YtjloehkolnjnhabXKAQ
set_option linter.unusedVariables false
namespace Go.Proofs.Ytjloehkolnjnhab
open Go.RowKit Oct Bal
theorem cmp2_posC {a b c d : Int} : 0 < cmp2 a b c d ↔ (c < a ∨ (a = c ∧ d < b)) := by
  unfold cmp2 cm
  repeat' split
  all_goals omega
/-- What is known of the best of some. -/
def Best (k : Int) (ps : List PPrep) (o : Option PPrep) : Prop := match o with
  | none => ∀ p ∈ ps, p.1 ≠ k
  | some b => b ∈ ps ∧ b.1 = k ∧ ∀ q ∈ ps, q.1 = k → ¬ 0 < cmp2 q.2.1.1 q.2.1.2 b.2.1.1 b.2.1.2
theorem Best.step {k : Int} {ps : List PPrep} {o : Option PPrep} (h : Best k ps o) (p : PPrep) : Best k (ps ++ [p]) (pkS k o p) := by
  have hm : ∀ q : PPrep, q ∈ ps ++ [p] ↔ q ∈ ps ∨ q = p := fun q => by simp
  unfold pkS
  by_cases hk : p.1 = k
  · cases o with
    | none =>
      have h : ∀ q ∈ ps, q.1 ≠ k := h
      have e : (decide (p.1 = k) && bea none p) = true := by simp [hk, bea]
      rw [if_pos e]
      refine ⟨(hm p).2 (.inr rfl), hk, fun q hq hqk => ?_⟩
      rcases (hm q).1 hq with hq | hq
      · exact absurd hqk (h q hq)
      · subst hq
        rw [cmp2_posC]
        omega
    | some b =>
      obtain ⟨h1, h2, h3⟩ : b ∈ ps ∧ b.1 = k ∧ ∀ q ∈ ps, q.1 = k → ¬ 0 < cmp2 q.2.1.1 q.2.1.2 b.2.1.1 b.2.1.2 := h
      by_cases hc : 0 < cmp2 p.2.1.1 p.2.1.2 b.2.1.1 b.2.1.2
      · have e : (decide (p.1 = k) && bea (some b) p) = true := by simp [hk, bea, hc]
        rw [if_pos e]
        refine ⟨(hm p).2 (.inr rfl), hk, fun q hq hqk => ?_⟩
        rcases (hm q).1 hq with hq | hq
        · have h4 := h3 q hq hqk
          rw [cmp2_posC] at h4 hc ⊢
          omega
        · subst hq
          rw [cmp2_posC]
          omega
      · have e : (decide (p.1 = k) && bea (some b) p) = false := by simp [hk, bea]; omega
        rw [if_neg (by rw [e]; decide)]
        refine ⟨(hm b).2 (.inl h1), h2, fun q hq hqk => ?_⟩
        rcases (hm q).1 hq with hq | hq
        · exact h3 q hq hqk
        · subst hq; exact hc
  · have e : (decide (p.1 = k) && bea o p) = false := by simp [hk]
    rw [if_neg (by rw [e]; decide)]
    cases o with
    | none =>
      have h : ∀ q ∈ ps, q.1 ≠ k := h
      intro q hq
      rcases (hm q).1 hq with hq | hq
      · exact h q hq
      · subst hq; exact hk
    | some b =>
      obtain ⟨h1, h2, h3⟩ : b ∈ ps ∧ b.1 = k ∧ ∀ q ∈ ps, q.1 = k → ¬ 0 < cmp2 q.2.1.1 q.2.1.2 b.2.1.1 b.2.1.2 := h
      refine ⟨(hm b).2 (.inl h1), h2, fun q hq hqk => ?_⟩
      rcases (hm q).1 hq with hq | hq
      · exact h3 q hq hqk
      · subst hq; exact absurd hqk hk
theorem Best.list {k : Int} : ∀ {ls ps : List PPrep} {o : Option PPrep}, Best k ps o → Best k (ps ++ ls) (pkL k o ls)
  | [], ps, o, h => by simpa [pkL] using h
  | p :: ls, ps, o, h => by
    have := Best.list (ls := ls) (h.step p)
    simpa [pkL] using this
/-- All Preps of reports. -/
def allP (rs : List PRep) : List PPrep := rs.flatMap fun r => r.2.2.2.2.2.1
theorem best_all (k : Int) (rs : List PRep) : Best k (allP rs) (pkR k rs) := by
  have key : ∀ (rs : List PRep) (ps : List PPrep) (o : Option PPrep), Best k ps o → Best k (ps ++ allP rs) (rs.foldl (fun o r => pkL k o r.2.2.2.2.2.1) o) := by
    intro rs
    induction rs with
    | nil => intro ps o h; simpa [allP] using h
    | cons r rs ih =>
      intro ps o h
      have := ih _ _ (h.list (ls := r.2.2.2.2.2.1))
      simpa [allP, List.append_assoc] using this
  have := key rs [] none (fun p hp => by cases hp)
  rw [List.nil_append] at this
  exact this
theorem mem_allP {rs : List PRep} {r : PRep} {p : PPrep} (hr : r ∈ rs) (hp : p ∈ r.2.2.2.2.2.1) : p ∈ allP rs := List.mem_flatMap.2 ⟨r, hr, hp⟩
theorem pk_top {k : Int} {rs : List PRep} {p : PPrep} (h : pkR k rs = some p) {r : PRep} {q : PPrep} (hr : r ∈ rs) (hq : q ∈ r.2.2.2.2.2.1) (hk : q.1 = k) : ¬ 0 < cmp2 q.2.1.1 q.2.1.2 p.2.1.1 p.2.1.2 := by
  have hb := best_all k rs
  rw [h] at hb
  obtain ⟨_, _, h3⟩ : p ∈ allP rs ∧ p.1 = k ∧ ∀ q ∈ allP rs, q.1 = k → ¬ 0 < cmp2 q.2.1.1 q.2.1.2 p.2.1.1 p.2.1.2 := hb
  exact h3 q (mem_allP hr hq) hk
theorem pk_any {k : Int} {rs : List PRep} {r : PRep} {q : PPrep} (hr : r ∈ rs) (hq : q ∈ r.2.2.2.2.2.1) (hk : q.1 = k) : ∃ p, pkR k rs = some p ∧ p.1 = k ∧ ∃ r' ∈ rs, p ∈ r'.2.2.2.2.2.1 := by
  have hb := best_all k rs
  cases hp : pkR k rs with
  | none =>
    rw [hp] at hb
    have hb : ∀ p ∈ allP rs, p.1 ≠ k := hb
    exact absurd hk (hb q (mem_allP hr hq))
  | some p =>
    rw [hp] at hb
    obtain ⟨h1, h2, _⟩ : p ∈ allP rs ∧ p.1 = k ∧ ∀ q ∈ allP rs, q.1 = k → ¬ 0 < cmp2 q.2.1.1 q.2.1.2 p.2.1.1 p.2.1.2 := hb
    obtain ⟨r', hr', hp'⟩ := List.mem_flatMap.1 h1
    exact ⟨p, rfl, h2, r', hr', hp'⟩
theorem pk_none {k : Int} {rs : List PRep} (h : ∀ r ∈ rs, ∀ p ∈ r.2.2.2.2.2.1, p.1 ≠ k) : pkR k rs = none := by
  cases hp : pkR k rs with
  | none => rfl
  | some p =>
    have hb := best_all k rs
    rw [hp] at hb
    obtain ⟨h1, h2, _⟩ : p ∈ allP rs ∧ p.1 = k ∧ ∀ q ∈ allP rs, q.1 = k → ¬ 0 < cmp2 q.2.1.1 q.2.1.2 p.2.1.1 p.2.1.2 := hb
    obtain ⟨r', hr', hp'⟩ := List.mem_flatMap.1 h1
    exact absurd h2 (h r' hr' p hp')
/-- What is told of found: it is true once what is picked was seen. -/
def FndR (k : Int) (ys : List PRep) (n : Nat) (f : Bool) : Prop := ∀ r ∈ ys.take n, ∀ p ∈ r.2.2.2.2.2.1, pkR k ys = some p → f = true
def FndP (k : Int) (ys : List PRep) (ps : List PPrep) (i : Nat) (f : Bool) : Prop := ∀ p ∈ ps.take i, pkR k ys = some p → f = true
/-- What is told of any. -/
def AnyR (k : Int) (ys : List PRep) (n : Nat) (a : Bool) : Prop := (a = false → ∀ r ∈ ys.take n, ∀ p ∈ r.2.2.2.2.2.1, p.1 ≠ k) ∧ (a = true → ∃ r ∈ ys, ∃ p ∈ r.2.2.2.2.2.1, p.1 = k)
theorem mem_take_succ {α : Type} {l : List α} {n : Nat} {x : α} (h : l[n]? = some x) (y : α) : y ∈ l.take (n + 1) ↔ y ∈ l.take n ∨ y = x := by
  rw [List.take_add_one, h]
  simp
end Go.Proofs.Ytjloehkolnjnhab
