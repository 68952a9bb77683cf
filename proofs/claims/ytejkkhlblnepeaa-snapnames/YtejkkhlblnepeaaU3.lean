/- Reading a state, plain: what a reader that goes on behind something wrong has read. -/
import Derived.Test.YtejkkhlblnepeaaU0
set_option linter.unusedVariables false
set_option linter.unusedSimpArgs false
namespace Go.Proofs.Ytejkkhlblnepeaa
namespace Kvl
open Oct

/-- From p, wrong or not, to p': if nothing is wrong now, x was read; if something went wrong, there was nothing to be read. -/
def Rdg {α : Type} (rd : List Int → Option (α × List Int)) (l : List Int) (p : Nat) (bad : Bool) (x : α) (p' : Nat) (bad' : Bool) : Prop :=
  p' ≤ l.length ∧ (bad' = false → bad = false ∧ rd (l.drop p) = some (x, l.drop p')) ∧ (bad = false → bad' = true → rd (l.drop p) = none)
variable {α β : Type} {l : List Int} {p p1 p2 : Nat} {b b1 b2 : Bool}
theorem Rdg.pair {c : Cdc α} {d : Cdc β} {x : α} {y : β} (h : Rdg c.rd l p b x p1 b1) (k : Rdg d.rd l p1 b1 y p2 b2) : Rdg (cP c d).rd l p b (x, y) p2 b2 := by
  refine ⟨k.1, fun e => ?_, fun e1 e2 => ?_⟩
  · obtain ⟨e1, e2⟩ := k.2.1 e
    obtain ⟨e3, e4⟩ := h.2.1 e1
    exact ⟨e3, by simp only [cP]; rw [e4]; simp only [Option.bind_some]; rw [e2]; rfl⟩
  · cases b1 with
    | true => simp only [cP]; rw [h.2.2 e1 rfl]; rfl
    | false => simp only [cP]; rw [(h.2.1 rfl).2]; simp only [Option.bind_some]; rw [k.2.2 rfl e2]; rfl
theorem Rdg.view [DecidableEq β] {c : Cdc α} {x : α} (h : Rdg c.rd l p b x p1 b1) (f : α → β) (g : β → α) : Rdg (cV c f g).rd l p b (f x) p1 b1 := by
  refine ⟨h.1, fun e => ?_, fun e1 e2 => ?_⟩
  · obtain ⟨e3, e4⟩ := h.2.1 e
    exact ⟨e3, by simp only [cV]; rw [e4]; rfl⟩
  · simp only [cV]; rw [h.2.2 e1 e2]; rfl
theorem Rdg.nil {c : Cdc α} (hp : p ≤ l.length) : Rdg (rdN c 0) l p b [] p b := ⟨hp, fun e => ⟨e, rfl⟩, fun e1 e2 => by rw [e1] at e2; cases e2⟩
theorem Rdg.snoc {c : Cdc α} {i : Nat} {xs : List α} {y : α} (h : Rdg (rdN c i) l p b xs p1 b1) (k : Rdg c.rd l p1 b1 y p2 b2) : Rdg (rdN c (i + 1)) l p b (xs ++ [y]) p2 b2 := by
  refine ⟨k.1, fun e => ?_, fun e1 e2 => ?_⟩
  · obtain ⟨e1, e2⟩ := k.2.1 e
    obtain ⟨e3, e4⟩ := h.2.1 e1
    exact ⟨e3, by rw [rdN_snoc, e4]; simp only [Option.bind_some]; rw [e2]; rfl⟩
  · rw [rdN_snoc]
    cases b1 with
    | true => rw [h.2.2 e1 rfl]; rfl
    | false => rw [(h.2.1 rfl).2]; simp only [Option.bind_some]; rw [k.2.2 rfl e2]; rfl
/-- A number of at most m. -/
def rdM (m : Int) (l : List Int) : Option (Int × List Int) := (cN.rd l).bind fun x => if m < x.1 then none else some x
theorem Rdg.list {m n : Int} {c : Cdc α} {xs : List α} (h : Rdg (Kvl.rdM m) l p b n p1 b1) (k : Rdg (rdN c n.toNat) l p1 b1 xs p2 b2) : Rdg (cLm m c).rd l p b xs p2 b2 := by
  have e0 : ∀ z, (cLm m c).rd z = (Kvl.rdM m z).bind fun x => rdN c x.1.toNat x.2 := fun z => by
    simp only [cLm, Kvl.rdM]
    cases cN.rd z with
    | none => rfl
    | some x =>
      simp only [Option.bind_some]
      split <;> rfl
  refine ⟨k.1, fun e => ?_, fun e1 e2 => ?_⟩
  · obtain ⟨e1, e2⟩ := k.2.1 e
    obtain ⟨e3, e4⟩ := h.2.1 e1
    exact ⟨e3, by rw [e0, e4]; simp only [Option.bind_some]; exact e2⟩
  · rw [e0]
    cases b1 with
    | true => rw [h.2.2 e1 rfl]; rfl
    | false => rw [(h.2.1 rfl).2]; simp only [Option.bind_some]; exact k.2.2 rfl e2
theorem Rdg.numOk {n : Int} {p' : Nat} (h1 : cN.rd (l.drop p) = some (n, l.drop p')) (h2 : p' ≤ l.length) : Rdg cN.rd l p b n p' b := ⟨h2, fun e => ⟨e, h1⟩, fun e1 e2 => by rw [e1] at e2; cases e2⟩
theorem Rdg.no {rd : List Int → Option (α × List Int)} {x : α} (h1 : rd (l.drop p) = none) (h2 : p ≤ l.length) : Rdg rd l p b x p true := ⟨h2, fun e => (by cases e), fun _ _ => h1⟩
theorem Rdg.ok {rd : List Int → Option (α × List Int)} {x : α} {p' : Nat} (h1 : rd (l.drop p) = some (x, l.drop p')) (h2 : p' ≤ l.length) : Rdg rd l p b x p' b := ⟨h2, fun e => ⟨e, h1⟩, fun e1 e2 => by rw [e1] at e2; cases e2⟩
theorem Rdg.most {m n : Int} (h : Rdg cN.rd l p b n p1 b1) (hm : ¬ m < n) : Rdg (Kvl.rdM m) l p b n p1 b1 :=
  ⟨h.1, fun e => ⟨(h.2.1 e).1, by unfold Kvl.rdM; rw [(h.2.1 e).2]; simp only [Option.bind_some]; rw [if_neg hm]⟩, fun e1 e2 => by unfold Kvl.rdM; rw [h.2.2 e1 e2]; rfl⟩
theorem Rdg.over {m n x : Int} (h : Rdg cN.rd l p b n p1 b1) (hm : m < n) : Rdg (Kvl.rdM m) l p b x p1 true :=
  ⟨h.1, fun e => (by cases e), fun e1 _ => by
    unfold Kvl.rdM
    cases b1 with
    | true => rw [h.2.2 e1 rfl]; rfl
    | false => rw [(h.2.1 rfl).2]; simp only [Option.bind_some]; rw [if_pos hm]⟩
theorem gBm {m : Int} (hb : Byt l) (hp : p ≤ l.length) :
    ((cTm m).rd (l.drop p) = none ∧ getB l p m = ([], 0, 11)) ∨ ∃ t p', (cTm m).rd (l.drop p) = some (t, l.drop p') ∧ getB l p m = (t, ((p' : Nat) : Int), 0) ∧ p' ≤ l.length := by
  cases hn : num (l.drop p) with
  | none => exact .inl ⟨by simp [cTm, hn], by unfold getB; rw [getI_none p hp hn]; simp⟩
  | some nk =>
    obtain ⟨n, k⟩ := nk
    obtain ⟨n0, n1, _, _, kl, _⟩ := num_some (hb.drop p) hn
    rw [List.length_drop] at kl
    obtain ⟨j, rfl⟩ := Int.eq_ofNat_of_zero_le n0
    have hg := getI_some p hp hn
    by_cases hc : m < (j : Int) ∨ ((l.drop p).length : Int) - k < (j : Int)
    · refine .inl ⟨by simp only [cTm, hn, Option.bind_some]; rw [if_pos hc], ?_⟩
      unfold getB
      rw [hg, if_pos]
      rw [List.length_drop] at hc
      simp only
      omega
    · rw [List.length_drop] at hc
      refine .inr ⟨((l.drop p).drop k).take j, p + k + j, ?_, ?_, by omega⟩
      · simp only [cTm, hn, Option.bind_some]
        rw [if_neg (by rw [List.length_drop]; exact hc)]
        simp [Nat.add_assoc]
      · unfold getB
        rw [hg, if_neg (by simp only; omega)]
        simp only [Prod.mk.injEq]
        refine ⟨?_, by omega, trivial⟩
        rw [List.drop_drop, Int.toNat_natCast]
        congr 2
/-- All was read: what it comes to. -/
theorem Rdg.whole {c : Cdc PApp} {a : PApp} (h : Rdg c.rd l 0 false a p b) : rdA c l = if (b = false ∧ p = l.length) ∧ rgtA a then some a else none := by
  have e0 : l.drop 0 = l := rfl
  unfold rdA
  cases b with
  | true =>
    have := h.2.2 rfl rfl
    rw [e0] at this
    rw [this]
    simp
  | false =>
    have := (h.2.1 rfl).2
    rw [e0] at this
    rw [this]
    by_cases hp : p = l.length
    · rw [hp, List.drop_length]
      simp
    · have hd : l.drop p ≠ [] := by have := h.1; simp; omega
      rw [if_neg (fun hh => hp hh.1.2)]
      cases hx : l.drop p with
      | nil => exact absurd hx hd
      | cons x r => rfl
end Kvl
end Go.Proofs.Ytejkkhlblnepeaa
