/- The document's reading: lists, plain. -/
import Derived.Test.YtjoikkhmijalmaaG3
set_option linter.unusedVariables false
set_option linter.unusedSimpArgs false
namespace Go.Proofs.Ytjoikkhmijalmaa
open Go.RowKit Oct

theorem many_none {α : Type} {c : Cdc α} {l : List Int} {p : Nat} {b : Bool} : (stL l p b).bind (rdN c 0) = (stL l p b).map fun r => (([] : List α), r) := by
  cases stL l p b <;> rfl
/-- One more. -/
theorem many_step {α : Type} {c : Cdc α} {l : List Int} {p r s n : Nat} {b0 b1 b2 : Bool} {ys : List α} {y : α} (h1 : (stL l p b0).bind (rdN c n) = (stL l r b1).map fun t => (ys, t)) (h2 : (stL l r b1).bind c.rd = (stL l s b2).map fun t => (y, t)) :
    (stL l p b0).bind (rdN c (n + 1)) = (stL l s b2).map fun t => (ys ++ [y], t) := by
  have e : rdN c (n + 1) = fun l => (rdN c n l).bind fun x => (c.rd x.2).map fun y => (x.1 ++ [y.1], y.2) := funext fun l => rdN_snoc c n l
  rw [e, ← Option.bind_assoc, h1]
  cases hq : stL l r b1 with
  | none =>
    rw [hq] at h2
    cases hr : stL l s b2 with
    | none => rfl
    | some s => rw [hr] at h2; cases h2
  | some t =>
    rw [hq] at h2
    have h2' : c.rd t = (stL l s b2).map fun t => (y, t) := h2
    simp only [Option.map_some, Option.bind_some, h2']
    cases stL l s b2 <;> rfl
/-- The whole list: as many as were said, or fewer where Bad came up. -/
theorem list_all {α : Type} {c : Cdc α} {l : List Int} {p r s n : Nat} {N : Int} {b0 b1 b2 : Bool} {ys : List α} (h0 : (stL l p b0).bind cM.rd = (stL l r b1).map fun t => (N, t)) (h1 : (stL l r b1).bind (rdN c n) = (stL l s b2).map fun t => (ys, t)) (hn : n = N.toNat ∨ (n ≤ N.toNat ∧ b2 = true)) :
    (stL l p b0).bind (cL c).rd = (stL l s b2).map fun t => (ys, t) := by
  have e : (cL c).rd = fun l => (cM.rd l).bind fun x => rdN c x.1.toNat x.2 := by
    funext l
    show (cN.rd l).bind _ = ((cN.rd l).bind _).bind _
    rw [Option.bind_assoc]
    congr 1
    funext x
    split <;> simp_all
  rw [e, ← Option.bind_assoc, h0]
  rcases hn with hn | ⟨hn, rfl⟩
  · subst hn
    rw [← h1]
    cases stL l r b1 with
    | none => rfl
    | some t => simp
  · have h1' : (stL l r b1).bind (rdN c n) = none := h1
    show _ = none
    cases hq : stL l r b1 with
    | none => rfl
    | some t =>
      rw [hq] at h1'
      have h2 : rdN c n t = none := h1'
      simp [rdN_none h2 N.toNat hn]
theorem cM_bd {l : List Int} {p r : Nat} {b0 : Bool} {n : Int} (h : (stL l p b0).bind cM.rd = (stL l r false).map fun t => (n, t)) : n ≤ 64 := by
  have h1 : (stL l p b0).bind (fun l => (cN.rd l).bind fun x => if 64 < x.1 then none else some x) = some (n, l.drop r) := h
  rw [← Option.bind_assoc] at h1
  cases hx : (stL l p b0).bind cN.rd with
  | none => rw [hx] at h1; cases h1
  | some x =>
    rw [hx] at h1
    simp only [Option.bind_some] at h1
    split at h1
    · cases h1
    · cases h1; omega
theorem st_good {α : Type} {l : List Int} {r s : Nat} {b1 : Bool} {f : List Int → Option (α × List Int)} {y : α} (h : (stL l r b1).bind f = (stL l s false).map fun t => (y, t)) : b1 = false := by
  cases b1
  · rfl
  · cases h
end Go.Proofs.Ytjoikkhmijalmaa
