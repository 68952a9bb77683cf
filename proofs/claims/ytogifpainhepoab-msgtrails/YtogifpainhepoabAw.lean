/- Appending much: behind a text of the call's own. -/
import Derived.Test.YtogifpainhepoabW1
import Derived.Deep.DeepAppendWide
namespace Go.Proofs.Ytogifpainhepoab
open Go.RowKit Oct

theorem app_wide {w : World} {ops : Array Oper} {rest : List Oper} {o : Oper} {a : Act} {Q : Exit → Act → World → Prop} (hgd : o.guard = none) (s x : Operand)
    (ho : o.op = .call { callee := .builtin .append, args := #[s, x], argTypes := #[24, 24] })
    (v : Value) (l : List Int) (hs : a.eval s = v) (hown : Own w 5 v (bc l)) (ao : Option Addr) (n cap : Nat) (m : List Int) (hx : a.eval x = .slice ao n cap) (hsrc : Rdv w (.slice ao n cap) (bc m)) (hm : m ≠ []) (hb : l.length + m.length ≤ 140737489399808)
    (h : ∀ v' w', Own w' 5 v' (bc (l ++ m)) → w.grownBy w' v.ownBlock → wpList Try.prog ops Q rest (a.put o.dst v') w') : wpList Try.prog ops Q (o :: rest) a w := by
  obtain ⟨i0, hi, hz0, hz1, hz2⟩ := info_parts Try.info5
  refine wpList_wanted (wanted_none hgd) fun K hK => ?_
  obtain ⟨ao', cap', e, c1, c2, c3, c4⟩ := hsrc
  cases e
  cases ao with
  | none => exact absurd (List.length_eq_zero_iff.1 (by rw [← bc_len]; exact congrArg List.length (c3 rfl).1)) hm
  | some ad =>
    obtain ⟨v', w', hr, o1, o2, _⟩ := run_append_own_wide (P := Try.prog) w 0 24 o.type 5 i0 (.int .u8 0) 1 1 Try.underlying24 hi hz0 hz1 hz2 rfl (by decide) v (bc l).length (bc l) hown ad (bc m).length cap (bc m) (by omega) (c4 ad rfl) (bc_one _)
      (by rw [bc_len, bc_len]; unfold maxLen; omega) (by rw [bc_len, bc_len]; omega) (Nat.zero_le _)
    unfold Oper.wp
    simp [execOp, ho, resolve, invoke, builtin, hs, hx, hr, Result.andThen]
    refine hK _ _ (h v' w' ?_ o2)
    rw [bc_app]
    rw [← List.length_append] at o1
    exact o1
#print axioms app_wide
end Go.Proofs.Ytogifpainhepoab
