/- slices.Grow of nothing, slices.Concat of texts. -/
import Derived.Test.YtejkkhlblnepeabKp
import Derived.Test.YtejkkhlblnepeabKvr
import Derived.Test.YtejkkhlblnepeabW4
set_option linter.unusedVariables false
set_option linter.unusedSimpArgs false
namespace Go.Proofs.Ytejkkhlblnepeab
open Go.RowKit Oct Kvl

/-- 'append(nil, make(S, m)...)' of bytes. -/
theorem wl_app_zeros0 {ops : Array Oper} {rest : List Oper} {o : Oper} {a : Act} {w : World} {Q : Exit → Act → World → Prop} (hgd : o.guard = none) (s x : Operand)
    (ho : o.op = .call { callee := .builtin .append, args := #[s, x], argTypes := #[28, 3] }) (hs : a.eval s = .slice none 0 0)
    (m : Nat) (hm : 0 < m) (hx : a.eval x = .int .i64 (m : Int)) (hmx : m ≤ 100000000)
    (h : ∀ NC w', Own w' 5 (.slice (some ⟨w.heap.size, 0, none⟩) 0 NC) (bc []) → m ≤ NC → NC ≤ maxLen → Below w.heap.size w w' → wpList Try.prog ops Q rest (a.put o.dst (.slice (some ⟨w.heap.size, 0, none⟩) m NC)) w') : wpList Try.prog ops Q (o :: rest) a w :=
  wpList_plain hgd fun _ hK => by
    obtain ⟨i, hi, hz, hsz, hby⟩ := info_parts Try.info5
    have hf : (Builtin.firstCells i.size 0 (.slice none 0 0)).run Try.prog w.drew = .ok ([] : List Value).toArray w.drew := by
      simp [Builtin.firstCells]
    have hr := Lib.run_append_grow_zeros (P := Try.prog) w 28 3 o.type 5 i (.int .u8 0) .i64 .i64 Try.underlying28 Try.underlying3 hi hz none 0 0 [] hf m hm (by omega) (by omega) (by omega)
      (by rw [hby]; omega) (growslice_fits (by omega) (by rw [hby]; omega))
    rw [Nat.zero_add] at hr
    have hge := grownCap_ge w m 0 5
    have hcm := grownCap_le_maxLen w m 0 5 (by unfold maxLen; omega)
    unfold Oper.wp
    simp [execOp, ho, resolve, invoke, builtin, hs, hx, hr, Result.andThen]
    refine hK _ _ (h (grownCap w m 0 5) _ ⟨by simp [bc], .inr ⟨w.heap.size, _, _, rfl, Nat.zero_le _, heap_alloc_new w.drew _, Nat.zero_le _, hcm, ?_, by simp [bc]⟩⟩ hge hcm ((show Below w.heap.size w w.drew from ⟨rfl, rfl, rfl, Nat.le_refl _, fun _ _ => rfl⟩).alloc (Nat.le_refl _) _))
    simp only [Array.size_append, size_zeroCells, Value.cells]
    simp
    omega


theorem flat_take_len {ll : List (List Int)} {q : Nat} {l : List Int} (h : ll[q]? = some l) : (ll.take (q + 1)).flatten = (ll.take q).flatten ++ l := by
  rw [take_snoc' ll q l h]; simp
theorem flat_take_le (ll : List (List Int)) (q : Nat) : (ll.take q).flatten.length ≤ ll.flatten.length := by
  conv => rhs; rw [← List.take_append_drop q ll]
  rw [List.flatten_append, List.length_append]
  omega

end Go.Proofs.Ytejkkhlblnepeab
