/- Whole structs loaded and stored at a step of a region that draws; texts of which only the length is known. -/
import Derived.Test.YtbnioibeckifbaaKy
set_option linter.unusedVariables false
set_option linter.unusedSimpArgs false
namespace Go.Proofs.Ytbnioibeckifbaa
open Go.RowKit Oct Kvl

section
variable {P : Program}
theorem step_load {ops : Array Oper} {o : Oper} {a : Act} {w : World} {K : Act → World → Prop} {Q : Exit → Act → World → Prop} {E : Prop} (hgd : o.guard = none) (ty : TypeId) (x : Operand) (ho : o.op = .load ty x)
    (b : Nat) (hx : a.eval x = .pointer (some ⟨b, 0, none⟩)) (t : TypeId) (xs : List Value) (h : Row w b t xs) (d : TypeDesc) (hu : P.underlying ty = some d) (hd : (match d with | .struct _ | .array _ _ => true | _ => false) = true)
    (hi : (P.info? ty).map (·.size) = some xs.length) (k : K (a.put o.dst (.agg xs.toArray)) w) : if Region.wanted o (yielded ops a.tmps) = true then Oper.wp P o a w K Q else E := by
  rw [if_pos (wanted_none hgd)]
  exact wp_load_row ty x ho b hx t xs.toArray (0, 0) d h hu hd (by simpa using hi) k
theorem step_store {ops : Array Oper} {o : Oper} {a : Act} {w : World} {K : Act → World → Prop} {Q : Exit → Act → World → Prop} {E : Prop} (hgd : o.guard = none) (ty : TypeId) (x y : Operand) (ho : o.op = .store ty x y)
    (b : Nat) (ys : List Value) (hx : a.eval x = .pointer (some ⟨b, 0, none⟩)) (hy : a.eval y = .agg ys.toArray) (t : TypeId) (xs : List Value) (h : Row w b t xs) (hl : xs.length = ys.length)
    (hi : (P.info? ty).map (·.size) = some ys.length) (h1 : ∀ v ∈ ys, v.oneCell' = true) (k : ∀ w', Hid (Row w' b t ys) → w.grownBy w' (some b) → K (a.put o.dst undef) w') : if Region.wanted o (yielded ops a.tmps) = true then Oper.wp P o a w K Q else E := by
  rw [if_pos (wanted_none hgd)]
  exact wp_store_row ty x y ho b ys.toArray hx hy t xs.toArray h (by simpa using hi) (by simpa using hl) (all_oneCell_toArray h1) (k _ (h.setRow ys) (grown_setRow _ _ _))
end
/-- A byte is set somewhere: a text of the call's own is still one, of the same length. -/
theorem OT.byte {G : Nat → Prop} {w : World} {v : Value} {l : List Int} (h : OT G w v l) (g j : Nat) (x : Int) (hx : 0 ≤ x ∧ x ≤ 255) : ∃ l', l'.length = l.length ∧ OT G (w.setCell ⟨g, j, none⟩ (.int .u8 x)) v l' := by
  by_cases hg : v.ownBlock = some g
  · obtain ⟨hown, hb, hG⟩ := h
    refine ⟨l.set j x, by simp, ?_, fun z hz => ?_, hG⟩
    · obtain ⟨h1, h2⟩ := hown
      rcases h2 with ⟨rfl, _⟩ | ⟨g', cap, cur, rfl, h0, hh, n1, n2, n3, n4⟩
      · simp [Value.ownBlock] at hg
      · simp [Value.ownBlock] at hg
        subst hg
        have q : Row w g' 5 cur.toList := by unfold Row; simpa using hh
        have q' := q.set j (.int .u8 x)
        have hbc : bc (l.set j x) = (bc l).set j (.int .u8 x) := by unfold bc; rw [List.map_set]
        have hn : (bc (l.set j x)).length = (bc l).length := by rw [hbc, List.length_set]
        show World.ownsRow _ 0 _ 1 _ (bc (l.set j x)).length _
        rw [hn, hbc]
        refine ⟨by simp, .inr ⟨g', cap, (cur.toList.set j (.int .u8 x)).toArray, rfl, h0, q', n1, n2, by simpa using n3, ?_⟩⟩
        rw [List.toList_toArray, List.take_set, n4]
    · rcases List.mem_or_eq_of_mem_set hz with hz | rfl
      · exact hb z hz
      · exact hx
  · refine ⟨l, rfl, h.1.grown (grown_set w g j (.int .u8 x)) (fun k hk => ?_), h.2.1, h.2.2⟩
    cases hk
    exact hg
end Go.Proofs.Ytbnioibeckifbaa
