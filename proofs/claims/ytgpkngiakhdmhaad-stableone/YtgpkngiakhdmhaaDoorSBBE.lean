/- Entries, operations, results in memory; copies of records within a row. -/
import Derived.Test.YtgpkngiakhdmhaaDoorSBAV
import Derived.Test.YtgpkngiakhdmhaaDoorSBAO
set_option linter.unusedSimpArgs false
set_option linter.unusedVariables false
namespace Go.Proofs.YtgpkngiakhdmhaaDoor
open Go.RowKit Oct Kvl
/-- A text of the call's own, in a block of which G holds. -/
def OT (G : Nat → Prop) (w : World) (v : Value) (l : List Int) : Prop := Own w 5 v (bc l) ∧ Byt l ∧ ∀ k, v.ownBlock = some k → G k
theorem Own.at_block {w w' : World} {e : TypeId} {v : Value} {xs : List Value} (h : Own w e v xs) (hb : ∀ k, v.ownBlock = some k → w'.heap[k]? = w.heap[k]?) : Own w' e v xs := by
  refine ⟨h.1, ?_⟩
  rcases h.2 with h | ⟨g, cap, cur, h1, h2, h3, h4⟩
  · exact .inl h
  · exact .inr ⟨g, cap, cur, h1, h2, (hb g (by rw [h1]; rfl)).trans h3, h4⟩
theorem OT.mv {G G' : Nat → Prop} {w w' : World} {v : Value} {l : List Int} (h : OT G w v l) (hm : Mv G G' w w') : OT G' w' v l :=
  ⟨h.1.at_block fun k hk => (hm k (h.2.2 k hk) (h.1.lt k hk)).1, h.2.1, fun k hk => (hm k (h.2.2 k hk) (h.1.lt k hk)).2⟩
theorem OT.rt {G : Nat → Prop} {w : World} {v : Value} {l : List Int} (h : OT G w v l) : RT G w v l := ⟨h.1.rd h.2.1, fun _ k hk => h.2.2 k hk⟩
theorem OT.one {G : Nat → Prop} {w : World} {v : Value} {l : List Int} (h : OT G w v l) : v.oneCell' = true := h.rt.one
theorem OT.nil (G : Nat → Prop) (w : World) : OT G w (.slice none 0 0) [] := ⟨Own.nil w 5, Byt.nil, fun k hk => by simp [Value.ownBlock] at hk⟩
theorem OT.own {B : Nat} {w : World} {v : Value} {l : List Int} (h : Own w 5 v (bc l)) (hb : Byt l) (hf : Fr B v) : OT (From B) w v l := ⟨h, hb, fun k hk => hf k hk⟩
section
variable {P : Program}
end
end Go.Proofs.YtgpkngiakhdmhaaDoor
