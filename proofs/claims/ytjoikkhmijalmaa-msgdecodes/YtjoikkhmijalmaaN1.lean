/- The document's writing: numbers, texts. -/
import Derived.Test.YtjoikkhmijalmaaOpen5
import Derived.Test.YtjoikkhmijalmaaC1
import Derived.Test.YtjoikkhmijalmaaE1
import Derived.Deep.RegionLaw
set_option linter.unusedVariables false
namespace Go.Proofs.Ytjoikkhmijalmaa
open Go.RowKit Oct

/-- What a writing of the document's ends in. -/
def OPost {α : Type} (c : Cdc α) (x : α) (w : World) (sv : Value) (bad : Bool) (L : List Int) (e : Ending) (w' : World) : Prop :=
  ∃ sv', e = .returned (.agg #[sv', .bool (bad || !c.ok x)]) ∧ App w 5 sv w' sv' (bc (L ++ c.wr x))

theorem App.box {w w4 : World} {sv v4 : Value} {X : List Value} (h : App w 5 sv w4 v4 X) {b : Nat} (hb : w.heap.size ≤ b) {t : TypeId} {xs : List Value} (rr : Row w4 b t xs) (u0 u1 : Value) (ht : t ≠ 5 := by decide) :
    App w 5 sv ((w4.setCell ⟨b, 0, none⟩ u0).setCell ⟨b, 1, none⟩ u1) v4 X := by
  have hn := own_row_ne rr h.own ht
  have hg := grown_trans (grown_set w4 b 0 u0) (grown_set (w4.setCell ⟨b, 0, none⟩ u0) b 1 u1) (.inl rfl)
  exact ⟨h.own.grown hg (fun k hk => by cases hk; exact hn), grown_trans h.grown hg (.inr fun k hk => by cases hk; exact hb), h.spot⟩
theorem outI_len (n : Int) : (outI n).length ≤ 10 := by
  unfold outI
  split
  · exact (enc_len n).2
  · simp

end Go.Proofs.Ytjoikkhmijalmaa
