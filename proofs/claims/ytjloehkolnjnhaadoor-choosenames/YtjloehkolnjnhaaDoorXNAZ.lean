/- The walks over package msg: records and lists written. (Laid by mk5w.py.) -/
import Derived.Test.YtjloehkolnjnhaaDoorXNAV
import Derived.Test.YtjloehkolnjnhaaDoorXNAU
set_option linter.unusedSimpArgs false
set_option linter.unusedVariables false
namespace Go.Proofs.YtjloehkolnjnhaaDoor
section
open Go.RowKit Oct
theorem WS.below {w0 w w' : World} {b : Nat} {done : List Int} (h : WS w0 w b done) (hb : Below w.heap.size w w') : WS w0 w' b done := by
  obtain ⟨bel, hb0, v, many, lo, hrow, hown, hbyt, hfr, hlo, h1, h2⟩ := h
  exact ⟨below_and bel (Nat.le_refl _) hb, hb0, v, many, lo, hrow.below hb, hown.below hb, hbyt, hfr, hlo, h1, h2⟩
theorem WS.lt {w0 w : World} {b : Nat} {done : List Int} (h : WS w0 w b done) : b < w.heap.size := by
  obtain ⟨_, _, v, many, lo, hrow, _⟩ := h
  exact hrow.lt
/-- What a call that writes a comes to. -/
def WPost {α : Type} (c : Cdc α) (w0 w : World) (b : Nat) (done : List Int) (a : α) (e : Ending) (w' : World) : Prop :=
  UFr b w w' ∧ Below w0.heap.size w0 w' ∧ ((c.ok a = false ∧ e = .panicked [{ v := .iface 53 (.int .i64 51), recovered := false }]) ∨ (c.ok a = true ∧ e = .returned (.tuple #[]) ∧ WS w0 w' b (done ++ c.wr a)))
theorem WPost.no {α : Type} {c : Cdc α} {w0 w : World} {b : Nat} {done : List Int} {a : α} {w' : World} (hu : UFr b w w') (hb : Below w0.heap.size w0 w') (ho : c.ok a = false) : WPost c w0 w b done a (.panicked [{ v := .iface 53 (.int .i64 51), recovered := false }]) w' :=
  ⟨hu, hb, .inl ⟨ho, rfl⟩⟩
theorem WPost.yes {α : Type} {c : Cdc α} {w0 w : World} {b : Nat} {done : List Int} {a : α} {w' : World} (hu : UFr b w w') (ho : c.ok a = true) (hW : WS w0 w' b (done ++ c.wr a)) : WPost c w0 w b done a (.returned (.tuple #[])) w' :=
  ⟨hu, hW.bel, .inr ⟨ho, rfl, hW⟩⟩
end
section
open Go.RowKit Oct
end
end Go.Proofs.YtjloehkolnjnhaaDoor
