/- The document's copies of entries and operations. -/
import Derived.Test.YtejkkhlblnepeaaDoorKm
set_option linter.unusedVariables false
set_option linter.unusedSimpArgs false
namespace Go.Proofs.YtejkkhlblnepeaaDoor
open Go.RowKit Oct Kvl

theorem one5 {a b : Int} {u v x : Value} (hu : u.oneCell' = true) (hv : v.oneCell' = true) (hx : x.oneCell' = true) : ∀ y ∈ [Value.int .i64 a, u, v, x, Value.int .i64 b], y.oneCell' = true := by
  intro y hy
  simp only [List.mem_cons, List.not_mem_nil, or_false] at hy
  rcases hy with rfl | rfl | rfl | rfl | rfl <;> first | rfl | assumption
theorem grown_cellE {w w' : World} {row : Option Nat} {a : Addr} {v : Value} (hg : w.grownBy w' row) (h : w.cell? a = some v) (hn : row ≠ some a.block) : w'.cell? a = some v := by
  rw [World.cell?_of_block (w := w) (w' := w') (a := a) (hg.block a.block (World.block_lt_of_cell? w a h) (fun e => hn e.symm))]
  exact h

end Go.Proofs.YtejkkhlblnepeaaDoor
