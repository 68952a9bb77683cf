/- Records' cells, where no writer of messages is about (M3, E1 say it else). -/
import Derived.Test.YtgbfmccecnfooaaCAAT
import Derived.Test.YtgbfmccecnfooaaCAAS
set_option linter.unusedVariables false
namespace Go.Proofs.Ytgbfmccecnfooaa
open Go.RowKit Oct
theorem Try.infoIo : (Try.prog.info? 3).map (fun i => (i.zero, i.size, i.bytes)) = some (some (.int .i64 0), 1, 8) := by kernel_rfl
theorem balNe (w : World) (a b c d : Int) : (binOp .neq 25 (.agg #[.int .i64 a, .int .i64 b]) (.agg #[.int .i64 c, .int .i64 d])).run Try.prog w = .ok (.bool (!(a == c && b == d))) w := by
  have hi : Try.prog.underlying 3 = some (.int .i64) := Try.underlying3
  have hz : ∀ w, (Go.sizeOf 3).run Try.prog w = .ok 1 w := fun w => by
    obtain ⟨i0, hi, hz0, hz1, hz2⟩ := info_parts Try.infoIo
    simp [sizeOf, typeInfo, hi, hz1]
  rw [run_neq_struct, run_equalIn_struct w 9999 25 _ _ (by kernel_rfl) (by kernel_rfl)]
  simp only [Program.fieldsOf, Try.underlying25]
  simp [Op.eqFields, part, hz, run_equalIn_int, hi]
  by_cases h1 : a = c <;> by_cases h2 : b = d <;> simp [h1, h2]
theorem row_alloc {w : World} {b : Nat} {t : TypeId} {xs : List Value} (h : Row w b t xs) (o : Obj) : Row (w.alloc o) b t xs := h.below (below_alloc w o)
end Go.Proofs.Ytgbfmccecnfooaa
