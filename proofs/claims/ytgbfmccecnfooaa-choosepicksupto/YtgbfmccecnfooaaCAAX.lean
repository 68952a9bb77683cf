/- What the types of records are, where no reader of messages is about (D2, D3, D4 say it else). -/
import Derived.Test.YtgbfmccecnfooaaCAAT
namespace Go.Proofs.Ytgbfmccecnfooaa
open Go.RowKit Oct
theorem Try.inf_preps : (Try.prog.info? 45).map (fun i => (i.zero, i.size, i.bytes)) = some (some (.agg #[.int .i64 0, .int .i64 0, .int .i64 0, .int .i64 0, .int .i64 0, .slice none 0 0, .slice none 0 0, .slice none 0 0]), 8, 112) := by kernel_rfl
end Go.Proofs.Ytgbfmccecnfooaa
