/- Records' cells, where no writer of messages is about (M3, E1 say it else). -/
import Derived.Test.YtjloehkolnjnhabXKAT
import Derived.Test.YtjloehkolnjnhabXKAS
set_option linter.unusedVariables false
namespace Go.Proofs.Ytjloehkolnjnhab
open Go.RowKit Oct
theorem row_alloc {w : World} {b : Nat} {t : TypeId} {xs : List Value} (h : Row w b t xs) (o : Obj) : Row (w.alloc o) b t xs := h.below (below_alloc w o)
end Go.Proofs.Ytjloehkolnjnhab
