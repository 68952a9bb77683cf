/- Names with values, plain: the place of a name; the document's way of putting; what the laws ask. -/
import Derived.Test.YtgbfmccecnfooaaCAAE
set_option linter.unusedSimpArgs false
set_option linter.unusedVariables false
namespace Go.Proofs.Ytgbfmccecnfooaa
namespace Kvl
/-- Where the entry of a name is, or would be. -/
def pos (n : List Int) : List PEnt → Nat
  | [] => 0
  | x :: r => if cmpL x.1 n < 0 then pos n r + 1 else 0
/-! The document's way. -/
/-! What the laws ask. -/
end Kvl
end Go.Proofs.Ytgbfmccecnfooaa
