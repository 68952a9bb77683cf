/- The walks over the document's own answers: numbers (catenaryref01.Int, GetInt). -/
import Derived.Test.YtgbfmccecnfooaaCAAF
namespace Go.Proofs.Ytgbfmccecnfooaa
open Go.RowKit Oct
end Go.Proofs.Ytgbfmccecnfooaa
