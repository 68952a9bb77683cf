/- The laws' own 'made': a vote of kind 2 for a request. -/
import Derived.Test.YtgjepofinpmcpaaGreatDoorJBJ
set_option linter.unusedVariables false
set_option linter.unusedSimpArgs false
namespace Go.Proofs.YtgjepofinpmcpaaGreatDoor
open Go.RowKit Oct Kvl

/-- What a signer's signature is. -/
def sgn (k x y s : Int) (r : PReq) (i : Int) : List Int := signL (repL i) (sL ⟨#[118, 111, 116, 101]⟩) [numsL [k, x, y, s], body r]

end Go.Proofs.YtgjepofinpmcpaaGreatDoor
