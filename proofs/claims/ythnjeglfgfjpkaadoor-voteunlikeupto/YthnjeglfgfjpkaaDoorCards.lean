/-
  DERIVED. GIVEN WITH THE SEED: THE CARDS: each row of YthnjeglfgfjpkaaDoorRows.lean that lists a variable, with what it lists TIED to the program's text (the seventh form; the later family's looks); each row that meets fmt, with fmt's text TOLD by the authors' own Lean function (tested against real Go, not proved from fmt's source: count such statements apart). THE CARD IS WHAT COUNTS. Prove the row's statement (the work); the ties are given (YthnjeglfgfjpkaaDoorTie.lean); close each card by the builder's one call (the guide's Derived/Test/ToyasCard.lean, 'card_holds'). Laid BY PROGRAM, IN A SANDBOX (cutbox-door.mjs). By AI agents, Wed Nov 11 2026. No macro, syntax, notation, axiom, sorry.
-/
import Derived.Test.YthnjeglfgfjpkaaDoorRows
import GoSem.ClaimSeven
namespace Go.Proofs.YthnjeglfgfjpkaaDoor
namespace Rows

/-- THE TIED CARD OF 'catenarylaw06.VoteNames'. -/
def voteNamesCard : Claim7 := { stood := { row := voteNamesRow, standIns := [], harness := (true, "e31679982a980bbb3bbd83d75e51811aecc33ad1385b5de55cd099838e6131cd"), looks := false }, kinds := [], alts := [], laidByText := true, laidKinds := [.data], laidTests := true, laidLooks := .later }
def VoteNamesCardSaid : Prop := Claim7.holds Tryd.pinned (.plain (OpenSpec.ofChange voteNamesSpec)) voteNamesCard

/-- THE TIED CARD OF 'catenarylaw06.VoteMakes'. -/
def voteMakesCard : Claim7 := { stood := { row := voteMakesRow, standIns := [], harness := (true, "e31679982a980bbb3bbd83d75e51811aecc33ad1385b5de55cd099838e6131cd"), looks := false }, kinds := [], alts := [], laidByText := true, laidKinds := [.data], laidTests := true, laidLooks := .later }
def VoteMakesCardSaid : Prop := Claim7.holds Tryd.pinned (.plain (OpenSpec.ofChange voteMakesSpec)) voteMakesCard

/-- THE TIED CARD OF 'catenarylaw06.VoteCerts'. -/
def voteCertsCard : Claim7 := { stood := { row := voteCertsRow, standIns := [], harness := (true, "e31679982a980bbb3bbd83d75e51811aecc33ad1385b5de55cd099838e6131cd"), looks := false }, kinds := [], alts := [], laidByText := true, laidKinds := [.data], laidTests := true, laidLooks := .later }
def VoteCertsCardSaid : Prop := Claim7.holds Tryd.pinned (.plain (OpenSpec.ofChange voteCertsSpec)) voteCertsCard

/-- THE TIED CARD OF 'catenarylaw06.VoteUnlike'. -/
def voteUnlikeCard : Claim7 := { stood := { row := voteUnlikeRow, standIns := [], harness := (true, "e31679982a980bbb3bbd83d75e51811aecc33ad1385b5de55cd099838e6131cd"), looks := false }, kinds := [], alts := [], laidByText := true, laidKinds := [.data], laidTests := true, laidLooks := .later }
def VoteUnlikeCardSaid : Prop := Claim7.holds Tryd.pinned (.plain (OpenSpec.ofChange voteUnlikeSpec)) voteUnlikeCard

/-- THE SECOND FORM's CARD OF 'catenarylaw06.VoteNames'. -/
def voteNamesUptoCard : Claim7 := { stood := { row := voteNamesUptoRow, standIns := [], harness := (true, "e31679982a980bbb3bbd83d75e51811aecc33ad1385b5de55cd099838e6131cd"), looks := false }, kinds := [], alts := [], laidByText := true, laidKinds := [.data], laidTests := true, laidLooks := .later }
def VoteNamesUptoCardSaid : Prop := Claim7.holds Tryd.pinned (.plain (OpenSpec.upto voteNamesSpec)) voteNamesUptoCard

/-- THE SECOND FORM's CARD OF 'catenarylaw06.VoteMakes'. -/
def voteMakesUptoCard : Claim7 := { stood := { row := voteMakesUptoRow, standIns := [], harness := (true, "e31679982a980bbb3bbd83d75e51811aecc33ad1385b5de55cd099838e6131cd"), looks := false }, kinds := [], alts := [], laidByText := true, laidKinds := [.data], laidTests := true, laidLooks := .later }
def VoteMakesUptoCardSaid : Prop := Claim7.holds Tryd.pinned (.plain (OpenSpec.upto voteMakesSpec)) voteMakesUptoCard

/-- THE SECOND FORM's CARD OF 'catenarylaw06.VoteCerts'. -/
def voteCertsUptoCard : Claim7 := { stood := { row := voteCertsUptoRow, standIns := [], harness := (true, "e31679982a980bbb3bbd83d75e51811aecc33ad1385b5de55cd099838e6131cd"), looks := false }, kinds := [], alts := [], laidByText := true, laidKinds := [.data], laidTests := true, laidLooks := .later }
def VoteCertsUptoCardSaid : Prop := Claim7.holds Tryd.pinned (.plain (OpenSpec.upto voteCertsSpec)) voteCertsUptoCard

/-- THE SECOND FORM's CARD OF 'catenarylaw06.VoteUnlike'. -/
def voteUnlikeUptoCard : Claim7 := { stood := { row := voteUnlikeUptoRow, standIns := [], harness := (true, "e31679982a980bbb3bbd83d75e51811aecc33ad1385b5de55cd099838e6131cd"), looks := false }, kinds := [], alts := [], laidByText := true, laidKinds := [.data], laidTests := true, laidLooks := .later }
def VoteUnlikeUptoCardSaid : Prop := Claim7.holds Tryd.pinned (.plain (OpenSpec.upto voteUnlikeSpec)) voteUnlikeUptoCard
end Rows
end Go.Proofs.YthnjeglfgfjpkaaDoor
