/-
  DERIVED. GIVEN WITH THE SEED: THE CARDS: each row of YtmfmfjndigjlfaaDoorRows.lean that lists a variable, with what it lists TIED to the program's text (the seventh form; the later family's looks); each row that meets fmt, with fmt's text TOLD by the authors' own Lean function (tested against real Go, not proved from fmt's source: count such statements apart). THE CARD IS WHAT COUNTS. Prove the row's statement (the work); the ties are given (YtmfmfjndigjlfaaDoorTie.lean); close each card by the builder's one call (the guide's Derived/Test/ToyasCard.lean, 'card_holds'). Laid BY PROGRAM, IN A SANDBOX (cutbox-door.mjs). By AI agents, Wed Nov 11 2026. No macro, syntax, notation, axiom, sorry.
-/
import Derived.Test.YtmfmfjndigjlfaaDoorRows
import GoSem.ClaimSeven
namespace Go.Proofs.YtmfmfjndigjlfaaDoor
namespace Rows

/-- THE TIED CARD OF 'catenarylaw06.VoteCerts'. -/
def voteCertsCard : Claim7 := { stood := { row := voteCertsRow, standIns := [], harness := (true, "200d9476101f96706ae73e82f1792561c6d35a7e4b80dc30d3c1f7699a3f5e28"), looks := false }, kinds := [], alts := [], laidByText := true, laidKinds := [.data], laidTests := true, laidLooks := .later }
def VoteCertsCardSaid : Prop := Claim7.holds Tryd.pinned (.plain (OpenSpec.ofChange voteCertsSpec)) voteCertsCard

/-- THE TIED CARD OF 'catenarylaw06.VoteAsks'. -/
def voteAsksCard : Claim7 := { stood := { row := voteAsksRow, standIns := [], harness := (true, "200d9476101f96706ae73e82f1792561c6d35a7e4b80dc30d3c1f7699a3f5e28"), looks := false }, kinds := [], alts := [], laidByText := true, laidKinds := [.data], laidTests := true, laidLooks := .later }
def VoteAsksCardSaid : Prop := Claim7.holds Tryd.pinned (.plain (OpenSpec.ofChange voteAsksSpec)) voteAsksCard

/-- THE SECOND FORM's CARD OF 'catenarylaw06.VoteCerts'. -/
def voteCertsUptoCard : Claim7 := { stood := { row := voteCertsUptoRow, standIns := [], harness := (true, "200d9476101f96706ae73e82f1792561c6d35a7e4b80dc30d3c1f7699a3f5e28"), looks := false }, kinds := [], alts := [], laidByText := true, laidKinds := [.data], laidTests := true, laidLooks := .later }
def VoteCertsUptoCardSaid : Prop := Claim7.holds Tryd.pinned (.plain (OpenSpec.upto voteCertsSpec)) voteCertsUptoCard

/-- THE SECOND FORM's CARD OF 'catenarylaw06.VoteAsks'. -/
def voteAsksUptoCard : Claim7 := { stood := { row := voteAsksUptoRow, standIns := [], harness := (true, "200d9476101f96706ae73e82f1792561c6d35a7e4b80dc30d3c1f7699a3f5e28"), looks := false }, kinds := [], alts := [], laidByText := true, laidKinds := [.data], laidTests := true, laidLooks := .later }
def VoteAsksUptoCardSaid : Prop := Claim7.holds Tryd.pinned (.plain (OpenSpec.upto voteAsksSpec)) voteAsksUptoCard
end Rows
end Go.Proofs.YtmfmfjndigjlfaaDoor
