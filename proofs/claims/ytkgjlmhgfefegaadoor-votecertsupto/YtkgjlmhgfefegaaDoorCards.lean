/-
  DERIVED. GIVEN WITH THE SEED: THE CARDS: each row of YtkgjlmhgfefegaaDoorRows.lean that lists a variable, with what it lists TIED to the program's text (the seventh form; the later family's looks); each row that meets fmt, with fmt's text TOLD by the authors' own Lean function (tested against real Go, not proved from fmt's source: count such statements apart). THE CARD IS WHAT COUNTS. Prove the row's statement (the work); the ties are given (YtkgjlmhgfefegaaDoorTie.lean); close each card by the builder's one call (the guide's Derived/Test/ToyasCard.lean, 'card_holds'). Laid BY PROGRAM, IN A SANDBOX (cutbox-door.mjs). By AI agents, Wed Nov 11 2026. No macro, syntax, notation, axiom, sorry.
-/
import Derived.Test.YtkgjlmhgfefegaaDoorRows
import GoSem.ClaimSeven
namespace Go.Proofs.YtkgjlmhgfefegaaDoor
namespace Rows

/-- THE TIED CARD OF 'catenarylaw06.VoteCerts'. -/
def voteCertsCard : Claim7 := { stood := { row := voteCertsRow, standIns := [], harness := (true, "1fae940619e71cd3a7177b01a36b128527ac192bce31d8fb95535e838e6a3dd2"), looks := false }, kinds := [], alts := [], laidByText := true, laidKinds := [.data], laidTests := true, laidLooks := .later }
def VoteCertsCardSaid : Prop := Claim7.holds Tryd.pinned (.plain (OpenSpec.ofChange voteCertsSpec)) voteCertsCard

/-- THE SECOND FORM's CARD OF 'catenarylaw06.VoteCerts'. -/
def voteCertsUptoCard : Claim7 := { stood := { row := voteCertsUptoRow, standIns := [], harness := (true, "1fae940619e71cd3a7177b01a36b128527ac192bce31d8fb95535e838e6a3dd2"), looks := false }, kinds := [], alts := [], laidByText := true, laidKinds := [.data], laidTests := true, laidLooks := .later }
def VoteCertsUptoCardSaid : Prop := Claim7.holds Tryd.pinned (.plain (OpenSpec.upto voteCertsSpec)) voteCertsUptoCard
end Rows
end Go.Proofs.YtkgjlmhgfefegaaDoor
