/-
  DERIVED. GIVEN WITH THE SEED: THE CARDS: each row of YtijmecplechhgaaGreatDoorRows.lean that lists a variable, with what it lists TIED to the program's text (the seventh form; the later family's looks); each row that meets fmt, with fmt's text TOLD by the authors' own Lean function (tested against real Go, not proved from fmt's source: count such statements apart). THE CARD IS WHAT COUNTS. Prove the row's statement (the work); the ties are given (YtijmecplechhgaaGreatDoorTie.lean); close each card by the builder's one call (the guide's Derived/Test/ToyasCard.lean, 'card_holds'). Laid BY PROGRAM, IN A SANDBOX (cutbox-door.mjs). By AI agents, Wed Nov 11 2026. No macro, syntax, notation, axiom, sorry.
-/
import Derived.Test.YtijmecplechhgaaGreatDoorRows
import GoSem.ClaimSeven
namespace Go.Proofs.YtijmecplechhgaaGreatDoor
namespace Rows

/-- THE TIED CARD OF 'catenarylaw06.VoteSeals'. -/
def voteSealsCard : Claim7 := { stood := { row := voteSealsRow, standIns := [], harness := (true, "d5c0c15581b44ed1f84ae675fc2177eebedc80993a8c27b7ce49a8c8cd0b77c2"), looks := true }, kinds := [], alts := [], laidByText := true, laidKinds := [.data], laidTests := true, laidLooks := .later }
def VoteSealsCardSaid : Prop := Claim7.holds Tryz.pinned (.plain (OpenSpec.ofChange voteSealsSpec)) voteSealsCard

/-- THE SECOND FORM's CARD OF 'catenarylaw06.VoteSeals'. -/
def voteSealsUptoCard : Claim7 := { stood := { row := voteSealsUptoRow, standIns := [], harness := (true, "d5c0c15581b44ed1f84ae675fc2177eebedc80993a8c27b7ce49a8c8cd0b77c2"), looks := true }, kinds := [], alts := [], laidByText := true, laidKinds := [.data], laidTests := true, laidLooks := .later }
def VoteSealsUptoCardSaid : Prop := Claim7.holds Tryz.pinned (.plain (OpenSpec.upto voteSealsSpec)) voteSealsUptoCard
end Rows
end Go.Proofs.YtijmecplechhgaaGreatDoor
