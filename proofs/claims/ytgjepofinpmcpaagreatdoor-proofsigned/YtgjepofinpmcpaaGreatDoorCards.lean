/-
  DERIVED. GIVEN WITH THE SEED: THE CARDS: each row of YtgjepofinpmcpaaGreatDoorRows.lean that lists a variable, with what it lists TIED to the program's text (the seventh form; the later family's looks); each row that meets fmt, with fmt's text TOLD by the authors' own Lean function (tested against real Go, not proved from fmt's source: count such statements apart). THE CARD IS WHAT COUNTS. Prove the row's statement (the work); the ties are given (YtgjepofinpmcpaaGreatDoorTie.lean); close each card by the builder's one call (the guide's Derived/Test/ToyasCard.lean, 'card_holds'). Laid BY PROGRAM, IN A SANDBOX (cutbox-door.mjs). By AI agents, Wed Nov 11 2026. No macro, syntax, notation, axiom, sorry.
-/
import Derived.Test.YtgjepofinpmcpaaGreatDoorRows
import GoSem.ClaimSeven
namespace Go.Proofs.YtgjepofinpmcpaaGreatDoor
namespace Rows

/-- THE TIED CARD OF 'catenarylaw16.ProofNames'. -/
def proofNamesCard : Claim7 := { stood := { row := proofNamesRow, standIns := [], harness := (true, "c94c640e3e38f2945380fc42422f489d2567eeb26ef0ce66e64d419c6834ca82"), looks := true }, kinds := [], alts := [], laidByText := true, laidKinds := [.data], laidTests := true, laidLooks := .later }
def ProofNamesCardSaid : Prop := Claim7.holds Tryz.pinned (.plain (OpenSpec.ofChange proofNamesSpec)) proofNamesCard

/-- THE TIED CARD OF 'catenarylaw16.ProofChecks'. -/
def proofChecksCard : Claim7 := { stood := { row := proofChecksRow, standIns := [], harness := (true, "c94c640e3e38f2945380fc42422f489d2567eeb26ef0ce66e64d419c6834ca82"), looks := true }, kinds := [], alts := [], laidByText := true, laidKinds := [.data], laidTests := true, laidLooks := .later }
def ProofChecksCardSaid : Prop := Claim7.holds Tryz.pinned (.plain (OpenSpec.ofChange proofChecksSpec)) proofChecksCard

/-- THE TIED CARD OF 'catenarylaw16.ProofMakes'. -/
def proofMakesCard : Claim7 := { stood := { row := proofMakesRow, standIns := [], harness := (true, "c94c640e3e38f2945380fc42422f489d2567eeb26ef0ce66e64d419c6834ca82"), looks := true }, kinds := [], alts := [], laidByText := true, laidKinds := [.data], laidTests := true, laidLooks := .later }
def ProofMakesCardSaid : Prop := Claim7.holds Tryz.pinned (.plain (OpenSpec.ofChange proofMakesSpec)) proofMakesCard

/-- THE TIED CARD OF 'catenarylaw16.ProofEnough'. -/
def proofEnoughCard : Claim7 := { stood := { row := proofEnoughRow, standIns := [], harness := (true, "c94c640e3e38f2945380fc42422f489d2567eeb26ef0ce66e64d419c6834ca82"), looks := true }, kinds := [], alts := [], laidByText := true, laidKinds := [.data], laidTests := true, laidLooks := .later }
def ProofEnoughCardSaid : Prop := Claim7.holds Tryz.pinned (.plain (OpenSpec.ofChange proofEnoughSpec)) proofEnoughCard

/-- THE TIED CARD OF 'catenarylaw16.ProofSigned'. -/
def proofSignedCard : Claim7 := { stood := { row := proofSignedRow, standIns := [], harness := (true, "c94c640e3e38f2945380fc42422f489d2567eeb26ef0ce66e64d419c6834ca82"), looks := true }, kinds := [], alts := [], laidByText := true, laidKinds := [.data], laidTests := true, laidLooks := .later }
def ProofSignedCardSaid : Prop := Claim7.holds Tryz.pinned (.plain (OpenSpec.ofChange proofSignedSpec)) proofSignedCard

/-- THE SECOND FORM's CARD OF 'catenarylaw16.ProofNames'. -/
def proofNamesUptoCard : Claim7 := { stood := { row := proofNamesUptoRow, standIns := [], harness := (true, "c94c640e3e38f2945380fc42422f489d2567eeb26ef0ce66e64d419c6834ca82"), looks := true }, kinds := [], alts := [], laidByText := true, laidKinds := [.data], laidTests := true, laidLooks := .later }
def ProofNamesUptoCardSaid : Prop := Claim7.holds Tryz.pinned (.plain (OpenSpec.upto proofNamesSpec)) proofNamesUptoCard

/-- THE SECOND FORM's CARD OF 'catenarylaw16.ProofChecks'. -/
def proofChecksUptoCard : Claim7 := { stood := { row := proofChecksUptoRow, standIns := [], harness := (true, "c94c640e3e38f2945380fc42422f489d2567eeb26ef0ce66e64d419c6834ca82"), looks := true }, kinds := [], alts := [], laidByText := true, laidKinds := [.data], laidTests := true, laidLooks := .later }
def ProofChecksUptoCardSaid : Prop := Claim7.holds Tryz.pinned (.plain (OpenSpec.upto proofChecksSpec)) proofChecksUptoCard

/-- THE SECOND FORM's CARD OF 'catenarylaw16.ProofMakes'. -/
def proofMakesUptoCard : Claim7 := { stood := { row := proofMakesUptoRow, standIns := [], harness := (true, "c94c640e3e38f2945380fc42422f489d2567eeb26ef0ce66e64d419c6834ca82"), looks := true }, kinds := [], alts := [], laidByText := true, laidKinds := [.data], laidTests := true, laidLooks := .later }
def ProofMakesUptoCardSaid : Prop := Claim7.holds Tryz.pinned (.plain (OpenSpec.upto proofMakesSpec)) proofMakesUptoCard

/-- THE SECOND FORM's CARD OF 'catenarylaw16.ProofEnough'. -/
def proofEnoughUptoCard : Claim7 := { stood := { row := proofEnoughUptoRow, standIns := [], harness := (true, "c94c640e3e38f2945380fc42422f489d2567eeb26ef0ce66e64d419c6834ca82"), looks := true }, kinds := [], alts := [], laidByText := true, laidKinds := [.data], laidTests := true, laidLooks := .later }
def ProofEnoughUptoCardSaid : Prop := Claim7.holds Tryz.pinned (.plain (OpenSpec.upto proofEnoughSpec)) proofEnoughUptoCard

/-- THE SECOND FORM's CARD OF 'catenarylaw16.ProofSigned'. -/
def proofSignedUptoCard : Claim7 := { stood := { row := proofSignedUptoRow, standIns := [], harness := (true, "c94c640e3e38f2945380fc42422f489d2567eeb26ef0ce66e64d419c6834ca82"), looks := true }, kinds := [], alts := [], laidByText := true, laidKinds := [.data], laidTests := true, laidLooks := .later }
def ProofSignedUptoCardSaid : Prop := Claim7.holds Tryz.pinned (.plain (OpenSpec.upto proofSignedSpec)) proofSignedUptoCard
end Rows
end Go.Proofs.YtgjepofinpmcpaaGreatDoor
