/-
  DERIVED. GIVEN WITH THE SEED: THE CARDS: each row of YtgbfmccecnfooaaGreatDoorRows.lean that lists a variable, with what it lists TIED to the program's text (the seventh form; the later family's looks); each row that meets fmt, with fmt's text TOLD by the authors' own Lean function (tested against real Go, not proved from fmt's source: count such statements apart). THE CARD IS WHAT COUNTS. Prove the row's statement (the work); the ties are given (YtgbfmccecnfooaaGreatDoorTie.lean); close each card by the builder's one call (the guide's Derived/Test/ToyasCard.lean, 'card_holds'). Laid BY PROGRAM, IN A SANDBOX (cutbox-door.mjs). By AI agents, Wed Nov 11 2026. No macro, syntax, notation, axiom, sorry.
-/
import Derived.Test.YtgbfmccecnfooaaGreatDoorRows
import GoSem.ClaimSeven
namespace Go.Proofs.YtgbfmccecnfooaaGreatDoor
namespace Rows

/-- THE TIED CARD OF 'catenarylaw18.ChooseRights'. -/
def chooseRightsCard : Claim7 := { stood := { row := chooseRightsRow, standIns := [], harness := (true, "99754b840a92d902e79c61589a1bb36753def56d1a055b128e3ee539cebf3042"), looks := true }, kinds := [], alts := [], laidByText := true, laidKinds := [.data], laidTests := true, laidLooks := .later }
def ChooseRightsCardSaid : Prop := Claim7.holds Tryz.pinned (.plain (OpenSpec.ofChange chooseRightsSpec)) chooseRightsCard

/-- THE TIED CARD OF 'catenarylaw18.ChooseAlls'. -/
def chooseAllsCard : Claim7 := { stood := { row := chooseAllsRow, standIns := [], harness := (true, "99754b840a92d902e79c61589a1bb36753def56d1a055b128e3ee539cebf3042"), looks := true }, kinds := [], alts := [], laidByText := true, laidKinds := [.data], laidTests := true, laidLooks := .later }
def ChooseAllsCardSaid : Prop := Claim7.holds Tryz.pinned (.plain (OpenSpec.ofChange chooseAllsSpec)) chooseAllsCard

/-- THE TIED CARD OF 'catenarylaw19.StableRuns'. -/
def stableRunsCard : Claim7 := { stood := { row := stableRunsRow, standIns := [], harness := (true, "99754b840a92d902e79c61589a1bb36753def56d1a055b128e3ee539cebf3042"), looks := true }, kinds := [], alts := [], laidByText := true, laidKinds := [.data], laidTests := true, laidLooks := .later }
def StableRunsCardSaid : Prop := Claim7.holds Tryz.pinned (.plain (OpenSpec.ofChange stableRunsSpec)) stableRunsCard

/-- THE SECOND FORM's CARD OF 'catenarylaw18.ChooseRights'. -/
def chooseRightsUptoCard : Claim7 := { stood := { row := chooseRightsUptoRow, standIns := [], harness := (true, "99754b840a92d902e79c61589a1bb36753def56d1a055b128e3ee539cebf3042"), looks := true }, kinds := [], alts := [], laidByText := true, laidKinds := [.data], laidTests := true, laidLooks := .later }
def ChooseRightsUptoCardSaid : Prop := Claim7.holds Tryz.pinned (.plain (OpenSpec.upto chooseRightsSpec)) chooseRightsUptoCard

/-- THE SECOND FORM's CARD OF 'catenarylaw18.ChooseAlls'. -/
def chooseAllsUptoCard : Claim7 := { stood := { row := chooseAllsUptoRow, standIns := [], harness := (true, "99754b840a92d902e79c61589a1bb36753def56d1a055b128e3ee539cebf3042"), looks := true }, kinds := [], alts := [], laidByText := true, laidKinds := [.data], laidTests := true, laidLooks := .later }
def ChooseAllsUptoCardSaid : Prop := Claim7.holds Tryz.pinned (.plain (OpenSpec.upto chooseAllsSpec)) chooseAllsUptoCard

/-- THE SECOND FORM's CARD OF 'catenarylaw19.StableRuns'. -/
def stableRunsUptoCard : Claim7 := { stood := { row := stableRunsUptoRow, standIns := [], harness := (true, "99754b840a92d902e79c61589a1bb36753def56d1a055b128e3ee539cebf3042"), looks := true }, kinds := [], alts := [], laidByText := true, laidKinds := [.data], laidTests := true, laidLooks := .later }
def StableRunsUptoCardSaid : Prop := Claim7.holds Tryz.pinned (.plain (OpenSpec.upto stableRunsSpec)) stableRunsUptoCard
end Rows
end Go.Proofs.YtgbfmccecnfooaaGreatDoor
