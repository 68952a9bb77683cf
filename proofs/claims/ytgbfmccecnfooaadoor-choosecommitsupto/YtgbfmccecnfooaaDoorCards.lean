/-
  DERIVED. GIVEN WITH THE SEED: THE CARDS: each row of YtgbfmccecnfooaaDoorRows.lean that lists a variable, with what it lists TIED to the program's text (the seventh form; the later family's looks); each row that meets fmt, with fmt's text TOLD by the authors' own Lean function (tested against real Go, not proved from fmt's source: count such statements apart). THE CARD IS WHAT COUNTS. Prove the row's statement (the work); the ties are given (YtgbfmccecnfooaaDoorTie.lean); close each card by the builder's one call (the guide's Derived/Test/ToyasCard.lean, 'card_holds'). Laid BY PROGRAM, IN A SANDBOX (cutbox-door.mjs). By AI agents, Wed Nov 11 2026. No macro, syntax, notation, axiom, sorry.
-/
import Derived.Test.YtgbfmccecnfooaaDoorRows
import GoSem.ClaimSeven
namespace Go.Proofs.YtgbfmccecnfooaaDoor
namespace Rows

/-- THE TIED CARD OF 'catenarylaw18.ChooseCommits'. -/
def chooseCommitsCard : Claim7 := { stood := { row := chooseCommitsRow, standIns := [], harness := (true, "ebc563fb8d6cda328e0fa4ab1619722c82ef806e1e2749394dbba606822deee4"), looks := true }, kinds := [], alts := [], laidByText := true, laidKinds := [.data], laidTests := true, laidLooks := .later }
def ChooseCommitsCardSaid : Prop := Claim7.holds Tryd.pinned (.plain (OpenSpec.ofChange chooseCommitsSpec)) chooseCommitsCard

/-- THE TIED CARD OF 'catenarylaw19.StableNames'. -/
def stableNamesCard : Claim7 := { stood := { row := stableNamesRow, standIns := [], harness := (true, "ebc563fb8d6cda328e0fa4ab1619722c82ef806e1e2749394dbba606822deee4"), looks := true }, kinds := [], alts := [], laidByText := true, laidKinds := [.data], laidTests := true, laidLooks := .later }
def StableNamesCardSaid : Prop := Claim7.holds Tryd.pinned (.plain (OpenSpec.ofChange stableNamesSpec)) stableNamesCard

/-- THE SECOND FORM's CARD OF 'catenarylaw18.ChooseCommits'. -/
def chooseCommitsUptoCard : Claim7 := { stood := { row := chooseCommitsUptoRow, standIns := [], harness := (true, "ebc563fb8d6cda328e0fa4ab1619722c82ef806e1e2749394dbba606822deee4"), looks := true }, kinds := [], alts := [], laidByText := true, laidKinds := [.data], laidTests := true, laidLooks := .later }
def ChooseCommitsUptoCardSaid : Prop := Claim7.holds Tryd.pinned (.plain (OpenSpec.upto chooseCommitsSpec)) chooseCommitsUptoCard

/-- THE SECOND FORM's CARD OF 'catenarylaw19.StableNames'. -/
def stableNamesUptoCard : Claim7 := { stood := { row := stableNamesUptoRow, standIns := [], harness := (true, "ebc563fb8d6cda328e0fa4ab1619722c82ef806e1e2749394dbba606822deee4"), looks := true }, kinds := [], alts := [], laidByText := true, laidKinds := [.data], laidTests := true, laidLooks := .later }
def StableNamesUptoCardSaid : Prop := Claim7.holds Tryd.pinned (.plain (OpenSpec.upto stableNamesSpec)) stableNamesUptoCard
end Rows
end Go.Proofs.YtgbfmccecnfooaaDoor
