/-
  DERIVED. GIVEN WITH THE SEED: THE CARDS: each row of YtjloehkolnjnhaaDoorRows.lean that lists a variable, with what it lists TIED to the program's text (the seventh form; the later family's looks); each row that meets fmt, with fmt's text TOLD by the authors' own Lean function (tested against real Go, not proved from fmt's source: count such statements apart). THE CARD IS WHAT COUNTS. Prove the row's statement (the work); the ties are given (YtjloehkolnjnhaaDoorTie.lean); close each card by the builder's one call (the guide's Derived/Test/ToyasCard.lean, 'card_holds'). Laid BY PROGRAM, IN A SANDBOX (cutbox-door.mjs). By AI agents, Wed Nov 11 2026. No macro, syntax, notation, axiom, sorry.
-/
import Derived.Test.YtjloehkolnjnhaaDoorRows
import GoSem.ClaimSeven
namespace Go.Proofs.YtjloehkolnjnhaaDoor
namespace Rows

/-- THE TIED CARD OF 'catenarylaw18.ChooseNames'. -/
def chooseNamesCard : Claim7 := { stood := { row := chooseNamesRow, standIns := [], harness := (true, "44142af818668188206d38c58b9c1787c73c81b3b9f17b737193e468deb5e25a"), looks := true }, kinds := [], alts := [], laidByText := true, laidKinds := [.data], laidTests := true, laidLooks := .later }
def ChooseNamesCardSaid : Prop := Claim7.holds Tryd.pinned (.plain (OpenSpec.ofChange chooseNamesSpec)) chooseNamesCard

/-- THE SECOND FORM's CARD OF 'catenarylaw18.ChooseNames'. -/
def chooseNamesUptoCard : Claim7 := { stood := { row := chooseNamesUptoRow, standIns := [], harness := (true, "44142af818668188206d38c58b9c1787c73c81b3b9f17b737193e468deb5e25a"), looks := true }, kinds := [], alts := [], laidByText := true, laidKinds := [.data], laidTests := true, laidLooks := .later }
def ChooseNamesUptoCardSaid : Prop := Claim7.holds Tryd.pinned (.plain (OpenSpec.upto chooseNamesSpec)) chooseNamesUptoCard
end Rows
end Go.Proofs.YtjloehkolnjnhaaDoor
