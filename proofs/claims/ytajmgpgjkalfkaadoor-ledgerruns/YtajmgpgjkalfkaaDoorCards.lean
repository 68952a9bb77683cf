/-
  DERIVED. GIVEN WITH THE SEED: THE CARDS: each row of YtajmgpgjkalfkaaDoorRows.lean that lists a variable, with what it lists TIED to the program's text (the seventh form; the later family's looks); each row that meets fmt, with fmt's text TOLD by the authors' own Lean function (tested against real Go, not proved from fmt's source: count such statements apart). THE CARD IS WHAT COUNTS. Prove the row's statement (the work); the ties are given (YtajmgpgjkalfkaaDoorTie.lean); close each card by the builder's one call (the guide's Derived/Test/ToyasCard.lean, 'card_holds'). Laid BY PROGRAM, IN A SANDBOX (cutbox-door.mjs). By AI agents, Wed Nov 11 2026. No macro, syntax, notation, axiom, sorry.
-/
import Derived.Test.YtajmgpgjkalfkaaDoorRows
import GoSem.ClaimSeven
namespace Go.Proofs.YtajmgpgjkalfkaaDoor
namespace Rows

/-- THE TIED CARD OF 'catenarylaw15.LedgerNames'. -/
def ledgerNamesCard : Claim7 := { stood := { row := ledgerNamesRow, standIns := [], harness := (true, "13a8272cf7d701d336bad578d908e1c7769da4830f12274f153a4eb6d7ffa67e"), looks := false }, kinds := [], alts := [], laidByText := true, laidKinds := [.data], laidTests := true, laidLooks := .later }
def LedgerNamesCardSaid : Prop := Claim7.holds Tryd.pinned (.plain (OpenSpec.ofChange ledgerNamesSpec)) ledgerNamesCard

/-- THE TIED CARD OF 'catenarylaw15.LedgerRuns'. -/
def ledgerRunsCard : Claim7 := { stood := { row := ledgerRunsRow, standIns := [], harness := (true, "13a8272cf7d701d336bad578d908e1c7769da4830f12274f153a4eb6d7ffa67e"), looks := false }, kinds := [], alts := [], laidByText := true, laidKinds := [.data], laidTests := true, laidLooks := .later }
def LedgerRunsCardSaid : Prop := Claim7.holds Tryd.pinned (.plain (OpenSpec.ofChange ledgerRunsSpec)) ledgerRunsCard

/-- THE TIED CARD OF 'catenarylaw15.LedgerCatches'. -/
def ledgerCatchesCard : Claim7 := { stood := { row := ledgerCatchesRow, standIns := [], harness := (true, "13a8272cf7d701d336bad578d908e1c7769da4830f12274f153a4eb6d7ffa67e"), looks := false }, kinds := [], alts := [], laidByText := true, laidKinds := [.data], laidTests := true, laidLooks := .later }
def LedgerCatchesCardSaid : Prop := Claim7.holds Tryd.pinned (.plain (OpenSpec.ofChange ledgerCatchesSpec)) ledgerCatchesCard

/-- THE TIED CARD OF 'catenarylaw15.LedgerForged'. -/
def ledgerForgedCard : Claim7 := { stood := { row := ledgerForgedRow, standIns := [], harness := (true, "13a8272cf7d701d336bad578d908e1c7769da4830f12274f153a4eb6d7ffa67e"), looks := false }, kinds := [], alts := [], laidByText := true, laidKinds := [.data], laidTests := true, laidLooks := .later }
def LedgerForgedCardSaid : Prop := Claim7.holds Tryd.pinned (.plain (OpenSpec.ofChange ledgerForgedSpec)) ledgerForgedCard

/-- THE TIED CARD OF 'catenarylaw15.LedgerCuts'. -/
def ledgerCutsCard : Claim7 := { stood := { row := ledgerCutsRow, standIns := [], harness := (true, "13a8272cf7d701d336bad578d908e1c7769da4830f12274f153a4eb6d7ffa67e"), looks := false }, kinds := [], alts := [], laidByText := true, laidKinds := [.data], laidTests := true, laidLooks := .later }
def LedgerCutsCardSaid : Prop := Claim7.holds Tryd.pinned (.plain (OpenSpec.ofChange ledgerCutsSpec)) ledgerCutsCard

/-- THE SECOND FORM's CARD OF 'catenarylaw15.LedgerNames'. -/
def ledgerNamesUptoCard : Claim7 := { stood := { row := ledgerNamesUptoRow, standIns := [], harness := (true, "13a8272cf7d701d336bad578d908e1c7769da4830f12274f153a4eb6d7ffa67e"), looks := false }, kinds := [], alts := [], laidByText := true, laidKinds := [.data], laidTests := true, laidLooks := .later }
def LedgerNamesUptoCardSaid : Prop := Claim7.holds Tryd.pinned (.plain (OpenSpec.upto ledgerNamesSpec)) ledgerNamesUptoCard

/-- THE SECOND FORM's CARD OF 'catenarylaw15.LedgerRuns'. -/
def ledgerRunsUptoCard : Claim7 := { stood := { row := ledgerRunsUptoRow, standIns := [], harness := (true, "13a8272cf7d701d336bad578d908e1c7769da4830f12274f153a4eb6d7ffa67e"), looks := false }, kinds := [], alts := [], laidByText := true, laidKinds := [.data], laidTests := true, laidLooks := .later }
def LedgerRunsUptoCardSaid : Prop := Claim7.holds Tryd.pinned (.plain (OpenSpec.upto ledgerRunsSpec)) ledgerRunsUptoCard

/-- THE SECOND FORM's CARD OF 'catenarylaw15.LedgerCatches'. -/
def ledgerCatchesUptoCard : Claim7 := { stood := { row := ledgerCatchesUptoRow, standIns := [], harness := (true, "13a8272cf7d701d336bad578d908e1c7769da4830f12274f153a4eb6d7ffa67e"), looks := false }, kinds := [], alts := [], laidByText := true, laidKinds := [.data], laidTests := true, laidLooks := .later }
def LedgerCatchesUptoCardSaid : Prop := Claim7.holds Tryd.pinned (.plain (OpenSpec.upto ledgerCatchesSpec)) ledgerCatchesUptoCard

/-- THE SECOND FORM's CARD OF 'catenarylaw15.LedgerForged'. -/
def ledgerForgedUptoCard : Claim7 := { stood := { row := ledgerForgedUptoRow, standIns := [], harness := (true, "13a8272cf7d701d336bad578d908e1c7769da4830f12274f153a4eb6d7ffa67e"), looks := false }, kinds := [], alts := [], laidByText := true, laidKinds := [.data], laidTests := true, laidLooks := .later }
def LedgerForgedUptoCardSaid : Prop := Claim7.holds Tryd.pinned (.plain (OpenSpec.upto ledgerForgedSpec)) ledgerForgedUptoCard

/-- THE SECOND FORM's CARD OF 'catenarylaw15.LedgerCuts'. -/
def ledgerCutsUptoCard : Claim7 := { stood := { row := ledgerCutsUptoRow, standIns := [], harness := (true, "13a8272cf7d701d336bad578d908e1c7769da4830f12274f153a4eb6d7ffa67e"), looks := false }, kinds := [], alts := [], laidByText := true, laidKinds := [.data], laidTests := true, laidLooks := .later }
def LedgerCutsUptoCardSaid : Prop := Claim7.holds Tryd.pinned (.plain (OpenSpec.upto ledgerCutsSpec)) ledgerCutsUptoCard
end Rows
end Go.Proofs.YtajmgpgjkalfkaaDoor
