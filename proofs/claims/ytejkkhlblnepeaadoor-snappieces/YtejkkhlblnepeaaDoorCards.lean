/-
  DERIVED. GIVEN WITH THE SEED: THE CARDS: each row of YtejkkhlblnepeaaDoorRows.lean that lists a variable, with what it lists TIED to the program's text (the seventh form; the later family's looks); each row that meets fmt, with fmt's text TOLD by the authors' own Lean function (tested against real Go, not proved from fmt's source: count such statements apart). THE CARD IS WHAT COUNTS. Prove the row's statement (the work); the ties are given (YtejkkhlblnepeaaDoorTie.lean); close each card by the builder's one call (the guide's Derived/Test/ToyasCard.lean, 'card_holds'). Laid BY PROGRAM, IN A SANDBOX (cutbox-door.mjs). By AI agents, Wed Nov 11 2026. No macro, syntax, notation, axiom, sorry.
-/
import Derived.Test.YtejkkhlblnepeaaDoorRows
import GoSem.ClaimSeven
namespace Go.Proofs.YtejkkhlblnepeaaDoor
namespace Rows

/-- THE TIED CARD OF 'catenarylaw10.SnapPieces'. -/
def snapPiecesCard : Claim7 := { stood := { row := snapPiecesRow, standIns := [], harness := (true, "9e34e2bf63a523eb211dc58d4217724ad6c1256c3a1fbc0d130267d478e4cf24"), looks := false }, kinds := [], alts := [], laidByText := true, laidKinds := [.data], laidTests := true, laidLooks := .later }
def SnapPiecesCardSaid : Prop := Claim7.holds Tryd.pinned (.plain (OpenSpec.ofChange snapPiecesSpec)) snapPiecesCard

/-- THE SECOND FORM's CARD OF 'catenarylaw10.SnapPieces'. -/
def snapPiecesUptoCard : Claim7 := { stood := { row := snapPiecesUptoRow, standIns := [], harness := (true, "9e34e2bf63a523eb211dc58d4217724ad6c1256c3a1fbc0d130267d478e4cf24"), looks := false }, kinds := [], alts := [], laidByText := true, laidKinds := [.data], laidTests := true, laidLooks := .later }
def SnapPiecesUptoCardSaid : Prop := Claim7.holds Tryd.pinned (.plain (OpenSpec.upto snapPiecesSpec)) snapPiecesUptoCard
end Rows
end Go.Proofs.YtejkkhlblnepeaaDoor
