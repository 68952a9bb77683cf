/-
  DERIVED. GIVEN WITH THE SEED: THE CARDS: each row of YtgpkngiakhdmhaaDoorRows.lean that lists a variable, with what it lists TIED to the program's text (the seventh form; the later family's looks); each row that meets fmt, with fmt's text TOLD by the authors' own Lean function (tested against real Go, not proved from fmt's source: count such statements apart). THE CARD IS WHAT COUNTS. Prove the row's statement (the work); the ties are given (YtgpkngiakhdmhaaDoorTie.lean); close each card by the builder's one call (the guide's Derived/Test/ToyasCard.lean, 'card_holds'). Laid BY PROGRAM, IN A SANDBOX (cutbox-door.mjs). By AI agents, Wed Nov 11 2026. No macro, syntax, notation, axiom, sorry.
-/
import Derived.Test.YtgpkngiakhdmhaaDoorRows
import GoSem.ClaimSeven
namespace Go.Proofs.YtgpkngiakhdmhaaDoor
namespace Rows

/-- THE TIED CARD OF 'catenarylaw19.StableNames'. -/
def stableNamesCard : Claim7 := { stood := { row := stableNamesRow, standIns := [], harness := (true, "24cef1862e213d5728ed3be41332693bf2069dce2fce1244ea111f2343435f00"), looks := false }, kinds := [], alts := [], laidByText := true, laidKinds := [.data], laidTests := true, laidLooks := .later }
def StableNamesCardSaid : Prop := Claim7.holds Tryd.pinned (.plain (OpenSpec.ofChange stableNamesSpec)) stableNamesCard

/-- THE TIED CARD OF 'catenarylaw19.StableCerts'. -/
def stableCertsCard : Claim7 := { stood := { row := stableCertsRow, standIns := [], harness := (true, "24cef1862e213d5728ed3be41332693bf2069dce2fce1244ea111f2343435f00"), looks := false }, kinds := [], alts := [], laidByText := true, laidKinds := [.data], laidTests := true, laidLooks := .later }
def StableCertsCardSaid : Prop := Claim7.holds Tryd.pinned (.plain (OpenSpec.ofChange stableCertsSpec)) stableCertsCard

/-- THE TIED CARD OF 'catenarylaw19.StableOne'. -/
def stableOneCard : Claim7 := { stood := { row := stableOneRow, standIns := [], harness := (true, "24cef1862e213d5728ed3be41332693bf2069dce2fce1244ea111f2343435f00"), looks := false }, kinds := [], alts := [], laidByText := true, laidKinds := [.data], laidTests := true, laidLooks := .later }
def StableOneCardSaid : Prop := Claim7.holds Tryd.pinned (.plain (OpenSpec.ofChange stableOneSpec)) stableOneCard

/-- THE TIED CARD OF 'catenarylaw19.StableCuts'. -/
def stableCutsCard : Claim7 := { stood := { row := stableCutsRow, standIns := [], harness := (true, "24cef1862e213d5728ed3be41332693bf2069dce2fce1244ea111f2343435f00"), looks := false }, kinds := [], alts := [], laidByText := true, laidKinds := [.data], laidTests := true, laidLooks := .later }
def StableCutsCardSaid : Prop := Claim7.holds Tryd.pinned (.plain (OpenSpec.ofChange stableCutsSpec)) stableCutsCard

/-- THE SECOND FORM's CARD OF 'catenarylaw19.StableNames'. -/
def stableNamesUptoCard : Claim7 := { stood := { row := stableNamesUptoRow, standIns := [], harness := (true, "24cef1862e213d5728ed3be41332693bf2069dce2fce1244ea111f2343435f00"), looks := false }, kinds := [], alts := [], laidByText := true, laidKinds := [.data], laidTests := true, laidLooks := .later }
def StableNamesUptoCardSaid : Prop := Claim7.holds Tryd.pinned (.plain (OpenSpec.upto stableNamesSpec)) stableNamesUptoCard

/-- THE SECOND FORM's CARD OF 'catenarylaw19.StableCerts'. -/
def stableCertsUptoCard : Claim7 := { stood := { row := stableCertsUptoRow, standIns := [], harness := (true, "24cef1862e213d5728ed3be41332693bf2069dce2fce1244ea111f2343435f00"), looks := false }, kinds := [], alts := [], laidByText := true, laidKinds := [.data], laidTests := true, laidLooks := .later }
def StableCertsUptoCardSaid : Prop := Claim7.holds Tryd.pinned (.plain (OpenSpec.upto stableCertsSpec)) stableCertsUptoCard

/-- THE SECOND FORM's CARD OF 'catenarylaw19.StableOne'. -/
def stableOneUptoCard : Claim7 := { stood := { row := stableOneUptoRow, standIns := [], harness := (true, "24cef1862e213d5728ed3be41332693bf2069dce2fce1244ea111f2343435f00"), looks := false }, kinds := [], alts := [], laidByText := true, laidKinds := [.data], laidTests := true, laidLooks := .later }
def StableOneUptoCardSaid : Prop := Claim7.holds Tryd.pinned (.plain (OpenSpec.upto stableOneSpec)) stableOneUptoCard

/-- THE SECOND FORM's CARD OF 'catenarylaw19.StableCuts'. -/
def stableCutsUptoCard : Claim7 := { stood := { row := stableCutsUptoRow, standIns := [], harness := (true, "24cef1862e213d5728ed3be41332693bf2069dce2fce1244ea111f2343435f00"), looks := false }, kinds := [], alts := [], laidByText := true, laidKinds := [.data], laidTests := true, laidLooks := .later }
def StableCutsUptoCardSaid : Prop := Claim7.holds Tryd.pinned (.plain (OpenSpec.upto stableCutsSpec)) stableCutsUptoCard
end Rows
end Go.Proofs.YtgpkngiakhdmhaaDoor
