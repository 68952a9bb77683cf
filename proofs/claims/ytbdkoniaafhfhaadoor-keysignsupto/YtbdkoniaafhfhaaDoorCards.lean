/-
  DERIVED. GIVEN WITH THE SEED: THE CARDS: each row of YtbdkoniaafhfhaaDoorRows.lean that lists a variable, with what it lists TIED to the program's text (the seventh form; the later family's looks); each row that meets fmt, with fmt's text TOLD by the authors' own Lean function (tested against real Go, not proved from fmt's source: count such statements apart). THE CARD IS WHAT COUNTS. Prove the row's statement (the work); the ties are given (YtbdkoniaafhfhaaDoorTie.lean); close each card by the builder's one call (the guide's Derived/Test/ToyasCard.lean, 'card_holds'). Laid BY PROGRAM, IN A SANDBOX (cutbox-door.mjs). By AI agents, Wed Nov 11 2026. No macro, syntax, notation, axiom, sorry.
-/
import Derived.Test.YtbdkoniaafhfhaaDoorRows
import GoSem.ClaimSeven
namespace Go.Proofs.YtbdkoniaafhfhaaDoor
namespace Rows

/-- THE TIED CARD OF 'catenarylaw03.KeyNames'. -/
def keyNamesCard : Claim7 := { stood := { row := keyNamesRow, standIns := [], harness := (true, "7594b811fe3a80a42dd89d15b43174be54d8ebe1da2da0aa7fc0cdcc32bd5981"), looks := false }, kinds := [], alts := [], laidByText := true, laidKinds := [.data], laidTests := true, laidLooks := .later }
def KeyNamesCardSaid : Prop := Claim7.holds Tryd.pinned (.plain (OpenSpec.ofChange keyNamesSpec)) keyNamesCard

/-- THE TIED CARD OF 'catenarylaw03.KeySigns'. -/
def keySignsCard : Claim7 := { stood := { row := keySignsRow, standIns := [], harness := (true, "7594b811fe3a80a42dd89d15b43174be54d8ebe1da2da0aa7fc0cdcc32bd5981"), looks := false }, kinds := [], alts := [], laidByText := true, laidKinds := [.data], laidTests := true, laidLooks := .later }
def KeySignsCardSaid : Prop := Claim7.holds Tryd.pinned (.plain (OpenSpec.ofChange keySignsSpec)) keySignsCard

/-- THE TIED CARD OF 'catenarylaw03.KeyDigests'. -/
def keyDigestsCard : Claim7 := { stood := { row := keyDigestsRow, standIns := [], harness := (true, "7594b811fe3a80a42dd89d15b43174be54d8ebe1da2da0aa7fc0cdcc32bd5981"), looks := false }, kinds := [], alts := [], laidByText := true, laidKinds := [.data], laidTests := true, laidLooks := .later }
def KeyDigestsCardSaid : Prop := Claim7.holds Tryd.pinned (.plain (OpenSpec.ofChange keyDigestsSpec)) keyDigestsCard

/-- THE TIED CARD OF 'catenarylaw03.KeyVerifies'. -/
def keyVerifiesCard : Claim7 := { stood := { row := keyVerifiesRow, standIns := [], harness := (true, "7594b811fe3a80a42dd89d15b43174be54d8ebe1da2da0aa7fc0cdcc32bd5981"), looks := false }, kinds := [], alts := [], laidByText := true, laidKinds := [.data], laidTests := true, laidLooks := .later }
def KeyVerifiesCardSaid : Prop := Claim7.holds Tryd.pinned (.plain (OpenSpec.ofChange keyVerifiesSpec)) keyVerifiesCard

/-- THE TIED CARD OF 'catenarylaw03.KeyUnlike'. -/
def keyUnlikeCard : Claim7 := { stood := { row := keyUnlikeRow, standIns := [], harness := (true, "7594b811fe3a80a42dd89d15b43174be54d8ebe1da2da0aa7fc0cdcc32bd5981"), looks := false }, kinds := [], alts := [], laidByText := true, laidKinds := [.data], laidTests := true, laidLooks := .later }
def KeyUnlikeCardSaid : Prop := Claim7.holds Tryd.pinned (.plain (OpenSpec.ofChange keyUnlikeSpec)) keyUnlikeCard

/-- THE SECOND FORM's CARD OF 'catenarylaw03.KeyNames'. -/
def keyNamesUptoCard : Claim7 := { stood := { row := keyNamesUptoRow, standIns := [], harness := (true, "7594b811fe3a80a42dd89d15b43174be54d8ebe1da2da0aa7fc0cdcc32bd5981"), looks := false }, kinds := [], alts := [], laidByText := true, laidKinds := [.data], laidTests := true, laidLooks := .later }
def KeyNamesUptoCardSaid : Prop := Claim7.holds Tryd.pinned (.plain (OpenSpec.upto keyNamesSpec)) keyNamesUptoCard

/-- THE SECOND FORM's CARD OF 'catenarylaw03.KeySigns'. -/
def keySignsUptoCard : Claim7 := { stood := { row := keySignsUptoRow, standIns := [], harness := (true, "7594b811fe3a80a42dd89d15b43174be54d8ebe1da2da0aa7fc0cdcc32bd5981"), looks := false }, kinds := [], alts := [], laidByText := true, laidKinds := [.data], laidTests := true, laidLooks := .later }
def KeySignsUptoCardSaid : Prop := Claim7.holds Tryd.pinned (.plain (OpenSpec.upto keySignsSpec)) keySignsUptoCard

/-- THE SECOND FORM's CARD OF 'catenarylaw03.KeyDigests'. -/
def keyDigestsUptoCard : Claim7 := { stood := { row := keyDigestsUptoRow, standIns := [], harness := (true, "7594b811fe3a80a42dd89d15b43174be54d8ebe1da2da0aa7fc0cdcc32bd5981"), looks := false }, kinds := [], alts := [], laidByText := true, laidKinds := [.data], laidTests := true, laidLooks := .later }
def KeyDigestsUptoCardSaid : Prop := Claim7.holds Tryd.pinned (.plain (OpenSpec.upto keyDigestsSpec)) keyDigestsUptoCard

/-- THE SECOND FORM's CARD OF 'catenarylaw03.KeyVerifies'. -/
def keyVerifiesUptoCard : Claim7 := { stood := { row := keyVerifiesUptoRow, standIns := [], harness := (true, "7594b811fe3a80a42dd89d15b43174be54d8ebe1da2da0aa7fc0cdcc32bd5981"), looks := false }, kinds := [], alts := [], laidByText := true, laidKinds := [.data], laidTests := true, laidLooks := .later }
def KeyVerifiesUptoCardSaid : Prop := Claim7.holds Tryd.pinned (.plain (OpenSpec.upto keyVerifiesSpec)) keyVerifiesUptoCard

/-- THE SECOND FORM's CARD OF 'catenarylaw03.KeyUnlike'. -/
def keyUnlikeUptoCard : Claim7 := { stood := { row := keyUnlikeUptoRow, standIns := [], harness := (true, "7594b811fe3a80a42dd89d15b43174be54d8ebe1da2da0aa7fc0cdcc32bd5981"), looks := false }, kinds := [], alts := [], laidByText := true, laidKinds := [.data], laidTests := true, laidLooks := .later }
def KeyUnlikeUptoCardSaid : Prop := Claim7.holds Tryd.pinned (.plain (OpenSpec.upto keyUnlikeSpec)) keyUnlikeUptoCard
end Rows
end Go.Proofs.YtbdkoniaafhfhaaDoor
