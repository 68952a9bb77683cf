/-
  DERIVED. GIVEN WITH THE SEED: THE CARDS: each row of YthnjeglfgfjpkabDoorRows.lean that lists a variable, with what it lists TIED to the program's text (the seventh form; the later family's looks); each row that meets fmt, with fmt's text TOLD by the authors' own Lean function (tested against real Go, not proved from fmt's source: count such statements apart). THE CARD IS WHAT COUNTS. Prove the row's statement (the work); the ties are given (YthnjeglfgfjpkabDoorTie.lean); close each card by the builder's one call (the guide's Derived/Test/ToyasCard.lean, 'card_holds'). Laid BY PROGRAM, IN A SANDBOX (cutbox-door.mjs). By AI agents, Wed Nov 11 2026. No macro, syntax, notation, axiom, sorry.
-/
import Derived.Test.YthnjeglfgfjpkabDoorRows
import GoSem.ClaimSeven
namespace Go.Proofs.YthnjeglfgfjpkabDoor
namespace Rows

/-- THE TIED CARD OF 'catenarylaw06.VoteAsks'. -/
def voteAsksCard : Claim7 := { stood := { row := voteAsksRow, standIns := [], harness := (true, "792dbf2f0ec5ef6cc1a166aa8b59219bd059f020b5e96ddc87b123dbf97757af"), looks := false }, kinds := [], alts := [], laidByText := true, laidKinds := [.data], laidTests := true, laidLooks := .later }
def VoteAsksCardSaid : Prop := Claim7.holds Tryd.pinned (.plain (OpenSpec.ofChange voteAsksSpec)) voteAsksCard

/-- THE TIED CARD OF 'catenarytop.WholeMeets'. -/
def wholeMeetsCard : Claim7 := { stood := { row := wholeMeetsRow, standIns := [], harness := (true, "792dbf2f0ec5ef6cc1a166aa8b59219bd059f020b5e96ddc87b123dbf97757af"), looks := false }, kinds := [], alts := [], laidByText := true, laidKinds := [.data], laidTests := true, laidLooks := .later }
def WholeMeetsCardSaid : Prop := Claim7.holds Tryd.pinned (.plain (OpenSpec.ofChange wholeMeetsSpec)) wholeMeetsCard

/-- THE SECOND FORM's CARD OF 'catenarylaw06.VoteAsks'. -/
def voteAsksUptoCard : Claim7 := { stood := { row := voteAsksUptoRow, standIns := [], harness := (true, "792dbf2f0ec5ef6cc1a166aa8b59219bd059f020b5e96ddc87b123dbf97757af"), looks := false }, kinds := [], alts := [], laidByText := true, laidKinds := [.data], laidTests := true, laidLooks := .later }
def VoteAsksUptoCardSaid : Prop := Claim7.holds Tryd.pinned (.plain (OpenSpec.upto voteAsksSpec)) voteAsksUptoCard

/-- THE SECOND FORM's CARD OF 'catenarytop.WholeMeets'. -/
def wholeMeetsUptoCard : Claim7 := { stood := { row := wholeMeetsUptoRow, standIns := [], harness := (true, "792dbf2f0ec5ef6cc1a166aa8b59219bd059f020b5e96ddc87b123dbf97757af"), looks := false }, kinds := [], alts := [], laidByText := true, laidKinds := [.data], laidTests := true, laidLooks := .later }
def WholeMeetsUptoCardSaid : Prop := Claim7.holds Tryd.pinned (.plain (OpenSpec.upto wholeMeetsSpec)) wholeMeetsUptoCard
end Rows
end Go.Proofs.YthnjeglfgfjpkabDoor
