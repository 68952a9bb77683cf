/- A ballot, two requests, acts of layer 15: opened. -/
import Derived.Test.YtgbfmccecnfooaaGreatDoorCLAR
import Derived.Test.YtgbfmccecnfooaaGreatDoorCLBM
import Derived.Test.YtgbfmccecnfooaaGreatDoorCLBQ
import Derived.Test.YtgbfmccecnfooaaGreatDoorCLBA
import Derived.Test.YtgbfmccecnfooaaGreatDoorCLAW
import Derived.OpenShut
namespace Go.Proofs.YtgbfmccecnfooaaGreatDoor
section
open Go.ChangeShapes Go.WideShapes Go.ChangeAt Go.RowKit Oct
theorem okQ_of {x : PRep} (h : bR x ≤ 1050000) : okQ x := fun p hp => by
  have h1 := bS_memC (f := bP) hp
  simp only [bR, bL] at h
  simp only [bP, bQ, bT] at h1
  simp only [tot]
  omega
theorem bR_mem {ys : List PRep} (h : bL bR ys ≤ 1048576) : ∀ r ∈ ys, bR r ≤ 1050000 := fun r hr => by
  have h1 := bS_memC (f := bR) hr
  simp only [bL] at h
  omega
end
section
open Go.ChangeShapes Go.WideShapes Go.ChangeAt Go.RowKit Oct
section
variable {H : Type} {enc : TypeId × Value → H} {w : World} {base b0 : Nat} {r : Reach} {held : Bool}
set_option maxRecDepth 10000 in
theorem open_ballL {v : Value} {d : DataW H} {p : List MemPlace} (hv : Value.okWide Tryz.prog w r b0 23 v) (h : DataW.Trod enc Tryz.prog w base (fun _ => true) held 23 v d p) :
    ∃ a b, v = .agg #[.int .i64 a, .int .i64 b] := by
  obtain ⟨cs, rfl, hl⟩ := open_aggV Tryz.underlying23 cells_bal hv
  obtain ⟨fuel, hf⟩ := h
  obtain ⟨⟨y0, y1⟩, g, _⟩ := opn_bal _ _ _ hf
  have e : cs = [.int .i64 y0, .int .i64 y1] := g
  exact ⟨y0, y1, by rw [e]⟩
end
end
end Go.Proofs.YtgbfmccecnfooaaGreatDoor
