/- sha.spread. -/
import Derived.Test.YtjloehkolnjnhaaDoorXNBK
namespace Go.Proofs.YtjloehkolnjnhaaDoor
open Go.RowKit Oct Sha
/-- A row of bytes that can be read, from a place on. -/
def Bts (w : World) (b o : Nat) (p : List Int) : Prop := ∀ j, j < p.length → w.cell? ⟨b, o + j, none⟩ = some (.int .u8 (p.getD j 0))
theorem Bts.below {w w' : World} {b o : Nat} {p : List Int} (h : Bts w b o p) (hlt : b < w.heap.size) (hb : Below w.heap.size w w') : Bts w' b o p := fun j hj => (hb.cell (p := ⟨b, o + j, none⟩) hlt).trans (h j hj)
end Go.Proofs.YtjloehkolnjnhaaDoor
