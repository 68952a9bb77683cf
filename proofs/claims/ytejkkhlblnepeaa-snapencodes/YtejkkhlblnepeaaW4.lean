/- The walks over lists of texts: packing. -/
import Derived.Test.YtejkkhlblnepeaaW3
import Derived.Test.YtejkkhlblnepeaaLst
namespace Go.Proofs.Ytejkkhlblnepeaa
open Go.RowKit Oct

theorem Rdl.byts {w : World} {v : Value} {ll : List (List Int)} (h : Rdl w v ll) : Byts ll := by
  obtain ⟨vs, h1, h2⟩ := h
  clear h1
  intro l hl
  obtain ⟨i, hi, e⟩ := List.getElem_of_mem hl
  have hlen := h2.len
  exact (h2.get (List.getElem?_eq_getElem (show i < vs.length by omega)) (by rw [List.getElem?_eq_getElem hi, e])).1



end Go.Proofs.Ytejkkhlblnepeaa
