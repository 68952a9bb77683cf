/- The walks over lists of texts: packing. -/
import Derived.Test.YtejkkhlblnepeabW3
import Derived.Test.YtejkkhlblnepeabLst
namespace Go.Proofs.Ytejkkhlblnepeab
open Go.RowKit Oct

theorem Rdl.byts {w : World} {v : Value} {ll : List (List Int)} (h : Rdl w v ll) : Byts ll := by
  obtain ⟨vs, h1, h2⟩ := h
  clear h1
  intro l hl
  obtain ⟨i, hi, e⟩ := List.getElem_of_mem hl
  have hlen := h2.len
  exact (h2.get (List.getElem?_eq_getElem (show i < vs.length by omega)) (by rw [List.getElem?_eq_getElem hi, e])).1



end Go.Proofs.Ytejkkhlblnepeab
