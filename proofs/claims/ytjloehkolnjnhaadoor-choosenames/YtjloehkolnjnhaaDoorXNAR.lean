/- The walks over lists of texts: copying, comparing, unpacking. -/
import Derived.Test.YtjloehkolnjnhaaDoorXNAP
import Derived.Deep.QuietTactic
import Derived.BigQuiet
namespace Go.Proofs.YtjloehkolnjnhaaDoor
open Go.RowKit Oct
/-- Texts that the call itself made. -/
def Els (w : World) (vs : List Value) (ll : List (List Int)) : Prop := All2 (fun c l => Own w 5 c (bc l)) vs ll
theorem Els.below {w w' : World} {vs : List Value} {ll : List (List Int)} (h : Els w vs ll) (hb : Below w.heap.size w w') : Els w' vs ll := h.mono fun _ _ h => h.below hb
/-- They stay while a list of texts is appended to. -/
theorem Els.app {w w' : World} {v v' : Value} {vs us xs : List Value} {ll : List (List Int)} (h : Els w us ll) (hv : Own w 29 v vs) (ha : App w 29 v w' v' xs) : Els w' us ll :=
  h.mono fun _ _ h => h.grown ha.grown (hv.apart h (by decide))
end Go.Proofs.YtjloehkolnjnhaaDoor
