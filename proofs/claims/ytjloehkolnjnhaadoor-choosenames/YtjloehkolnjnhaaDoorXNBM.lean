/- The walks over package msg: is there something in another field? -/
import Derived.Test.YtjloehkolnjnhaaDoorXNBD
import Derived.Lib.OthersKept
import Derived.Deep.LoopGhost
namespace Go.Proofs.YtjloehkolnjnhaaDoor
open Go.RowKit Oct
/-- One more letter was asked for. -/
def Asked (k : Int) (m : PMsg) (q : Nat) : Prop := ∀ i, i < q → ((fl k).contains i || zF m i) = true
theorem Asked.zero (k : Int) (m : PMsg) : Asked k m 0 := fun _ h => absurd h (Nat.not_lt_zero _)
theorem Asked.more {k : Int} {m : PMsg} {q : Nat} (h : Asked k m q) (h1 : ((fl k).contains q || zF m q) = true) : Asked k m (q + 1) := fun i hi => by
  rcases Nat.lt_or_ge i q with h2 | h2
  · exact h i h2
  · obtain rfl : i = q := by omega
    exact h1
end Go.Proofs.YtjloehkolnjnhaaDoor
