/- bytes.Equal, for a seat without package key. -/
import Derived.Test.YtjloehkolnjnhaaXOAC
namespace Go.Proofs.Ytjloehkolnjnhaa
open Go.RowKit Oct
/-- bytes.Equal. -/
theorem equalB_any (w : World) (u v : Value) (a b : List Int) (ha : Rd w u a) (hb : Rd w v b) :
    Calls Try.prog 55 #[u, v] w fun e w' => e = .returned (.bool (decide (a = b))) ∧ w' = w := by
  have h1 := run_str ha
  have h2 := run_str hb
  have h3 := str_eq ha.1 hb.1
  clear ha hb
  rw [← h3]
  clear h3
  go_enter Try.func55, Try.ntmps55
  go_wp2_with fail
  go_ret
  exact ⟨rfl, rfl⟩
end Go.Proofs.Ytjloehkolnjnhaa
