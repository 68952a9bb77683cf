/- Reports that come in: opened. -/
import Derived.Test.YtjloehkolnjnhabXKBD
namespace Go.Proofs.Ytjloehkolnjnhab
open Go.ChangeShapes Go.WideShapes Go.ChangeAt Go.RowKit Oct
theorem weightsC_arg {H : Type} {P : Program} {ts : List TypeId} {ds : List (DataW H)} (h : (DataW.weightsEach P ts ds).all (· ≤ reachBytes) = true) {j : Nat} {t : TypeId} {d : DataW H} (ht : ts[j]? = some t) (hd : ds[j]? = some d) : ∀ n ∈ d.weights P t, n ≤ reachBytes := fun n hn => by
  have := List.all_eq_true.1 h _ (DataW.weights_mem_each ht hd n hn)
  simpa using this
section
variable {H : Type} {enc : TypeId × Value → H} {w : World} {base : Nat} {held : Bool}
theorem open_repsC {v : Value} {d : DataW H} {p : List MemPlace} (hone : v.cells.toList = [v]) (h : DataW.Trod enc Try.prog w base (fun _ => true) held 22 v d p) :
    ∃ ys : List PRep, RL RRep 8 Any w v ys ∧ bL bR ys ≤ Rows.uptoBulk d ∧ ((∀ n ∈ d.weights Try.prog 22, n ≤ reachBytes) → szL 128 szR ys) := by
  obtain ⟨fuel, hf⟩ := h
  obtain ⟨ys, ⟨u, e, h1⟩, h2, h3⟩ := opn_reps fuel _ _ hf
  rw [hone] at e
  cases e
  exact ⟨ys, h1, h2, h3⟩
end
end Go.Proofs.Ytjloehkolnjnhab
