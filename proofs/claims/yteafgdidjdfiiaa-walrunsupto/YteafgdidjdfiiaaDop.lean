/- Texts, booleans, acts that came in, opened. -/
import Derived.Test.YteafgdidjdfiiaaOpen5
namespace Go.Proofs.Yteafgdidjdfiiaa
open Go.ChangeShapes Go.WideShapes Go.ChangeAt Go.RowKit Oct

def RTx (G : Nat → Prop) (w : World) (r : List Value) (l : List Int) : Prop := ∃ v, r = [v] ∧ RT G w v l
def RBo (_ : Nat → Prop) (_ : World) (r : List Value) (x : Bool) : Prop := r = [.bool x]
theorem mov_txt : Mov RTx := fun _ _ _ _ _ _ h _ hm => by
  obtain ⟨s, e, h1⟩ := h
  exact ⟨s, e, h1.mv hm⟩
theorem mov_boo : Mov RBo := fun _ _ _ _ _ _ h _ _ => h
section
variable {H : Type} {enc : TypeId × Value → H} {w : World} {base : Nat} {held : Bool}
theorem opn_texts : Opn enc Try.prog w base held 24 (fun cs ys => ∃ v, cs = [v] ∧ RL RTx 1 Any w v ys) (bL bT) (szL 24 szT) := opn_list Try.underlying24 (by kernel_rfl) (by kernel_rfl) (by decide) opn_text
theorem open_texts {v : Value} {d : DataW H} {p : List MemPlace} (hone : v.cells.toList = [v]) (h : DataW.Trod enc Try.prog w base (fun _ => true) held 24 v d p) :
    ∃ ys : List (List Int), RL RTx 1 Any w v ys ∧ bL bT ys ≤ Rows.uptoBulk d ∧ ((∀ n ∈ d.weights Try.prog 24, n ≤ reachBytes) → szL 24 szT ys) := by
  obtain ⟨fuel, hf⟩ := h
  obtain ⟨ys, ⟨u, e, h1⟩, h2, h3⟩ := opn_texts fuel _ _ hf
  rw [hone] at e
  cases e
  exact ⟨ys, h1, h2, h3⟩
end
theorem weightsT_arg {H : Type} {P : Program} {ts : List TypeId} {ds : List (DataW H)} (h : (DataW.weightsEach P ts ds).all (· ≤ reachBytes) = true) {j : Nat} {t : TypeId} {d : DataW H} (ht : ts[j]? = some t) (hd : ds[j]? = some d) : ∀ n ∈ d.weights P t, n ≤ reachBytes := fun n hn => by
  have := List.all_eq_true.1 h _ (DataW.weights_mem_each ht hd n hn)
  simpa using this
end Go.Proofs.Yteafgdidjdfiiaa
