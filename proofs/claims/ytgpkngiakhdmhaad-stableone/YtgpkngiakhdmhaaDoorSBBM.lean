/- Pairs of ints: opened. -/
import Derived.Test.YtgpkngiakhdmhaaDoorSBBH
import Derived.Test.YtgpkngiakhdmhaaDoorSBAV
import Derived.Test.YtgpkngiakhdmhaaDoorSBAD
set_option linter.unusedVariables false
namespace Go.Proofs.YtgpkngiakhdmhaaDoor
open Go.ChangeShapes Go.WideShapes Go.ChangeAt Go.RowKit Oct
def RPr (G : Nat → Prop) (w : World) (r : List Value) (x : Int × Int) : Prop := r = [.int .i64 x.1, .int .i64 x.2]
def bPr (x : Int × Int) : Nat := 0
def szPr (x : Int × Int) : Prop := True
theorem of2P {α : Type} {l : List α} (h : l.length = 2) : ∃ c0 c1, l = [c0, c1] := by match l, h with | [c0, c1], _ => exact ⟨c0, c1, rfl⟩
theorem weightsG_arg {H : Type} {P : Program} {ts : List TypeId} {ds : List (DataW H)} (h : (DataW.weightsEach P ts ds).all (· ≤ reachBytes) = true) {j : Nat} {t : TypeId} {d : DataW H} (ht : ts[j]? = some t) (hd : ds[j]? = some d) : ∀ n ∈ d.weights P t, n ≤ reachBytes := fun n hn => by
  have := List.all_eq_true.1 h _ (DataW.weights_mem_each ht hd n hn)
  simpa using this
section
variable {H : Type} {enc : TypeId × Value → H} {w : World} {base : Nat} {held : Bool}
theorem cells_intP : Tryd.prog.cellsOf 3 = 1 := by kernel_rfl
set_option maxRecDepth 10000 in
theorem opn_pr : Opn enc Tryd.prog w base held 47 (RPr Any w) bPr szPr := by
  intro fuel cs x h
  obtain ⟨xs, m, rfl, rfl, hl, hx, hel⟩ := DataW.trod_array Tryd.underlying47 h
  rw [show Tryd.prog.cellsOf 47 = 2 by kernel_rfl] at hl
  obtain ⟨c0, c1, rfl⟩ := of2P hl
  have h0 := hel 0 (by omega)
  have h1 := hel 1 (by omega)
  rw [cells_intP] at h0 h1
  rw [List.getElem?_eq_getElem (by omega)] at h0 h1
  obtain ⟨a, e0, _⟩ := DataW.trod_int Tryd.underlying3 (by simpa using h0)
  obtain ⟨b, e1, _⟩ := DataW.trod_int Tryd.underlying3 (by simpa using h1)
  simp at e0 e1
  exact ⟨(a, b), by rw [e0, e1]; rfl, Nat.zero_le _, fun _ => trivial⟩
theorem opn_prs : Opn enc Tryd.prog w base held 44 (fun cs ys => ∃ v, cs = [v] ∧ RL RPr 2 Any w v ys) (bL bPr) (szL 16 szPr) := opn_list Tryd.underlying44 (by kernel_rfl) (by kernel_rfl) (by decide) opn_pr
theorem open_pairs {v : Value} {d : DataW H} {p : List MemPlace} (hone : v.cells.toList = [v]) (h : DataW.Trod enc Tryd.prog w base (fun _ => true) held 44 v d p) :
    ∃ ys : List (Int × Int), RL RPr 2 Any w v ys ∧ bL bPr ys ≤ Rows.uptoBulk d ∧ ((∀ n ∈ d.weights Tryd.prog 44, n ≤ reachBytes) → szL 16 szPr ys) := by
  obtain ⟨fuel, hf⟩ := h
  obtain ⟨ys, ⟨u, e, h1⟩, h2, h3⟩ := opn_prs fuel _ _ hf
  rw [hone] at e
  cases e
  exact ⟨ys, h1, h2, h3⟩
theorem opn_intO : Opn enc Tryd.prog w base held 3 (RInt Any w) (fun _ => 1) (fun _ => True) := by
  intro fuel cs x h
  rcases cs with _ | ⟨c, _ | ⟨c', cs⟩⟩
  · cases fuel <;> simp [DataW.trod, Tryd.underlying3] at h
  · obtain ⟨y, g, e, r⟩ := DataW.trod_int Tryd.underlying3 h
    cases g
    exact ⟨y, rfl, by rw [e]; simp [Rows.uptoBulk], fun _ => trivial⟩
  · cases fuel <;> simp [DataW.trod, Tryd.underlying3] at h
theorem opn_intsO : Opn enc Tryd.prog w base held 40 (fun cs ys => ∃ v, cs = [v] ∧ RL RInt 1 Any w v ys) (bL fun _ => 1) (szL 8 fun _ => True) := opn_list Tryd.underlying40 (by kernel_rfl) (by kernel_rfl) (by decide) opn_intO
theorem open_intsL {v : Value} {d : DataW H} {p : List MemPlace} (hone : v.cells.toList = [v]) (h : DataW.Trod enc Tryd.prog w base (fun _ => true) held 40 v d p) :
    ∃ ys : List Int, RL RInt 1 Any w v ys ∧ bL (fun _ => 1) ys ≤ Rows.uptoBulk d ∧ ((∀ n ∈ d.weights Tryd.prog 40, n ≤ reachBytes) → szL 8 (fun _ => True) ys) := by
  obtain ⟨fuel, hf⟩ := h
  obtain ⟨ys, ⟨u, e, h1⟩, h2, h3⟩ := opn_intsO fuel _ _ hf
  rw [hone] at e
  cases e
  exact ⟨ys, h1, h2, h3⟩
end
end Go.Proofs.YtgpkngiakhdmhaaDoor
