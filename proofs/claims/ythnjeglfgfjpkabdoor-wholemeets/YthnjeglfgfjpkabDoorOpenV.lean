/- What is voted for, a vote, votes: opened. -/
import Derived.Test.YthnjeglfgfjpkabDoorOpen5
namespace Go.Proofs.YthnjeglfgfjpkabDoor
open Go.ChangeShapes Go.WideShapes Go.ChangeAt Go.RowKit Oct

theorem open_aggV {P : Program} {w : World} {b0 : Nat} {r : Reach} {t : TypeId} {fs : Array Field} {k : Nat} (ht : P.underlying t = some (.struct fs)) (hct : P.cellsOf t = k) {v : Value} (hv : Value.okWide P w r b0 t v) : ∃ cs : List Value, v = .agg cs.toArray ∧ cs.length = k := by
  simp only [Value.okWide, ht] at hv
  obtain ⟨cs, rfl, hsz, _⟩ := hv
  exact ⟨cs.toList, by simp, by simpa [hct] using hsz⟩
theorem cells_vote : Tryd.prog.cellsOf 33 = 2 := by kernel_rfl
theorem open_vote {H : Type} {enc : TypeId × Value → H} {w : World} {base b0 : Nat} {r : Reach} {held : Bool} {v : Value} {d : DataW H} {p : List MemPlace} (hv : Value.okWide Tryd.prog w r b0 33 v) (h : DataW.Trod enc Tryd.prog w base (fun _ => true) held 33 v d p) :
    ∃ (i : Int) (gv : Value) (g : List Int), v = .agg #[.int .i64 i, gv] ∧ Rd w gv g ∧ 2 + bT g ≤ Rows.uptoBulk d := by
  obtain ⟨cs, rfl, hl⟩ := open_aggV Tryd.underlying33 cells_vote hv
  obtain ⟨fuel, hf⟩ := h
  obtain ⟨y, h1, h2, h3⟩ := opn_vote fuel _ _ hf
  obtain ⟨s, e, hs⟩ := h1
  simp only [Value.cells] at e
  exact ⟨y.1, s, y.2, by rw [show cs = [.int .i64 y.1, s] from e], hs.1, h2⟩
theorem open_votes {H : Type} {enc : TypeId × Value → H} {w : World} {base : Nat} {held : Bool} {v : Value} {d : DataW H} {p : List MemPlace} (hone : v.cells.toList = [v]) (h : DataW.Trod enc Tryd.prog w base (fun _ => true) held 31 v d p) :
    ∃ ys : List PVote, RL RVote 2 Any w v ys ∧ bL bV ys ≤ Rows.uptoBulk d ∧ ((∀ n ∈ d.weights Tryd.prog 31, n ≤ reachBytes) → szL 32 szV ys) := by
  obtain ⟨fuel, hf⟩ := h
  obtain ⟨ys, ⟨u, e, h1⟩, h2, h3⟩ := opn_votes fuel _ _ hf
  rw [hone] at e
  cases e
  exact ⟨ys, h1, h2, h3⟩

theorem weightsV_arg {H : Type} {P : Program} {ts : List TypeId} {ds : List (DataW H)} (h : (DataW.weightsEach P ts ds).all (· ≤ reachBytes) = true) {j : Nat} {t : TypeId} {d : DataW H} (ht : ts[j]? = some t) (hd : ds[j]? = some d) : ∀ n ∈ d.weights P t, n ≤ reachBytes := fun n hn => by
  have := List.all_eq_true.1 h _ (DataW.weights_mem_each ht hd n hn)
  simpa using this
end Go.Proofs.YthnjeglfgfjpkabDoor
