/- bytes.Clone: its walk. -/
import Derived.Test.YtgpkngiakhdmhaaDoorSBAV
import Derived.Lib.SliceRun
set_option linter.unusedVariables false
namespace Go.Proofs.YtgpkngiakhdmhaaDoor
open Go.RowKit Oct
set_option maxRecDepth 10000 in
/-- bytes.Clone. -/
theorem clone_own (w : World) (v : Value) (l : List Int) (h : Rd w v l) (hl : l.length ≤ 140737488355328) :
    Calls Tryd.prog 30 #[v] w fun e w' => ∃ v', e = .returned v' ∧ Own w' 5 v' (bc l) ∧ Fr w.heap.size v' ∧ Below w.heap.size w w' := by
  obtain ⟨ao, ac, rfl, hac⟩ := h.form
  cases ao with
  | none =>
    obtain ⟨rfl, rfl⟩ : l = [] ∧ ac = 0 := by
      obtain ⟨_, ao', cap', e, _, _, h3, _⟩ := h
      injection e with e1 e2 e3
      have := h3 e1.symm
      rw [e3]
      simpa [bc] using this
    have hq : ∀ u : World, (binOp .eql 26 (.slice none 0 0) (.slice none 0 0)).run Tryd.prog u = .ok (.bool true) u := fun u => Lib.run_eql_slice_nil u 26 5 none 0 0 0 0 Tryd.underlying26
    go_enter Tryd.func30, Tryd.ntmps30
    go_wp2_with fail
    go_ret
    exact ⟨_, rfl, Own.nil _ _, Fr.nil _, Below.refl _ _⟩
  | some a =>
    have hq : ∀ u : World, (binOp .eql 26 (.slice (some a) l.length ac) (.slice none 0 0)).run Tryd.prog u = .ok (.bool false) u := fun u => Lib.run_eql_slice_nil u 26 5 (some a) l.length ac 0 0 Tryd.underlying26
    go_enter Tryd.func30, Tryd.ntmps30
    go_wp2_with (at_builtin; refine app_copy rfl _ _ rfl rfl _ l rfl h (by omega) ?_; intro o2 w2 hown2 hfr2 hb2)
    go_ret
    exact ⟨_, rfl, hown2, hfr2, hb2⟩
theorem clone_any (w : World) (v : Value) (l : List Int) (h : Rd w v l) (hl : l.length ≤ 140737488355328) :
    Calls Tryd.prog 30 #[v] w fun e w' => ∃ v', e = .returned v' ∧ RT (From w.heap.size) w' v' l ∧ Below w.heap.size w w' :=
  (clone_own w v l h hl).mono fun e w' ⟨v', h1, h2, h3, h4⟩ => ⟨v', h1, RT.own h2 h.1 h3, h4⟩
end Go.Proofs.YtgpkngiakhdmhaaDoor
