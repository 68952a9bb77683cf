/- bytes.Clone: its walk. -/
import Derived.Test.YtgjepofinpmcpaaGreatDoorJAJ
import Derived.Deep.MidRow
import Derived.Lib.SliceRun
section
set_option linter.unusedVariables false
set_option linter.unusedSimpArgs false
namespace Go.Proofs.YtgjepofinpmcpaaGreatDoor
open Go.RowKit Oct

/-- Is it one report alone? -/
def oneM (m : PMsg) : Bool := (m.kind == 8) && (m.reps.length == 1)
def repSig (r : PRep) (g : List Int) : PRep := (r.1, r.2.1, r.2.2.1, r.2.2.2.1, r.2.2.2.2.1, r.2.2.2.2.2.1, g)
/-- The message with this signature. -/
def wsM (m : PMsg) (g : List Int) : PMsg := if oneM m = true then { m with reps := m.reps.map fun r => repSig r g } else { m with sig := g }
/-- The signature by which it is sealed. -/
def sgM (m : PMsg) : List Int := if oneM m = true then (match m.reps with | r :: _ => r.2.2.2.2.2.2 | [] => []) else m.sig
theorem oneM_yes {m : PMsg} (h : oneM m = true) : m.kind = 8 ∧ ∃ r, m.reps = [r] := by
  unfold oneM at h
  simp only [Bool.and_eq_true, beq_iff_eq] at h
  refine ⟨h.1, ?_⟩
  match hr : m.reps, h.2 with
  | [r], _ => exact ⟨r, rfl⟩
theorem ws_one (m : PMsg) (g : List Int) : oneM (wsM m g) = oneM m := by
  unfold wsM
  split
  · unfold oneM; simp
  · rfl
theorem ws_ws (m : PMsg) (g h : List Int) : wsM (wsM m g) h = wsM m h := by
  have e := ws_one m g
  unfold wsM at e ⊢
  split
  · rename_i h1
    rw [if_pos h1] at e
    rw [if_pos (by rw [e]; exact h1)]
    simp [repSig, Function.comp_def]
  · rename_i h1
    rw [if_neg h1] at e
    rw [if_neg (by rw [e]; exact h1)]
theorem ws_sg (m : PMsg) : wsM m (sgM m) = m := by
  unfold wsM sgM
  split
  · rename_i h
    obtain ⟨_, r, hr⟩ := oneM_yes h
    obtain ⟨a, b, c, d, e, f, g⟩ := r
    cases m
    simp only at hr
    subst hr
    rfl
  · rfl
theorem sg_ws (m : PMsg) (g : List Int) : sgM (wsM m g) = g := by
  have e := ws_one m g
  unfold wsM sgM at *
  by_cases h : oneM m = true
  · rw [if_pos h] at e ⊢
    rw [if_pos (by rw [e]; exact h)]
    obtain ⟨_, r, hr⟩ := oneM_yes h
    simp [hr, repSig]
  · rw [if_neg h] at e ⊢
    rw [if_neg (by rw [e]; exact h)]
theorem boxM (w : World) (m : PMsg) (s : SV) : ∃ w1, w1 = w.alloc (.cells (mc m s).toArray 40) ∧ Row w1 w.heap.size 40 (mc m s) ∧ Below w.heap.size w w1 := ⟨_, rfl, Row.new w _ _, below_alloc _ _⟩
/-- The domain in which it is signed. -/
def domS (m : PMsg) : ByteArray := if oneM m = true then ⟨#[114, 101, 112, 111, 114, 116]⟩ else ⟨#[109, 101, 115, 115, 97, 103, 101]⟩
end Go.Proofs.YtgjepofinpmcpaaGreatDoor
end

section
set_option linter.unusedVariables false
namespace Go.Proofs.YtgjepofinpmcpaaGreatDoor
open Go.RowKit Oct

set_option maxRecDepth 10000 in
/-- bytes.Clone. -/
theorem clone_own (w : World) (v : Value) (l : List Int) (h : Rd w v l) (hl : l.length ≤ 140737488355328) :
    Calls Tryz.prog 64 #[v] w fun e w' => ∃ v', e = .returned v' ∧ Own w' 5 v' (bc l) ∧ Fr w.heap.size v' ∧ Below w.heap.size w w' := by
  obtain ⟨ao, ac, rfl, hac⟩ := h.form
  cases ao with
  | none =>
    obtain ⟨rfl, rfl⟩ : l = [] ∧ ac = 0 := by
      obtain ⟨_, ao', cap', e, _, _, h3, _⟩ := h
      injection e with e1 e2 e3
      have := h3 e1.symm
      rw [e3]
      simpa [bc] using this
    have hq : ∀ u : World, (binOp .eql 23 (.slice none 0 0) (.slice none 0 0)).run Tryz.prog u = .ok (.bool true) u := fun u => Lib.run_eql_slice_nil u 23 5 none 0 0 0 0 Tryz.underlying23
    go_enter Tryz.func64, Tryz.ntmps64
    go_wp2_with fail
    go_ret
    exact ⟨_, rfl, Own.nil _ _, Fr.nil _, Below.refl _ _⟩
  | some a =>
    have hq : ∀ u : World, (binOp .eql 23 (.slice (some a) l.length ac) (.slice none 0 0)).run Tryz.prog u = .ok (.bool false) u := fun u => Lib.run_eql_slice_nil u 23 5 (some a) l.length ac 0 0 Tryz.underlying23
    go_enter Tryz.func64, Tryz.ntmps64
    go_wp2_with (at_builtin; refine app_copy rfl _ _ rfl rfl _ l rfl h (by omega) ?_; intro o2 w2 hown2 hfr2 hb2)
    go_ret
    exact ⟨_, rfl, hown2, hfr2, hb2⟩
theorem clone_any (w : World) (v : Value) (l : List Int) (h : Rd w v l) (hl : l.length ≤ 140737488355328) :
    Calls Tryz.prog 64 #[v] w fun e w' => ∃ v', e = .returned v' ∧ RT (From w.heap.size) w' v' l ∧ Below w.heap.size w w' :=
  (clone_own w v l h hl).mono fun e w' ⟨v', h1, h2, h3, h4⟩ => ⟨v', h1, RT.own h2 h.1 h3, h4⟩
end Go.Proofs.YtgjepofinpmcpaaGreatDoor
end
