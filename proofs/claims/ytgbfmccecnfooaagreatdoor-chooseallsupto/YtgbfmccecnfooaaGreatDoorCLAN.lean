/- Names with values, plain: texts in order, entries in order, what an operation does; nothing of any program. -/
import Derived.Test.YtgbfmccecnfooaaGreatDoorCLAD
import Derived.KernelRfl
import Derived.Test.YtgbfmccecnfooaaGreatDoorCLAK
import Derived.Lib.SliceRun
import Derived.Test.YtgbfmccecnfooaaGreatDoorCLAJ
import Derived.Test.YtgbfmccecnfooaaGreatDoorCLAA
set_option linter.unusedSimpArgs false
set_option linter.unusedVariables false
namespace Go.Proofs.YtgbfmccecnfooaaGreatDoor
section
namespace Sha
end Sha
end
section
open Go.RowKit Oct
set_option maxRecDepth 10000 in
/-- bytes.Clone. -/
theorem clone_own (w : World) (v : Value) (l : List Int) (h : Rd w v l) (hl : l.length ≤ 140737488355328) :
    Calls Tryz.prog 71 #[v] w fun e w' => ∃ v', e = .returned v' ∧ Own w' 5 v' (bc l) ∧ Fr w.heap.size v' ∧ Below w.heap.size w w' := by
  obtain ⟨ao, ac, rfl, hac⟩ := h.form
  cases ao with
  | none =>
    obtain ⟨rfl, rfl⟩ : l = [] ∧ ac = 0 := by
      obtain ⟨_, ao', cap', e, _, _, h3, _⟩ := h
      injection e with e1 e2 e3
      have := h3 e1.symm
      rw [e3]
      simpa [bc] using this
    have hq : ∀ u : World, (binOp .eql 24 (.slice none 0 0) (.slice none 0 0)).run Tryz.prog u = .ok (.bool true) u := fun u => Lib.run_eql_slice_nil u 24 5 none 0 0 0 0 Tryz.underlying24
    go_enter Tryz.func71, Tryz.ntmps71
    go_wp2_with fail
    go_ret
    exact ⟨_, rfl, Own.nil _ _, Fr.nil _, Below.refl _ _⟩
  | some a =>
    have hq : ∀ u : World, (binOp .eql 24 (.slice (some a) l.length ac) (.slice none 0 0)).run Tryz.prog u = .ok (.bool false) u := fun u => Lib.run_eql_slice_nil u 24 5 (some a) l.length ac 0 0 Tryz.underlying24
    go_enter Tryz.func71, Tryz.ntmps71
    go_wp2_with (at_builtin; refine app_copy rfl _ _ rfl rfl _ l rfl h (by omega) ?_; intro o2 w2 hown2 hfr2 hb2)
    go_ret
    exact ⟨_, rfl, hown2, hfr2, hb2⟩
theorem clone_any (w : World) (v : Value) (l : List Int) (h : Rd w v l) (hl : l.length ≤ 140737488355328) :
    Calls Tryz.prog 71 #[v] w fun e w' => ∃ v', e = .returned v' ∧ RT (From w.heap.size) w' v' l ∧ Below w.heap.size w w' :=
  (clone_own w v l h hl).mono fun e w' ⟨v', h1, h2, h3, h4⟩ => ⟨v', h1, RT.own h2 h.1 h3, h4⟩
end
section
open Go.RowKit Oct
end
section
namespace Kvl
abbrev PEnt := List Int × List Int
abbrev POp := Int × List Int × List Int × List Int × Int
/-- Texts by their bytes: -1, 0, 1. -/
def cmpL : List Int → List Int → Int
  | [], [] => 0
  | [], _ :: _ => -1
  | _ :: _, [] => 1
  | a :: as0, b :: bs => if a < b then -1 else if b < a then 1 else cmpL as0 bs
/-! Entries. -/
def rgt1 (e : PEnt) : Prop := 1 ≤ e.1.length ∧ e.1.length ≤ 16 ∧ e.2.length ≤ 64
instance (e : PEnt) : Decidable (rgt1 e) := by unfold rgt1; infer_instance
/-- Each Name above the one ahead of it. -/
def up : List Int → List PEnt → Prop
  | _, [] => True
  | n, x :: r => cmpL n x.1 < 0 ∧ up x.1 r
instance upDec : (n : List Int) → (l : List PEnt) → Decidable (up n l)
  | _, [] => isTrue trivial
  | n, x :: r => @instDecidableAnd _ _ _ (upDec x.1 r)
def rgtL (l : List PEnt) : Prop := l.length ≤ 64 ∧ up [] l ∧ ∀ e ∈ l, rgt1 e
instance (l : List PEnt) : Decidable (rgtL l) := by unfold rgtL; infer_instance
/-! Operations. -/
def mA (k : Int) : Nat := if k = 2 ∨ k = 3 then 64 else 0
def mB (k : Int) : Nat := if k = 3 then 64 else 0
def lN (k : Int) : Int := if k = 5 ∨ k = 6 then 1 else 0
def mN (k : Int) : Int := if k = 5 ∨ k = 6 then 1000 else 0
/-- Can it be written? -/
def wok (o : POp) : Prop := (1 ≤ o.1 ∧ o.1 ≤ 8) ∧ (1 ≤ o.2.1.length ∧ o.2.1.length ≤ 16) ∧ o.2.2.1.length ≤ mA o.1 ∧ o.2.2.2.1.length ≤ mB o.1 ∧ lN o.1 ≤ o.2.2.2.2 ∧ o.2.2.2.2 ≤ mN o.1
instance (o : POp) : Decidable (wok o) := by unfold wok; infer_instance
end Kvl
end
end Go.Proofs.YtgbfmccecnfooaaGreatDoor
