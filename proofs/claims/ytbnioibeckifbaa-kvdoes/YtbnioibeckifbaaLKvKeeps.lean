/- catenarylaw07.KvKeeps: its walk. -/
import Derived.Test.YtbnioibeckifbaaKp
import Derived.Deep.Cut
import Derived.Sort.AtCall
set_option linter.unusedVariables false
set_option linter.unusedSimpArgs false
namespace Go.Proofs.Ytbnioibeckifbaa
open Go.RowKit Oct Kvl

theorem bel_set2 {B b : Nat} {w u : World} {x y : Value} (h : Below B w u) (hw : B ≤ w.heap.size) (hb : B ≤ b) : Below B w ((u.setCell ⟨b, 0, none⟩ x).setCell ⟨b, 1, none⟩ y) :=
  h.trans (grown_below (grown_trans (grown_set u b 0 x) (grown_set _ b 1 y) (.inl rfl)) (Nat.le_trans hw h.size) (fun k hk => by cases hk; exact hb))

theorem rgt_sz {ys : List PEnt} (h : rgtL ys) : szL 48 szE ys := ⟨by have := h.1; omega, fun y hy => by have := h.2.2 y hy; unfold rgt1 at this; exact ⟨by unfold szT; omega, by unfold szT; omega⟩⟩
/-- Behind a call of Do: its result in a box of its own. -/
theorem aft1 {B : Nat} {w5 : World} {v5 vv : Value} {D : List PEnt × Int × List Int} (hL : LB OEnt 37 2 B w5 v5 D.1) (ht : OT (From B) w5 vv D.2.2) :
    ∃ w6, w6 = w5.alloc (.cells #[.int .i64 D.2.1, vv] 30) ∧ RL REnt 2 Any w6 v5 D.1 ∧ Rd w6 vv D.2.2 ∧ Row w6 w5.heap.size 30 [.int .i64 D.2.1, vv] ∧ w5.grownBy w6 (some w5.heap.size) :=
  ⟨_, rfl, (Rp.rl hL).mv mov_ent (below_alloc _ _).size (Mv.below (below_alloc _ _)), ht.rt.1.below (below_alloc _ _), Row.new _ _ _, grown_of_below (below_alloc _ _) _⟩
theorem aft2 {B b : Nat} {w5 : World} {v5 vv x y : Value} {D : List PEnt × Int × List Int} (hL : LB OEnt 37 2 B w5 v5 D.1) (ht : OT (From B) w5 vv D.2.2) (q : Row w5 b 30 [x, y]) :
    ∃ w6, w6 = (w5.setCell ⟨b, 0, none⟩ (.int .i64 D.2.1)).setCell ⟨b, 1, none⟩ vv ∧ RL REnt 2 Any w6 v5 D.1 ∧ Rd w6 vv D.2.2 ∧ Row w6 b 30 [.int .i64 D.2.1, vv] ∧ w5.grownBy w6 (some b) := by
  have hg : w5.grownBy ((w5.setCell ⟨b, 0, none⟩ (.int .i64 D.2.1)).setCell ⟨b, 1, none⟩ vv) (some b) := grown_trans (grown_set w5 b 0 _) (grown_set _ b 1 _) (.inl rfl)
  exact ⟨_, rfl, Rp.rl (hL.grownR q (by decide) (by decide) hg), ((ht.ne q (by decide)).mv (G' := Any) (fun k hk hlt => ⟨hg.block k hlt (fun e => by injection e with e; exact hk.2 e), trivial⟩)).rt.1, (q.set 0 _).set 1 _, hg⟩

end Go.Proofs.Ytbnioibeckifbaa
