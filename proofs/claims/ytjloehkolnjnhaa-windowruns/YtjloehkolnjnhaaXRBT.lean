/- The document's windows: Known. Written by mk19l.py. -/
import Derived.Test.YtjloehkolnjnhaaXRBQ
import Derived.Test.YtjloehkolnjnhaaXRBR
set_option linter.unusedSimpArgs false
set_option linter.unusedVariables false
namespace Go.Proofs.Ytjloehkolnjnhaa
open Go.RowKit Oct Kvl Bal
theorem knownD_any (w : World) (r : List Value) (x : PSl) (h : RSl Any w r x) : Calls Try.prog 37 #[.agg r.toArray] w fun e w' => e = .returned (.bool (known x)) ∧ Below w.heap.size w w' := by
  obtain ⟨o1, g1, o2, g2, c1, o3, g3, v1, rfl, _⟩ := h
  obtain ⟨w1, hw1⟩ : ∃ u, u = w.alloc (.cells #[.int .i64 x.voted.1, .int .i64 x.voted.2, .int .i64 x.vote.1, .int .i64 x.vote.2.1, o1, g1, .int .i64 x.pred.1, .int .i64 x.pred.2, .int .i64 x.prep.1, .int .i64 x.prep.2.1, o2, g2, c1, .int .i64 x.done.1, .int .i64 x.done.2.1, o3, g3, .int .i64 x.bal.1, .int .i64 x.bal.2, v1, .bool x.hv, .bool x.hp, .bool x.hd] 33) := ⟨_, rfl⟩
  have B1 : Below w.heap.size w w1 := by rw [hw1]; exact below_alloc _ _
  have ra : Row w1 w.heap.size 33 [.int .i64 x.voted.1, .int .i64 x.voted.2, .int .i64 x.vote.1, .int .i64 x.vote.2.1, o1, g1, .int .i64 x.pred.1, .int .i64 x.pred.2, .int .i64 x.prep.1, .int .i64 x.prep.2.1, o2, g2, c1, .int .i64 x.done.1, .int .i64 x.done.2.1, o3, g3, .int .i64 x.bal.1, .int .i64 x.bal.2, v1, .bool x.hv, .bool x.hp, .bool x.hd] := by rw [hw1]; exact Row.new _ _ _
  have k1 := ra.cell (j := 20) rfl
  have k2 := ra.cell (j := 21) rfl
  have k3 := ra.cell (j := 22) rfl
  have hk : known x = (x.hv || x.hp || x.hd) := rfl
  rw [hk]
  clear hk ra
  generalize x.hv = p at *
  generalize x.hp = q at *
  generalize x.hd = z at *
  cases p <;> cases q <;> (
    go_enter Try.func37, Try.ntmps37
    go_upto_region 1 with fail
    rw [← hw1]
    clear hw1
    go_wp2_with fail
    go_ret
    exact ⟨by simp, B1⟩)
/-- A slot out of the document's window. -/
theorem RDw.rowsW {G : Nat → Prop} {w : World} {cs : List Value} {low : Int} {sls : List PSl} (h : RDw G w cs low sls) : ∃ rows : List (List Value), cs = .int .i64 low :: rows.flatten ∧ (∀ r ∈ rows, r.length = 23) ∧ rows.flatten.length = 368 ∧ ∀ q, q < 16 → ∃ r, rows[q]? = some r ∧ RSl G w r (slD sls q) := by
  obtain ⟨h0, h1, rows, rfl, h3⟩ := h
  refine ⟨rows, rfl, rows_len h3, ?_, fun q hq => ?_⟩
  · have := flat_len (rows_len h3)
    rw [h3.len, h1] at this
    exact this
  · have hl : q < rows.length := by rw [h3.len, h1]; exact hq
    have hs : sls[q]? = some (slD sls q) := by
      unfold slD
      rw [List.getElem?_eq_getElem (by omega)]
      rfl
    exact ⟨_, List.getElem?_eq_getElem hl, h3.get (List.getElem?_eq_getElem hl) hs⟩
theorem LB.fmL {α : Type} {R : (Nat → Prop) → World → List Value → α → Prop} {T : TypeId} {k B : Nat} {w : World} {v : Value} {ys : List α} (h : LB R T k B w v ys) : ∃ ao cap, v = .slice ao ys.length cap := by
  obtain ⟨rows, h0, h1, h2, h3⟩ := h
  rcases h1.2 with ⟨rfl, e⟩ | ⟨g, cap, cur, rfl, _⟩
  · have := h3.len
    exact ⟨none, 0, by rw [← this, e]⟩
  · have := h3.len
    exact ⟨_, cap, by rw [← this]⟩
theorem LB.rlPc {W w : World} {B : Nat} {v : Value} {ys : List PPrep} (h : LB (RPc W) 39 8 B w v ys) (hb : Below W.heap.size W w) : RL RPrep 8 Any w v ys := by
  obtain ⟨rows, h1, h2⟩ := h.rl (mov_pc W)
  exact ⟨rows, h1.mv (Nat.le_refl _) Mv.any, h2.mono fun r a hr => mov_prep _ _ _ _ _ _ hr hb.size (Mv.below hb)⟩
end Go.Proofs.Ytjloehkolnjnhaa
