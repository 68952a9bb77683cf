/- The document's bag: Same of two packets that are alike; Put, At, Without of lists whose packets' bytes lie in memory of an elder world. -/
import Derived.Test.YtikfldigjieloaaBa3
set_option linter.unusedVariables false
set_option linter.unusedSimpArgs false
namespace Go.Proofs.Ytikfldigjieloaa
open Go.RowKit Oct Kvl

set_option maxRecDepth 10000 in
set_option maxHeartbeats 1000000 in
theorem samePk_eq (w : World) (r r' : List Value) (x : PPk) (hx : RPk Any w r x) (hy : RPk Any w r' x) :
    Calls Try.prog 17 #[.agg r.toArray, .agg r'.toArray] w fun e w' => e = .returned (.bool true) ∧ Below w.heap.size w w' := by
  obtain ⟨s, rfl, hs⟩ := hx
  obtain ⟨s', rfl, hs'⟩ := hy
  obtain ⟨p, q, l⟩ := x
  simp only at hs hs' ⊢
  obtain ⟨w2, hw2⟩ : ∃ w2, w2 = (w.alloc (.cells #[.int .i64 p, .int .i64 q, s] 29)).alloc (.cells #[.int .i64 p, .int .i64 q, s'] 29) := ⟨_, rfl⟩
  have ra : Row w2 w.heap.size 29 [.int .i64 p, .int .i64 q, s] := by rw [hw2]; exact rowA (Row.new w 29 _) _
  have rr : Row w2 (w.heap.size + 1) 29 [.int .i64 p, .int .i64 q, s'] := by
    rw [hw2]
    have := Row.new (w.alloc (.cells #[.int .i64 p, .int .i64 q, s] 29)) 29 [.int .i64 p, .int .i64 q, s']
    simpa using this
  have hB : Below w.heap.size w w2 := by rw [hw2]; exact ((Below.refl _ w).alloc (Nat.le_refl _) _).alloc (by simp) _
  have hS := same_any w2 s s' l l (hs.mv (Mv.below hB)).1 (hs'.mv (Mv.below hB)).1
  rw [decide_eq_true rfl] at hS
  have a0 := ra.cell (j := 0) rfl
  have a1 := ra.cell (j := 1) rfl
  have a2 := ra.cell (j := 2) rfl
  have b0 := rr.cell (j := 0) rfl
  have b1 := rr.cell (j := 1) rfl
  have b2 := rr.cell (j := 2) rfl
  clear ra rr hs hs'
  go_enter Try.func17, Try.ntmps17
  go_upto_region 1 with fail
  rw [← hw2]
  clear hw2
  go_wp2_with (go_at_call 21; refine hS.mono ?_; rintro e w2 ⟨rfl, rfl⟩)
  go_ret
  exact ⟨rfl, hB⟩
end Go.Proofs.Ytikfldigjieloaa
