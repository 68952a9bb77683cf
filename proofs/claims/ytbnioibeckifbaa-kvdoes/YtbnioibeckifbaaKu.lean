/- The document's SameOp of two alike, and its Write. -/
import Derived.Test.YtbnioibeckifbaaKt
import Derived.Test.YtbnioibeckifbaaW4
set_option linter.unusedVariables false
set_option linter.unusedSimpArgs false
namespace Go.Proofs.Ytbnioibeckifbaa
open Go.RowKit Oct Kvl

set_option maxRecDepth 10000 in
set_option maxHeartbeats 4000000 in
/-- The document's SameOp, of two alike. -/
theorem sameOp_eq (w : World) (r1 r2 : List Value) (o : POp) (h1 : ROp Any w r1 o) (h2 : ROp Any w r2 o) :
    Calls Try.prog 17 #[.agg r1.toArray, .agg r2.toArray] w fun e w' => e = .returned (.bool true) ∧ Below w.heap.size w w' := by
  obtain ⟨vn, va, vb, rfl, rn, ra', rb'⟩ := h1
  obtain ⟨un, ua, ub, rfl, sn, sa, sb⟩ := h2
  obtain ⟨w2, hw2⟩ : ∃ w2, w2 = (w.alloc (.cells #[.int .i64 o.1, vn, va, vb, .int .i64 o.2.2.2.2] 25)).alloc (.cells #[.int .i64 o.1, un, ua, ub, .int .i64 o.2.2.2.2] 25) := ⟨_, rfl⟩
  have ra : Row w2 w.heap.size 25 [.int .i64 o.1, vn, va, vb, .int .i64 o.2.2.2.2] := by rw [hw2]; exact rowA (Row.new w 25 _) _
  have rb : Row w2 (w.heap.size + 1) 25 [.int .i64 o.1, un, ua, ub, .int .i64 o.2.2.2.2] := by
    rw [hw2]
    have := Row.new (w.alloc (.cells #[.int .i64 o.1, vn, va, vb, .int .i64 o.2.2.2.2] 25)) 25 [.int .i64 o.1, un, ua, ub, .int .i64 o.2.2.2.2]
    simpa using this
  have hB : Below w.heap.size w w2 := by rw [hw2]; exact ((Below.refl _ w).alloc (Nat.le_refl _) _).alloc (by simp) _
  have a0 := ra.cell (j := 0) rfl; have a1 := ra.cell (j := 1) rfl; have a2 := ra.cell (j := 2) rfl; have a3 := ra.cell (j := 3) rfl; have a4 := ra.cell (j := 4) rfl
  have b0 := rb.cell (j := 0) rfl; have b1 := rb.cell (j := 1) rfl; have b2 := rb.cell (j := 2) rfl; have b3 := rb.cell (j := 3) rfl; have b4 := rb.cell (j := 4) rfl
  have s1 := same_any w2 vn un _ _ (rn.mv (Mv.below hB)).1 (sn.mv (Mv.below hB)).1
  have s2 := same_any w2 va ua _ _ (ra'.mv (Mv.below hB)).1 (sa.mv (Mv.below hB)).1
  have s3 := same_any w2 vb ub _ _ (rb'.mv (Mv.below hB)).1 (sb.mv (Mv.below hB)).1
  simp only [decide_true] at s1 s2 s3
  clear ra rb rn ra' rb' sn sa sb
  generalize o.1 = k at *
  generalize o.2.2.2.2 = u at *
  have ek : (k == k) = true := by simp
  have eu : (u == u) = true := by simp
  go_enter Try.func17, Try.ntmps17
  go_upto_region 1 with fail
  rw [← hw2]
  clear hw2
  go_wp2_with (first
    | (go_at_call_has 35 un; refine s1.mono ?_; rintro e w3 ⟨rfl, rfl⟩)
    | (go_at_call_has 35 ua; refine s2.mono ?_; rintro e w3 ⟨rfl, rfl⟩)
    | (go_at_call_has 35 ub; refine s3.mono ?_; rintro e w3 ⟨rfl, rfl⟩))
  go_ret
  exact ⟨rfl, hB⟩

theorem packL_op (a b c : List Int) : packL [a, b, c] = (enc a.length ++ a) ++ ((enc b.length ++ b) ++ (enc c.length ++ c)) := by simp [packL]
theorem wrO_pack (o : POp) (h : wok o) : wrO o = enc o.1 ++ packL [o.2.1, o.2.2.1, o.2.2.2.1] ++ enc o.2.2.2.2 := by
  rw [wrO_eq o h, packL_op]
  simp only [List.append_assoc]

end Go.Proofs.Ytbnioibeckifbaa
