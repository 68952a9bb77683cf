/- The walks over package clone: what was prepared, reports. Written by mk12s.py. -/
import Derived.Test.YtagoeccgmkjhoaaSx1
import Derived.Test.YtagoeccgmkjhoaaCl
import Derived.Lib.SliceRun
set_option linter.unusedVariables false
set_option linter.unusedSimpArgs false
namespace Go.Proofs.Ytagoeccgmkjhoaa
open Go.RowKit Oct

set_option maxRecDepth 10000 in
set_option maxHeartbeats 4000000 in
theorem clonePrepS_any (w : World) (r : List Value) (x : PPrep) (h : RPrep Any w r x) (hz : szP x) :
    Calls Try.prog 39 #[.agg r.toArray] w fun e w' => ∃ r', e = .returned (.agg r'.toArray) ∧ RPrep (From w.heap.size) w' r' x ∧ Below w.heap.size w w' := by
  obtain ⟨o1, o2, o3, rfl, t1, t2, t3⟩ := h
  obtain ⟨w2, hw2⟩ : ∃ w2, w2 = (w.alloc (.cells #[.int .i64 x.1, .int .i64 x.2.1.1, .int .i64 x.2.1.2, .int .i64 x.2.2.1.1, .int .i64 x.2.2.1.2.1, o1, o2, o3] 39)).alloc (.cells #[.int .i64 0, .int .i64 0, .int .i64 0, .int .i64 0, .int .i64 0, .slice none 0 0, .slice none 0 0, .slice none 0 0] 39) := ⟨_, rfl⟩
  have ra : Row w2 w.heap.size 39 [.int .i64 x.1, .int .i64 x.2.1.1, .int .i64 x.2.1.2, .int .i64 x.2.2.1.1, .int .i64 x.2.2.1.2.1, o1, o2, o3] := by rw [hw2]; exact rowA (Row.new w 39 _) _
  have rr : Row w2 (w.heap.size + 1) 39 [.int .i64 0, .int .i64 0, .int .i64 0, .int .i64 0, .int .i64 0, .slice none 0 0, .slice none 0 0, .slice none 0 0] := by
    have h1 : (w.alloc (.cells #[.int .i64 x.1, .int .i64 x.2.1.1, .int .i64 x.2.1.2, .int .i64 x.2.2.1.1, .int .i64 x.2.2.1.2.1, o1, o2, o3] 39)).heap.size = w.heap.size + 1 := by simp
    rw [hw2, ← h1]
    exact Row.new (w.alloc (.cells #[.int .i64 x.1, .int .i64 x.2.1.1, .int .i64 x.2.1.2, .int .i64 x.2.2.1.1, .int .i64 x.2.2.1.2.1, o1, o2, o3] 39)) 39 [.int .i64 0, .int .i64 0, .int .i64 0, .int .i64 0, .int .i64 0, .slice none 0 0, .slice none 0 0, .slice none 0 0]
  have B : Below w.heap.size w w2 := by rw [hw2]; exact ((Below.refl _ w).alloc (Nat.le_refl _) _).alloc (by simp) _
  have hC : w.heap.size + 2 ≤ w2.heap.size := by rw [hw2]; simp
  go_enter Try.func39, Try.ntmps39
  go_upto_region 1 with fail
  rw [← hw2]
  clear hw2
  have hI : RReq Any w2 [.int .i64 x.2.2.1.1, .int .i64 x.2.2.1.2.1, o1, o2] (x.2.2.1) := ⟨_, _, rfl, t1.mv (Mv.below B), t2.mv (Mv.below B)⟩
  have hG := cloneReqS_any w2 _ _ hI hz.1
  have hrng : World.rangeAt w2 w.heap.size 3 [.int .i64 x.2.2.1.1, .int .i64 x.2.2.1.2.1, o1, o2] := fun q u hq => ra.cell (j := 3 + q) (by
    match q, hq with
    | 0, hq => exact hq
    | 1, hq => exact hq
    | 2, hq => exact hq
    | 3, hq => exact hq)
  go_upto_region 2 with (first
    | (refine wpList_load_mid rfl _ _ rfl w.heap.size 3 rfl [.int .i64 x.2.2.1.1, .int .i64 x.2.2.1.2.1, o1, o2] _ hrng Try.underlying30 rfl (by kernel_rfl) ?_)
    | (go_at_call 43; refine hG.mono ?_; rintro e wa0 ⟨rq0, rfl, hq0, hb0⟩; obtain ⟨a0, b0, rfl, fa0, fb0⟩ := hq0; have rai := ra.below hb0)
    | (refine wl_put rfl _ _ _ rfl w.heap.size 3 [.int .i64 x.2.2.1.1, .int .i64 x.2.2.1.2.1, a0, b0] rfl rfl _ _ rai (show 7 ≤ 8 by decide) (by kernel_rfl) (one4 fa0.one fb0.one) ?_; intro wb0 rbi hg0))
  clear hrng
  have ra : Row wb0 w.heap.size 39 [.int .i64 x.1, .int .i64 x.2.1.1, .int .i64 x.2.1.2, .int .i64 x.2.2.1.1, .int .i64 x.2.2.1.2.1, a0, b0, o3] := rbi.out
  have rr := (rr.below hb0).grown hg0 (fun h => by injection h; omega)
  have fa0 := ((fa0.mv (Mv.weak (L := w.heap.size + 2) hC)).mv (Mv.from hg0 (by omega) (Nat.le_refl _)))
  have fb0 := ((fb0.mv (Mv.weak (L := w.heap.size + 2) hC)).mv (Mv.from hg0 (by omega) (Nat.le_refl _)))
  have B : Below w.heap.size w wb0 := (below_and B (Nat.le_refl _) hb0).trans (grown_below hg0 (below_and B (Nat.le_refl _) hb0).size (fun k hk => by cases hk; exact Nat.le_refl _))
  have hC := Nat.le_trans hC (Nat.le_trans hb0.size hg0.size)
  clear hG hI rai rbi hb0 hg0
  have hI := (t3.mv mov_vote B.size (Mv.below B))
  have cI := ra.cell (j := 7) rfl
  have hG := cvotesS_any wb0 _ _ hI (hz.2)
  go_upto_region 3 with (first
    | (go_at_call 46; refine hG.mono ?_; rintro e wa1 ⟨v1, rfl, f1, hb1⟩; have rai := ra.below hb1)
    | (refine wl_set rfl _ _ _ rfl w.heap.size 7 _ rfl rfl _ _ rai (show 7 < 8 by decide) (by kernel_rfl) f1.one ?_; intro wb1 rbi hg1))
  have ra : Row wb1 w.heap.size 39 [.int .i64 x.1, .int .i64 x.2.1.1, .int .i64 x.2.1.2, .int .i64 x.2.2.1.1, .int .i64 x.2.2.1.2.1, a0, b0, v1] := rbi.out
  have rr := (rr.below hb1).grown hg1 (fun h => by injection h; omega)
  have fa0 := ((fa0.mv (Mv.belowF hb1 (Nat.le_refl _))).mv (Mv.from hg1 (by omega) (Nat.le_refl _)))
  have fb0 := ((fb0.mv (Mv.belowF hb1 (Nat.le_refl _))).mv (Mv.from hg1 (by omega) (Nat.le_refl _)))
  have f1 := ((f1.mv mov_vote (Nat.le_refl _) (Mv.weak (L := w.heap.size + 2) hC)).mv mov_vote hg1.size (Mv.from hg1 (by omega) (Nat.le_refl _)))
  have B : Below w.heap.size w wb1 := (below_and B (Nat.le_refl _) hb1).trans (grown_below hg1 (below_and B (Nat.le_refl _) hb1).size (fun k hk => by cases hk; exact Nat.le_refl _))
  have hC := Nat.le_trans hC (Nat.le_trans hb1.size hg1.size)
  clear hG hI rai rbi hb1 hg1 cI
  have hone : ∀ v ∈ [.int .i64 x.1, .int .i64 x.2.1.1, .int .i64 x.2.1.2, .int .i64 x.2.2.1.1, .int .i64 x.2.2.1.2.1, a0, b0, v1], v.oneCell' = true := by
    intro v hv
    have k_fa0 := fa0.one; have k_fb0 := fb0.one; have k_f1 := f1.one
    simp only [List.mem_cons, List.not_mem_nil, or_false] at hv
    rcases hv with rfl | rfl | rfl | rfl | rfl | rfl | rfl | rfl <;> first | rfl | assumption
  go_wp2_with (first
    | (refine wl_load rfl _ _ rfl w.heap.size rfl _ _ ra _ Try.underlying39 rfl (by kernel_rfl) ?_)
    | (refine wl_store rfl _ _ _ rfl (w.heap.size + 1) [.int .i64 x.1, .int .i64 x.2.1.1, .int .i64 x.2.1.2, .int .i64 x.2.2.1.1, .int .i64 x.2.2.1.2.1, a0, b0, v1] rfl rfl _ _ rr rfl (by kernel_rfl) hone ?_; intro w9 rr9 hg9))
  have B9 : Below w.heap.size w w9 := B.trans (grown_below hg9 B.size (fun k hk => by cases hk; omega))
  have fa0 := ((fa0.mv (Mv.from hg9 (by omega) (Nat.le_refl _))).mv (Mv.weak (L := w.heap.size) (by omega)))
  have fb0 := ((fb0.mv (Mv.from hg9 (by omega) (Nat.le_refl _))).mv (Mv.weak (L := w.heap.size) (by omega)))
  have f1 := ((f1.mv mov_vote hg9.size (Mv.from hg9 (by omega) (Nat.le_refl _))).mv mov_vote (Nat.le_refl _) (Mv.weak (L := w.heap.size) (by omega)))
  refine bodyPost_ret (v := .agg ([.int .i64 x.1, .int .i64 x.2.1.1, .int .i64 x.2.1.2, .int .i64 x.2.2.1.1, .int .i64 x.2.2.1.2.1, a0, b0, v1] : List Value).toArray) (results_cell_row rfl _ _ (w.heap.size + 1) _ _ (0, 0) _ (by rfl) rr9.out Try.underlying39 rfl (by kernel_rfl)) rfl ?_
  exact ⟨_, rfl, ⟨_, _, _, rfl, fa0, fb0, f1⟩, B9⟩
end Go.Proofs.Ytagoeccgmkjhoaa
